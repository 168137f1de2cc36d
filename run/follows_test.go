package run_test

import (
	"encoding/binary"
	"fmt"
	"hash/crc32"
	"iter"
	"maps"
	"slices"
	"strings"
	"testing"

	"wherry/api"
	"wherry/merge"
	"wherry/run"
)

// steps are numbers that look like chance and are the same each time.
func steps(seed uint64) func(n int) int {
	return func(n int) int {
		seed = seed*6364136223846793005 + 1442695040888963407
		return int(seed>>33) % n
	}
}

// chance are keys and cells, by rising keys.
func chance(next func(n int) int) []api.Change {
	keys := map[string]int{}
	for range next(40) {
		k := ""
		for range next(5) {
			k += "\x00ab\xff"[next(4):][:1]
		}
		keys[k+strings.Repeat("k", next(2)*next(60))]++
	}
	var l []api.Change
	for _, k := range slices.Sorted(maps.Keys(keys)) {
		switch n := next(6); {
		case n == 0:
			l = append(l, none(k))
		case n == 1:
			l = append(l, is(k, long(next(5000))))
		default:
			l = append(l, is(k, long(next(40))))
		}
	}
	return l
}

// P7.4: what was built is opened and told as it was, whatever the block's size.
func TestBuiltIsOpened(t *testing.T) {
	for seed := range uint64(400) {
		next := steps(seed)
		l := chance(next)
		for _, block := range []int{64, 65, 128, 1000, 4096, 64 + next(4033)} {
			what := fmt.Sprintf("seed %d, block %d", seed, block)
			blocks := cut(block, l)
			r := open(t, what, mustBuild(t, what, block, blocks...))
			mustHold(t, what, r, len(blocks), l...)
			mustSeek(t, what, r, l, next)
		}
	}
}

// mustSeek holds Get and From of keys that may be there or not to l.
func mustSeek(t *testing.T, what string, r *run.Run, l []api.Change, next func(n int) int) {
	t.Helper()
	for range 10 {
		k := ""
		if len(l) > 0 {
			k = l[next(len(l))].K
		}
		if k != "" && next(2) == 0 {
			k = k[:next(len(k))]
		}
		k += "\x00b"[:next(3)]
		i := slices.IndexFunc(l, func(c api.Change) bool { return c.K >= k })
		if i < 0 {
			i = len(l)
		}
		want, there := api.Cell{}, i < len(l) && l[i].K == k
		if there {
			want = l[i].Cell
		}
		if c, has := r.Get(k); c != want || has != there {
			t.Errorf("%s: Get(%q): %v %t", what, k, c, has)
		}
		if got := told(r.From(k)); !slices.Equal(got, l[i:]) {
			t.Errorf("%s: From(%q): %d keys, want %d", what, k, len(got), len(l)-i)
		}
	}
}

// P7.4: what is told by one run builds the same run, and runs that are put
// together build what they come to.
func TestToldIsBuilt(t *testing.T) {
	for seed := range uint64(100) {
		next := steps(seed)
		newer, older := chance(next), chance(next)
		blocks := []int{64 + next(200), 64 + next(200)}
		first := open(t, "newer", mustBuild(t, "newer", blocks[0], cut(blocks[0], newer)...))
		second := open(t, "older", mustBuild(t, "older", blocks[1], cut(blocks[1], older)...))
		again, err := run.Build(blocks[0], first.From(""))
		if err != api.OK || again != runOf(cut(blocks[0], newer)...) {
			t.Errorf("seed %d: built again: %d bytes, error %d", seed, len(again), err)
		}
		cells := map[string]api.Cell{}
		for _, c := range slices.Concat(older, newer) {
			cells[c.K] = c.Cell
		}
		var all []api.Change
		for _, k := range slices.Sorted(maps.Keys(cells)) {
			all = append(all, api.Change{K: k, Cell: cells[k]})
		}
		both, err := run.Build(64, merge.Merge(first.From(""), second.From("")))
		if err != api.OK || both != runOf(cut(64, all)...) {
			t.Errorf("seed %d: put together: %d bytes, error %d", seed, len(both), err)
		}
	}
}

// P7.4: no beginning of a run is one, unless it is the run, though its values be
// runs themselves.
func TestNoBeginningIsOne(t *testing.T) {
	inner := runOf(whole()...)
	for what, blocks := range map[string][][]api.Change{
		"no blocks": nil, "one key": {{is("a", "x")}}, "three blocks": whole(),
		"a run in a value": {{is("a", inner), is("b", runOf())}, {is("c", inner)}},
		"a frame in a key": {{is(framed(3, "\x00")+"\x07\x00\x00\x00", inner)}},
	} {
		b := runOf(blocks...)
		for n := range len(b) {
			mustNotOpen(t, fmt.Sprintf("%s: the first %d bytes", what, n), b[:n])
		}
		mustOpen(t, what, blocks...)
	}
	for seed := range uint64(20) {
		next := steps(seed)
		b := runOf(cut(64, chance(next))...)
		for n := 0; n < len(b); n += 1 + next(1+len(b)/300) {
			mustNotOpen(t, fmt.Sprintf("seed %d: the first %d bytes", seed, n), b[:n])
		}
	}
}

// P7.4: no key is told twice, and each is above the one ahead of it.
func TestNoKeyTwice(t *testing.T) {
	for seed := range uint64(200) {
		next := steps(seed)
		l := chance(next)
		b, err := run.Build(64, over(l...))
		if err != api.OK {
			t.Fatal(err)
		}
		r := open(t, "built", b)
		n, ahead := 0, ""
		for k := range r.From("") {
			if n > 0 && k <= ahead {
				t.Errorf("seed %d: %q behind %q", seed, k, ahead)
			}
			n, ahead = n+1, k
		}
		if n != r.Len() {
			t.Errorf("seed %d: %d told, %d there", seed, n, r.Len())
		}
	}
}

// plainNumber, plainText and plainFrame read chapter 1's and 5's forms, by the
// library.
func plainNumber(s string) (int, string, bool) {
	v, n := binary.Uvarint([]byte(s))
	if n <= 0 || v > 1<<30 || n != len(number(int(v))) {
		return 0, "", false
	}
	return int(v), s[n:], true
}

func plainText(s string, most int) (string, string, bool) {
	n, rest, ok := plainNumber(s)
	if !ok || n > most || n > len(rest) {
		return "", "", false
	}
	return rest[:n], rest[n:], true
}

// plainFrame is the load of a frame that is all of s.
func plainFrame(s string, kind byte) (string, bool) {
	if len(s) < 6 || s[4] != kind || s[:4] != low(crc32.ChecksumIEEE([]byte(s[4:]))) {
		return "", false
	}
	load, rest, ok := plainText(s[5:], api.MaxLoad)
	return load, ok && rest == ""
}

// plainCells are the keys and cells of a block's load.
func plainCells(load string) ([]api.Change, bool) {
	var l []api.Change
	for load != "" {
		k, rest, ok := plainText(load, 64)
		if !ok || rest == "" || rest[0] > 1 {
			return nil, false
		}
		s, behind, ok := plainText(rest[1:], 16384)
		if !ok || rest[0] == 1 && s != "" {
			return nil, false
		}
		l = append(l, api.Change{K: k, Cell: api.Cell{S: s, Gone: rest[0] == 1}})
		load = behind
	}
	return l, true
}

// plainOpen is P7.2, word by word, from the end on: the four bytes, the index,
// the blocks as the index tells them.
func plainOpen(b string) ([]api.Change, int, bool) {
	if len(b) > api.MaxFile || len(b) < 4 {
		return nil, 0, false
	}
	n := int(binary.LittleEndian.Uint32([]byte(b[len(b)-4:])))
	b = b[:len(b)-4]
	if n > len(b) {
		return nil, 0, false
	}
	index, ok := plainFrame(b[len(b)-n:], 3)
	if !ok {
		return nil, 0, false
	}
	b = b[:len(b)-n]
	blocks, index, ok := plainNumber(index)
	if !ok {
		return nil, 0, false
	}
	var all []api.Change
	for range blocks {
		var cells []api.Change
		if cells, b, index, ok = plainBlock(b, index); !ok {
			return nil, 0, false
		}
		all = append(all, cells...)
	}
	for i := 1; i < len(all); i++ {
		ok = ok && all[i-1].K < all[i].K
	}
	return all, blocks, ok && b == "" && index == ""
}

// plainBlock takes the first block, as the index's first entry tells it, and
// what is left of both.
func plainBlock(b, index string) ([]api.Change, string, string, bool) {
	size, index, ok := plainNumber(index)
	if !ok || size > len(b) {
		return nil, "", "", false
	}
	first, index, ok := plainText(index, 64)
	if !ok {
		return nil, "", "", false
	}
	load, ok := plainFrame(b[:size], 2)
	if !ok {
		return nil, "", "", false
	}
	cells, ok := plainCells(load)
	return cells, b[size:], index, ok && len(cells) > 0 && cells[0].K == first
}

// spoilt is s with one byte another one, out, or in, now and then.
func spoilt(s string, often int, next func(n int) int) string {
	if next(often) > 0 || s == "" {
		return s
	}
	at := next(len(s))
	switch next(4) {
	case 0:
		return s[:at] + s[at+1:]
	case 1:
		return s[:at] + "\x00\x01\x02\x80\xff"[next(5):][:1] + s[at:]
	case 2:
		return s[:at]
	}
	b := []byte(s)
	b[at] ^= 1 << next(8)
	return string(b)
}

// likely are bytes that are a run but for a little, each sum right as a rule.
func likely(next func(n int) int) string {
	var frames, index strings.Builder
	blocks := cut(1+next(60), chance(next))
	blocks = blocks[:min(len(blocks), next(5))]
	if len(blocks) > 1 && next(12) == 0 {
		blocks[next(len(blocks))] = blocks[0]
	}
	for _, l := range blocks {
		f := framed(byte(2+next(40)/39), spoilt(loadOf(l...), 12, next))
		index.WriteString(spoilt(number(len(f))+text(l[0].K), 15, next))
		frames.WriteString(spoilt(f, 15, next))
	}
	count := number(len(blocks) + next(20)/19)
	behind := framed(byte(3-next(30)/29), spoilt(count+index.String(), 15, next))
	return spoilt(frames.String()+behind+low(uint32(len(behind)+next(20)/19)), 10, next)
}

// P7.2: bytes that are nearly a run, or one, are what the words say.
func TestAsTold(t *testing.T) {
	seen := map[bool]int{}
	for seed := range uint64(30000) {
		b := likely(steps(seed))
		l, blocks, ok := plainOpen(b)
		seen[ok]++
		if !ok {
			mustNotOpen(t, fmt.Sprintf("seed %d", seed), b)
			continue
		}
		mustHold(t, fmt.Sprintf("seed %d", seed), open(t, "as told", b), blocks, l...)
	}
	if seen[true] < 2000 || seen[false] < 2000 {
		t.Errorf("runs: %d, others: %d", seen[true], seen[false])
	}
}

// plainBuild is P7.1, word by word.
func plainBuild(block int, l []api.Change) (string, api.Errno) {
	for i, c := range l {
		switch {
		case len(c.K) > 64 || len(c.Cell.S) > 16384:
			return "", api.ErrLong
		case c.Cell.Gone && c.Cell.S != "":
			return "", api.ErrArg
		case i > 0 && c.K <= l[i-1].K:
			return "", api.ErrOrder
		}
	}
	return runOf(cut(block, l)...), api.OK
}

// P7.1: ranges with something wrong in them, or not, answer as the words say.
func TestBuiltAsTold(t *testing.T) {
	seen := map[api.Errno]int{}
	for seed := range uint64(3000) {
		next := steps(seed)
		l := chance(next)
		for range next(3) {
			if len(l) < 2 {
				break
			}
			c := &l[next(len(l))]
			switch next(6) {
			case 0:
				c.K = long(65)
			case 1:
				c.Cell.S = long(16385)
			case 2:
				c.Cell = api.Cell{S: "x", Gone: true}
			case 3:
				*c = l[next(len(l))]
			case 4:
				c.K = long(64)
			}
		}
		block := 64 + next(3)*next(2000)
		want, wrong := plainBuild(block, l)
		seen[wrong]++
		for what, s := range map[string]iter.Seq2[string, api.Cell]{"over": over(l...), "kept": merge.Keep(over(l...), nil)} {
			if b, err := run.Build(block, s); b != want || err != wrong {
				t.Fatalf("seed %d, %s: %d bytes, error %d; want %d, %d", seed, what, len(b), err, len(want), wrong)
			}
		}
	}
	for _, err := range []api.Errno{api.OK, api.ErrLong, api.ErrArg, api.ErrOrder} {
		if seen[err] < 100 {
			t.Errorf("error %d came %d times only", err, seen[err])
		}
	}
}
