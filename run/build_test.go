package run_test

import (
	"fmt"
	"iter"
	"math"
	"strings"
	"testing"

	"wherry/api"
	"wherry/run"
)

// P7.1: which blocks there may be; of another one nothing is looked at.
func TestBuildBlock(t *testing.T) {
	for _, block := range []int{64, 65, 1024, 4095, 4096} {
		mustBuild(t, "a block that may be", block, []api.Change{is("a", "x")})
	}
	for _, block := range []int{63, 4097, 0, 1, -1, -64, 1 << 32, 1<<32 + 64, math.MinInt, math.MaxInt} {
		mustNotBuild(t, "a block that may not be", block, api.ErrArg, is("a", "x"))
		mustNotBuild(t, "and a key that is too long", block, api.ErrArg, is(long(65), "x"))
		mustNotBuild(t, "and keys that fall", block, api.ErrArg, is("b", ""), is("a", ""))
		mustNotBuild(t, "of nothing", block, api.ErrArg)
		if b, err := run.Build(block, nil); b != "" || err != api.ErrArg {
			t.Errorf("block %d, nil: %x %d", block, b, err)
		}
	}
}

// P7.1: a nil range is one over nothing: a run without blocks.
func TestBuildNothing(t *testing.T) {
	for what, s := range map[string]iter.Seq2[string, api.Cell]{"nil": nil, "over nothing": over()} {
		for _, block := range []int{64, 4096} {
			b, err := run.Build(block, s)
			if b != runOf() || err != api.OK {
				t.Errorf("%s: %x %d", what, b, err)
			}
			mustHold(t, what, open(t, what, b), 0)
		}
	}
}

// P7.1: how long keys and values may be.
func TestBuildLengths(t *testing.T) {
	for _, c := range []api.Change{
		is("", ""), is("", "x"), none(""), is(long(64), ""), none(long(64)), is("a", long(16384)), is("", long(16384)), is(long(64), long(16384)),
		is("a", long(127)), is("a", long(128)), is("\x00", "\x00"), is("\xff\xfe", "\x80\xe2\x82"),
	} {
		b := mustBuild(t, "one key", 64, []api.Change{c})
		mustHold(t, "one key", open(t, "one key", b), 1, c)
	}
	for _, c := range []api.Change{is(long(65), ""), none(long(65)), is(long(1<<20), ""), is("a", long(16385)), is("", long(1<<20)), is(long(65), long(16385))} {
		mustNotBuild(t, "too long", 64, api.ErrLong, c)
		mustNotBuild(t, "too long, behind others", 4096, api.ErrLong, is("", "x"), is("a", "x"), is("l"+c.K, c.Cell.S))
	}
}

// P7.1: a cell that is Gone has no bytes.
func TestBuildGone(t *testing.T) {
	mustBuild(t, "Gone", 64, []api.Change{none("a"), is("b", ""), none("c")})
	for _, s := range []string{"x", "\x00", long(16384)} {
		bytes := api.Change{K: "b", Cell: api.Cell{S: s, Gone: true}}
		mustNotBuild(t, "Gone with bytes", 64, api.ErrArg, bytes)
		mustNotBuild(t, "Gone with bytes, between", 64, api.ErrArg, is("a", ""), bytes, is("c", ""))
	}
}

// P7.1: each key is above the one ahead of it, by its bytes.
func TestBuildOrder(t *testing.T) {
	mustBuild(t, "rising", 4096, []api.Change{is("", ""), is("\x00", ""), is("\x00\x00", ""), is("A", ""), is("a", ""), is("aa", ""), is("b", ""), is("\x80", ""), is("\xc3\xa9", ""), is("\xff", "")})
	for _, x := range [][2]string{{"", ""}, {"a", "a"}, {"b", "a"}, {"a", ""}, {"ab", "a"}, {"a", "A"}, {"\x80", "a"}, {"\xff", "\x00"}, {"a\x00", "a"}, {"10", "1"}, {"2", "10"}} {
		for _, block := range []int{64, 4096} {
			mustNotBuild(t, fmt.Sprintf("%q", x), block, api.ErrOrder, is(x[0], ""), is(x[1], ""))
			mustNotBuild(t, "both Gone", block, api.ErrOrder, none(x[0]), none(x[1]))
			mustNotBuild(t, "another block", block, api.ErrOrder, is(x[0], long(5000)), is(x[1], ""))
		}
	}
	mustNotBuild(t, "below the one ahead alone", 64, api.ErrOrder, is("a", ""), is("c", ""), is("b", ""))
	mustNotBuild(t, "the same, though not one behind the other", 64, api.ErrOrder, is("a", ""), is("b", ""), is("a", ""))
}

// P7.1: the first one along the range is told and, of one key, the first one
// that the promise names.
func TestBuildFirstWrong(t *testing.T) {
	bytes := func(k, s string) api.Change { return api.Change{K: k, Cell: api.Cell{S: s, Gone: true}} }
	for _, x := range []struct {
		what string
		want api.Errno
		l    []api.Change
	}{
		{"too long, then Gone with bytes, then falling", api.ErrLong, []api.Change{is("b", long(16385)), bytes("c", "x"), is("a", "")}},
		{"too long, then falling", api.ErrLong, []api.Change{is(long(65), ""), is("a", "")}},
		{"Gone with bytes, then too long", api.ErrArg, []api.Change{bytes("b", "x"), is(long(65), "")}},
		{"Gone with bytes, then falling", api.ErrArg, []api.Change{bytes("b", "x"), is("a", "")}},
		{"falling, then too long", api.ErrOrder, []api.Change{is("b", ""), is("a", ""), is(long(65), "")}},
		{"the same, then Gone with bytes", api.ErrOrder, []api.Change{is("b", ""), is("b", ""), bytes("c", "x")}},
		{"too long and Gone with bytes", api.ErrLong, []api.Change{bytes(long(65), "x")}},
		{"too long and Gone, with too many bytes", api.ErrLong, []api.Change{bytes("a", long(16385))}},
		{"too long and falling", api.ErrLong, []api.Change{is("m", ""), is(long(65), "")}},
		{"a value too long, and the same", api.ErrLong, []api.Change{is("m", ""), is("m", long(16385))}},
		{"Gone with bytes and falling", api.ErrArg, []api.Change{is("b", ""), bytes("a", "x")}},
		{"all at once", api.ErrLong, []api.Change{is("m", ""), bytes(long(65), long(16385))}},
	} {
		for _, block := range []int{64, 4096} {
			mustNotBuild(t, x.what, block, x.want, x.l...)
		}
	}
}

// P7.1: a key goes into the last block as long as that has fewer bytes than
// told, however many it has then.
func TestBuildBlocksFull(t *testing.T) {
	for _, block := range []int{64, 65, 200, 4096} {
		for _, size := range []int{block - 3, block - 2, block - 1, block, block + 1} {
			first := is("a", "")
			for len(loadOf(first)) < size {
				first.Cell.S += "x"
			}
			// Where the value's length takes a byte more, one size is left out.
			full := len(loadOf(first)) >= block
			second, third := is("b", long(16384)), is("c", "")
			if full {
				mustBuild(t, "full", block, []api.Change{first}, []api.Change{second}, []api.Change{third})
			} else {
				mustBuild(t, "not full", block, []api.Change{first, second}, []api.Change{third})
			}
		}
	}
	// 21 bytes and 43 are 64: with one byte less the next one goes there, too.
	mustBuild(t, "just full by two", 64, []api.Change{is("a", long(17)), is("b", long(39))}, []api.Change{none("c"), is("d", "")})
	mustBuild(t, "a byte less by two", 64, []api.Change{is("a", long(17)), is("b", long(38)), none("c")}, []api.Change{is("d", "")})
	mustBuild(t, "the greatest", 4096, []api.Change{is("a", long(4088)), is(long(64), long(16384))}, []api.Change{is("m", "")})
}

// manyKeys are n keys of 64 bytes, each a block of its own, where blocks are
// of 64 bytes, and a last one.
func manyKeys(n int, last string) []api.Change {
	var l []api.Change
	for i := range n {
		l = append(l, is(fmt.Sprintf("%064d", i), ""))
	}
	return append(l, is(last, ""))
}

// P7.1: an index of MaxLoad bytes, and one of a byte more.
func TestBuildIndexTooLong(t *testing.T) {
	for _, x := range []struct {
		last string
		load int
	}{{long(59), 65535}, {long(60), 65536}, {long(61), 65537}, {long(62), 65538}} {
		l := manyKeys(992, x.last)
		blocks := cut(64, l)
		if load := number(len(blocks)) + entries(blocks...); len(load) != x.load {
			t.Fatalf("an index of %d bytes, not of %d", len(load), x.load)
		}
		if x.load > api.MaxLoad {
			mustNotBuild(t, "an index too long", 64, api.ErrLong, l...)
			mustNotOpen(t, "an index too long", runOf(blocks...))
			continue
		}
		b := mustBuild(t, "a long index", 64, blocks...)
		mustHold(t, "a long index", open(t, "a long index", b), 993, l...)
	}
	mustNotBuild(t, "an index far too long", 64, api.ErrLong, manyKeys(3000, "l")...)
	// Fewer blocks: the index is short then.
	l := manyKeys(3000, "l")
	mustBuild(t, "greater blocks", 4096, cut(4096, l)...)
}

// ofBytes are blocks, one a key, of a run of just so many bytes (near MaxFile).
func ofBytes(t *testing.T, n int) [][]api.Change {
	t.Helper()
	var blocks [][]api.Change
	for i := range 64 {
		blocks = append(blocks, []api.Change{is(fmt.Sprintf("%04d", i), strings.Repeat("\x00v\xff.", 16384/4))})
	}
	last := &blocks[63][0].Cell
	last.S = last.S[:10000]
	last.S = strings.Repeat("w", 10000+n-len(runOf(blocks...)))
	if got := len(runOf(blocks...)); got != n {
		t.Fatalf("a run of %d bytes, not of %d", got, n)
	}
	return blocks
}

// P7.1 and P7.2: a run of MaxFile bytes, and one of a byte more.
func TestRunTooLong(t *testing.T) {
	for _, n := range []int{api.MaxFile - 1, api.MaxFile} {
		blocks := ofBytes(t, n)
		b := mustBuild(t, "a long run", 4096, blocks...)
		if len(b) != n {
			t.Errorf("%d bytes, want %d", len(b), n)
		}
		mustOpen(t, "a long run", blocks...)
	}
	for _, n := range []int{api.MaxFile + 1, api.MaxFile + 2, api.MaxFile + 1000} {
		blocks := ofBytes(t, n)
		var l []api.Change
		for _, block := range blocks {
			l = append(l, block...)
		}
		mustNotBuild(t, "too long a run", 4096, api.ErrLong, l...)
		mustNotOpen(t, "too long a run", runOf(blocks...))
	}
}

// P7.1: what is wrong along the range comes ahead of a run that is too long.
func TestBuildTooLongAndWrong(t *testing.T) {
	bytes := api.Change{K: "z", Cell: api.Cell{S: "x", Gone: true}}
	for what, many := range map[string][]api.Change{"index": manyKeys(1500, "m"), "index far": manyKeys(40000, "m"), "run": manyKeys(0, "m")} {
		if what == "run" {
			for i := range 200 {
				many = append(many, is(fmt.Sprintf("n%04d", i), long(16384)))
			}
		}
		mustNotBuild(t, what, 64, api.ErrLong, many...)
		mustNotBuild(t, what+", falling", 64, api.ErrOrder, append(many[:len(many):len(many)], is("a", ""))...)
		mustNotBuild(t, what+", the same", 64, api.ErrOrder, append(many[:len(many):len(many)], many[len(many)-1])...)
		mustNotBuild(t, what+", Gone with bytes", 64, api.ErrArg, append(many[:len(many):len(many)], bytes)...)
	}
}

// P7.1 and R1: a range is gone through once, is left where something is wrong,
// and may be one that goes on telling though it was left.
func TestBuildRanges(t *testing.T) {
	times := 0
	once := func(yield func(string, api.Cell) bool) {
		times++
		over(is("a", "x"), none("b"))(yield)
	}
	if b, err := run.Build(64, once); b != runOf([]api.Change{is("a", "x"), none("b")}) || err != api.OK || times != 1 {
		t.Errorf("once: %x %d, ranged over %d times", b, err, times)
	}
	deaf := func(yield func(string, api.Cell) bool) {
		yield("b", api.Cell{})
		yield("a", api.Cell{})
		yield(long(65), api.Cell{})
		yield("c", api.Cell{})
	}
	if b, err := run.Build(64, deaf); b != "" || err != api.ErrOrder {
		t.Errorf("deaf: %x %d", b, err)
	}
	told := 0
	lasting := func(yield func(string, api.Cell) bool) {
		for told < 1<<20 && yield("a", api.Cell{}) {
			told++
		}
	}
	if b, err := run.Build(64, lasting); b != "" || err != api.ErrOrder || told > 2 {
		t.Errorf("it isn't left: %x %d, behind %d keys", b, err, told)
	}
	asked := false
	never := func(func(string, api.Cell) bool) { asked = true }
	if b, err := run.Build(63, never); b != "" || err != api.ErrArg || asked {
		t.Errorf("a block that may not be: %x %d, ranged over: %t", b, err, asked)
	}
}

// P7.1 and R4: nothing is kept between calls: a run is built within the range
// of another one, and each is what it is alone.
func TestBuildWithin(t *testing.T) {
	inner := ""
	within := func(yield func(string, api.Cell) bool) {
		if !yield("a", api.Cell{S: "x"}) {
			return
		}
		inner, _ = run.Build(64, over(is("0", "y"), none("1")))
		yield("b", api.Cell{})
	}
	outer, err := run.Build(64, within)
	if outer != runOf([]api.Change{is("a", "x"), is("b", "")}) || err != api.OK {
		t.Errorf("around: %x %d", outer, err)
	}
	if inner != runOf([]api.Change{is("0", "y"), none("1")}) {
		t.Errorf("within: %x", inner)
	}
}
