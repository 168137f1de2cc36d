package run_test

import (
	"encoding/binary"
	"hash/crc32"
	"iter"
	"slices"
	"strings"
	"testing"

	"wherry/api"
	"wherry/run"
)

// is is a key that has a value, none one that is Gone.
func is(k, s string) api.Change { return api.Change{K: k, Cell: api.Cell{S: s}} }
func none(k string) api.Change  { return api.Change{K: k, Cell: api.Cell{Gone: true}} }

// long is a text of n bytes.
func long(n int) string { return strings.Repeat("l", n) }

// over is a range over keys and cells.
func over(l ...api.Change) iter.Seq2[string, api.Cell] {
	return func(yield func(string, api.Cell) bool) {
		for _, c := range l {
			if !yield(c.K, c.Cell) {
				return
			}
		}
	}
}

// number and text are chapter 1's bytes, by the library.
func number(n int) string  { return string(binary.AppendUvarint(nil, uint64(n))) }
func text(s string) string { return number(len(s)) + s }

// low are the four bytes of a number, the lowest first.
func low(n uint32) string { return string(binary.LittleEndian.AppendUint32(nil, n)) }

// framed is chapter 5's frame, though the load be too long for one.
func framed(kind byte, load string) string {
	body := string([]byte{kind}) + text(load)
	return low(crc32.ChecksumIEEE([]byte(body))) + body
}

// loadOf is a block's load.
func loadOf(l ...api.Change) string {
	load := ""
	for _, c := range l {
		mark := "\x00"
		if c.Cell.Gone {
			mark = "\x01"
		}
		load += text(c.K) + mark + text(c.Cell.S)
	}
	return load
}

// entries are what an index has of blocks, one behind the other.
func entries(blocks ...[]api.Change) string {
	var b strings.Builder
	for _, l := range blocks {
		b.WriteString(number(len(framed(2, loadOf(l...)))) + text(l[0].K))
	}
	return b.String()
}

// indexed is an index's frame of that load, and its length behind it.
func indexed(load string) string {
	index := framed(3, load)
	return index + low(uint32(len(index)))
}

// framesOf are the frames of blocks.
func framesOf(blocks ...[]api.Change) string {
	var b strings.Builder
	for _, l := range blocks {
		b.WriteString(framed(2, loadOf(l...)))
	}
	return b.String()
}

// runOf are the bytes of the run of these blocks, as the chapter's words say.
func runOf(blocks ...[]api.Change) string {
	return framesOf(blocks...) + indexed(number(len(blocks))+entries(blocks...))
}

// cut are the blocks into which Build puts keys, as P7.1 says.
func cut(block int, l []api.Change) [][]api.Change {
	var blocks [][]api.Change
	for _, c := range l {
		n := len(blocks)
		if n > 0 && len(loadOf(blocks[n-1]...)) < block {
			blocks[n-1] = append(blocks[n-1], c)
		} else {
			blocks = append(blocks, []api.Change{c})
		}
	}
	return blocks
}

// mustBuild holds Build to the run of these blocks.
func mustBuild(t *testing.T, what string, block int, blocks ...[]api.Change) string {
	t.Helper()
	b, err := run.Build(block, over(slices.Concat(blocks...)...))
	if want := runOf(blocks...); b != want || err != api.OK {
		t.Errorf("%s: %d bytes, error %d; want %d others", what, len(b), err, len(want))
	}
	return b
}

// mustNotBuild holds Build to an error, beside which there is nothing.
func mustNotBuild(t *testing.T, what string, block int, want api.Errno, l ...api.Change) {
	t.Helper()
	if b, err := run.Build(block, over(l...)); b != "" || err != want {
		t.Errorf("%s: %d bytes, error %d; want none and %d", what, len(b), err, want)
	}
}

// open is a run that may be opened.
func open(t *testing.T, what, b string) *run.Run {
	t.Helper()
	r, err := run.Open(b)
	if r == nil || err != api.OK {
		t.Fatalf("%s: %d bytes: %d", what, len(b), err)
	}
	return r
}

// mustNotOpen holds Open to ErrForm, beside which there is nothing.
func mustNotOpen(t *testing.T, what, b string) {
	t.Helper()
	if r, err := run.Open(b); r != nil || err != api.ErrForm {
		t.Errorf("%s: %d bytes: a run: %t, error %d", what, len(b), r != nil, err)
	}
}

// told are the keys and cells that a range tells, in its order.
func told(s iter.Seq2[string, api.Cell]) []api.Change {
	var l []api.Change
	for k, c := range s {
		l = append(l, api.Change{K: k, Cell: c})
	}
	return l
}

// mustHold holds a run to its keys and cells, and to how many blocks it has.
func mustHold(t *testing.T, what string, r *run.Run, blocks int, l ...api.Change) {
	t.Helper()
	if r.Len() != len(l) || r.Blocks() != blocks {
		t.Errorf("%s: %d keys in %d blocks, want %d in %d", what, r.Len(), r.Blocks(), len(l), blocks)
	}
	if got := told(r.From("")); !slices.Equal(got, l) {
		t.Errorf("%s: From: %d keys, want %d others", what, len(got), len(l))
	}
	for _, x := range l {
		if c, has := r.Get(x.K); c != x.Cell || !has {
			t.Errorf("%s: Get(%q): %d bytes, Gone %t, %t", what, x.K, len(c.S), c.Gone, has)
		}
	}
}

// mustOpen holds Open to the run of these blocks.
func mustOpen(t *testing.T, what string, blocks ...[]api.Change) {
	t.Helper()
	mustHold(t, what, open(t, what, runOf(blocks...)), len(blocks), slices.Concat(blocks...)...)
}

// P7.1 to P7.3: the chapter's examples.
func TestExamples(t *testing.T) {
	b, err := run.Build(64, over(is("a", "x")))
	if err != api.OK || b != framed(2, "\x01a\x00\x01x")+framed(3, "\x01\x0b\x01a")+"\x0a\x00\x00\x00" {
		t.Errorf("Build: %x %d", b, err)
	}
	r := open(t, "opened", b)
	if c, has := r.Get("a"); c != (api.Cell{S: "x"}) || !has {
		t.Error(c, has)
	}
	if c, has := r.Get("b"); c != (api.Cell{}) || has {
		t.Error(c, has)
	}
	mustNotBuild(t, "b, a", 64, api.ErrOrder, is("b", ""), is("a", ""))
}

// P7.1: runs, byte by byte.
func TestBytes(t *testing.T) {
	for _, x := range []struct {
		l    []api.Change
		want string
	}{
		{nil, "\x0a\x56\x1c\xe4\x03\x01\x00\x07\x00\x00\x00"},
		{[]api.Change{is("a", "x")}, "\x7d\x2e\x01\xa3\x02\x05\x01a\x00\x01x\xc6\x9d\x91\x55\x03\x04\x01\x0b\x01a\x0a\x00\x00\x00"},
		{
			[]api.Change{is("", ""), none("a"), is("ab", "xyz")},
			"\x0f\x4a\xa6\x5a\x02\x0f\x00\x00\x00\x01a\x01\x00\x02ab\x00\x03xyz\x00\xae\x40\xa5\x03\x03\x01\x15\x00\x09\x00\x00\x00",
		},
	} {
		if b, err := run.Build(64, over(x.l...)); b != x.want || err != api.OK {
			t.Errorf("%v: %x %d, want %x", x.l, b, err, x.want)
		}
	}
}
