package run_test

import (
	"fmt"
	"strings"
	"testing"

	"wherry/api"
	"wherry/run"
)

// P7.2: no bytes, and other bytes that are no run at all.
func TestOpenNothing(t *testing.T) {
	mustNotOpen(t, "no bytes", "")
	for _, some := range []string{"\x00", "\x01", "\x80", "\xff", "\x04\x00\x00\x00", "\x07\x00\x00\x00", "abc"} {
		for n := 1; n < 40; n++ {
			mustNotOpen(t, "no run", strings.Repeat(some, n))
		}
	}
	mustNotOpen(t, "very many", strings.Repeat("\x00", api.MaxFile))
	mustNotOpen(t, "too many", strings.Repeat("\x00", api.MaxFile+1))
	mustNotOpen(t, "far too many", strings.Repeat("\xff", 5*api.MaxFile))
}

// P7.2: a run without blocks.
func TestOpenNoBlocks(t *testing.T) {
	mustOpen(t, "no blocks")
	for what, b := range map[string]string{
		"a count of 1":            indexed("\x01"),
		"a count of 1, and it":    indexed("\x01\x0b\x01a"),
		"a block's entry behind":  indexed("\x00\x0b\x01a"),
		"a byte behind the load":  indexed("\x00\x00"),
		"no count":                indexed(""),
		"a count in another form": indexed("\x80\x00"),
		"a count that is cut":     indexed("\x80"),
		"a count above all":       indexed("\xff\xff\xff\xff\xff\xff\xff\xff\xff\x01"),
		"twice":                   indexed("\x00") + indexed("\x00"),
		"two indexes":             framed(3, "\x00") + indexed("\x00"),
		"two indexes, both said":  framed(3, "\x00") + framed(3, "\x00") + "\x0e\x00\x00\x00",
		"no index":                "\x00\x00\x00\x00",
		"the index alone":         framed(3, "\x00"),
	} {
		mustNotOpen(t, what, b)
	}
}

// P7.2: blocks of whatever sizes: those that Build would make are not the only
// ones.
func TestOpenOtherSizes(t *testing.T) {
	mustOpen(t, "one key a block", []api.Change{is("", "")}, []api.Change{none("a")}, []api.Change{is("b", "x")})
	mustOpen(t, "a short one between", []api.Change{is("a", long(5000))}, []api.Change{is("b", "")}, []api.Change{is("c", long(300)), is("d", "")})
	var great []api.Change
	for i := range 4 {
		great = append(great, is(fmt.Sprintf("%02d", i), long(16000)))
	}
	great = append(great, is("x", ""))
	great[4].Cell.S = long(api.MaxLoad - len(loadOf(great...)) - 1)
	if n := len(loadOf(great...)); n != api.MaxLoad {
		t.Fatalf("a load of %d bytes", n)
	}
	mustOpen(t, "a block of MaxLoad bytes", great)
	mustOpen(t, "two of them", great, []api.Change{is("y", "")})
	great[4].Cell.S += "l"
	mustNotOpen(t, "a block of a byte more", runOf(great))
	mustOpen(t, "the longest key and value", []api.Change{is(long(64), long(16384))}, []api.Change{is("m", long(16384)), is("n", "")})
	var many [][]api.Change
	for i := range 9000 {
		many = append(many, []api.Change{is(fmt.Sprintf("%04d", i), "")})
	}
	mustOpen(t, "very many blocks", many...)
}

// whole is a run of three blocks, to be spoilt.
func whole() [][]api.Change {
	return [][]api.Change{{is("a", "x"), none("b")}, {is("c", "yz")}, {is("d", ""), is("e", long(70)), is("f", "w")}}
}

// P7.2: keys, values and cells that may not be, in runs that are right but for
// that.
func TestOpenWrongCells(t *testing.T) {
	for what, spoil := range map[string]func(w [][]api.Change){
		"keys that are the same, within":         func(w [][]api.Change) { w[0][1].K = "a" },
		"keys that fall, within":                 func(w [][]api.Change) { w[2][2].K = "dd" },
		"keys that fall, within the first":       func(w [][]api.Change) { w[0][1].K = "" },
		"keys that are the same, block to block": func(w [][]api.Change) { w[1][0].K = "b" },
		"keys that fall, block to block":         func(w [][]api.Change) { w[1][0].K = "ab" },
		"keys that fall below all":               func(w [][]api.Change) { w[2][0].K = "" },
		"a key that is too long":                 func(w [][]api.Change) { w[1][0].K = "c" + long(64) },
		"a key that is far too long":             func(w [][]api.Change) { w[1][0].K = "c" + long(5000) },
		"a value that is too long":               func(w [][]api.Change) { w[1][0].Cell.S = long(16385) },
		"a cell that is Gone and has bytes":      func(w [][]api.Change) { w[1][0].Cell.Gone = true },
		"Gone with bytes, the last of all":       func(w [][]api.Change) { w[2][2].Cell.Gone = true },
		"blocks in another order":                func(w [][]api.Change) { w[0], w[1] = w[1], w[0] },
		"a block twice":                          func(w [][]api.Change) { w[1] = w[0] },
	} {
		w := whole()
		mustOpen(t, what+": whole", w...)
		spoil(w)
		mustNotOpen(t, what, runOf(w...))
	}
	w := whole()
	w[1][0].K = "c" + long(63)
	w[2][1].Cell.S = long(16384)
	mustOpen(t, "just long enough", w...)
}

// P7.2: a block's load to its last byte; the index tells what would be right.
func TestOpenWrongLoads(t *testing.T) {
	for what, load := range map[string]string{
		"no keys":                             "",
		"a key alone":                         "\x01a",
		"a key that is cut":                   "\x02a",
		"a key's length that is cut":          "\x80",
		"a key's length in another form":      "\x81\x00a\x00\x01x",
		"a key's length above all":            "\xff\xff\xff\xff\xff\xff\xff\xff\xff\x01a\x00\x01x",
		"no value":                            "\x01a\x00",
		"no value, Gone":                      "\x01a\x01",
		"a value that is cut":                 "\x01a\x00\x02x",
		"a value's length in another form":    "\x01a\x00\x81\x00x",
		"a value's length of 0, another form": "\x01a\x00\x80\x00",
		"2 for Gone":                          "\x01a\x02\x00",
		"2 for Gone, with a value":            "\x01a\x02\x01x",
		"255 for Gone":                        "\x01a\xff\x00",
		"128 for Gone":                        "\x01a\x80\x00",
		"Gone with bytes":                     "\x01a\x01\x01x",
		"a second key that is cut":            "\x01a\x00\x01x\x02b",
		"a byte behind the last one":          "\x01a\x00\x01x\x00",
		"two bytes behind the last one":       "\x01a\x00\x01x\x01b",
		"a second key without a value":        "\x01a\x00\x01x\x01b\x00",
		"a second key, the same":              "\x01a\x00\x01x\x01a\x00\x00",
		"a second key, the same, Gone":        "\x01a\x00\x01x\x01a\x01\x00",
		"a second key, 3 for Gone":            "\x01a\x00\x01x\x01b\x03\x00",
		"a second key, the empty one":         "\x01a\x00\x01x\x00\x00\x00",
		"a key of 65 bytes":                   "\x41" + long(65) + "\x00\x00",
		"a value of 16385 bytes":              "\x01a\x00\x81\x80\x01" + long(16385),
		"another frame":                       framed(2, "\x01a\x00\x01x"),
	} {
		bad := framed(2, load)
		for _, first := range []string{"a", "", long(65)} {
			entry := number(len(bad)) + text(first)
			mustNotOpen(t, what, bad+indexed("\x01"+entry))
			behind := []api.Change{is("x", "")}
			mustNotOpen(t, what+", first of two", bad+framesOf(behind)+indexed("\x02"+entry+entries(behind)))
			ahead := []api.Change{is("", "")}
			mustNotOpen(t, what+", second of two", framesOf(ahead)+bad+indexed("\x02"+entries(ahead)+entry))
			mustNotOpen(t, what+", and not in the index", bad+indexed("\x00"))
		}
	}
}

// P7.2: frames that are whole, but of another kind.
func TestOpenWrongKinds(t *testing.T) {
	load := loadOf(is("a", "x"))
	entry := "\x01" + entries([]api.Change{is("a", "x")})
	for kind := range 256 {
		if kind != 2 {
			mustNotOpen(t, "a block's", framed(byte(kind), load)+indexed(entry))
			mustNotOpen(t, "a second block's", framesOf(whole()[0])+framed(byte(kind), loadOf(is("c", "")))+indexed("\x02"+entries(whole()[0], []api.Change{is("c", "")})))
		}
		if kind != 3 {
			index := framed(byte(kind), entry)
			mustNotOpen(t, "the index's", framed(2, load)+index+low(uint32(len(index))))
			empty := framed(byte(kind), "\x00")
			mustNotOpen(t, "an empty index's", empty+low(uint32(len(empty))))
		}
	}
}

// P7.2: what the index tells is what the blocks are.
func TestOpenWrongIndex(t *testing.T) {
	w := whole()
	frames := framesOf(w...)
	one, two, three := entries(w[0]), entries(w[1]), entries(w[2])
	n := len(framesOf(w[1]))
	if _, err := run.Open(frames + indexed("\x03"+one+two+three)); err != api.OK {
		t.Fatalf("whole: %d", err)
	}
	for what, load := range map[string]string{
		"a count too small":                  "\x02" + one + two + three,
		"a count too great":                  "\x04" + one + two + three,
		"a count of 0":                       "\x00" + one + two + three,
		"a count in another form":            "\x83\x00" + one + two + three,
		"a count above all":                  "\xff\xff\xff\xff\xff\xff\xff\xff\xff\x01" + one + two + three,
		"none at all":                        "\x00",
		"no bytes":                           "",
		"the last one missing":               "\x02" + one + two,
		"the first one missing":              "\x02" + two + three,
		"the last one missing, but counted":  "\x03" + one + two,
		"one too much":                       "\x04" + one + two + three + number(len(framesOf([]api.Change{is("g", "")}))) + text("g"),
		"one twice":                          "\x04" + one + two + two + three,
		"another order":                      "\x03" + two + one + three,
		"a byte behind":                      "\x03" + one + two + three + "\x00",
		"an entry behind":                    "\x03" + one + two + three + three,
		"a byte less":                        "\x03" + one + two + three[:len(three)-1],
		"another length, greater":            "\x03" + one + number(n+1) + text("c") + three,
		"another length, less":               "\x03" + one + number(n-1) + text("c") + three,
		"a length of 0":                      "\x03" + one + number(0) + text("c") + three,
		"a length in another form":           "\x03" + one + string([]byte{byte(n) | 128, 0}) + text("c") + three,
		"a length above all":                 "\x03" + one + "\xff\xff\xff\xff\xff\xff\xff\xff\xff\x01" + text("c") + three,
		"a length that goes round":           "\x03" + one + string([]byte{byte(n) | 128, 128, 128, 128, 128, 128, 128, 128, 128, 2}) + text("c") + three,
		"the load's length, not the frame's": "\x03" + one + number(n-6) + text("c") + three,
		"lengths moved, the sum as it was":   "\x03" + number(len(framesOf(w[0]))+1) + text("a") + number(n-1) + text("c") + three,
		"another first key, above":           "\x03" + one + number(n) + text("cc") + three,
		"another first key, below":           "\x03" + one + number(n) + text("ba") + three,
		"another first key, as long":         "\x03" + one + number(n) + text("C") + three,
		"no first key":                       "\x03" + one + number(n) + text("") + three,
		"the block's second key":             "\x03" + number(len(framesOf(w[0]))) + text("b") + two + three,
		"the block's last key":               "\x03" + one + two + number(len(framesOf(w[2]))) + text("f"),
		"a first key that is too long":       "\x03" + one + number(n) + text(long(65)) + three,
		"a first key's length, another form": "\x03" + one + number(n) + "\x81\x00c" + three,
		"two of three as one":                "\x02" + number(len(framesOf(w[0], w[1]))) + text("a") + three,
	} {
		mustNotOpen(t, what, frames+indexed(load))
	}
}

// P7.2: the four bytes at the end.
func TestOpenWrongLength(t *testing.T) {
	for _, blocks := range [][][]api.Change{nil, whole(), {{is("a", "x")}}} {
		b := runOf(blocks...)
		rest := b[:len(b)-4]
		n := uint32(len(indexed(number(len(blocks))+entries(blocks...))) - 4)
		if rest+low(n) != b {
			t.Fatalf("%x isn't at the end of %x", low(n), b)
		}
		for _, other := range []uint32{0, 1, n - 1, n + 1, n + 4, n - 4, n << 8, n | 1<<24, n | 1<<31, uint32(len(rest)) + 1, uint32(len(b)), uint32(len(b)) + 1, 1 << 31, 1<<32 - 1} {
			mustNotOpen(t, "another length", rest+low(other))
		}
		if len(blocks) > 0 {
			mustNotOpen(t, "all bytes", rest+low(uint32(len(rest))))
		}
		end := low(n)
		mustNotOpen(t, "the highest first", rest+string([]byte{end[3], end[2], end[1], end[0]}))
		for bytes := range 4 {
			mustNotOpen(t, "fewer than four", rest+end[:bytes])
		}
		mustNotOpen(t, "five", rest+end+"\x00")
		mustNotOpen(t, "twice", rest+end+end)
	}
}

// P7.2: bytes ahead, between and behind.
func TestOpenOtherBytes(t *testing.T) {
	w := whole()
	places := []string{framesOf(w[0]), framesOf(w[1]), framesOf(w[2])}
	b := runOf(w...)
	index := b[len(framesOf(w...)) : len(b)-4]
	places = append(places, index, b[len(b)-4:])
	if strings.Join(places, "") != b {
		t.Fatal("these aren't its parts")
	}
	block := framesOf([]api.Change{is("g", "")})
	for _, bytes := range []string{"\x00", "\xff", "abcd", "\x00\x00\x00\x00", block, framed(1, ""), framed(2, ""), index, runOf(), b} {
		for i := range len(places) + 1 {
			spoilt := strings.Join(places[:i], "") + bytes + strings.Join(places[i:], "")
			mustNotOpen(t, fmt.Sprintf("%d bytes at place %d", len(bytes), i), spoilt)
		}
	}
	for i := range places {
		mustNotOpen(t, fmt.Sprintf("without part %d", i), strings.Join(places[:i], "")+strings.Join(places[i+1:], ""))
		for j := range i {
			swapped := append([]string(nil), places...)
			swapped[i], swapped[j] = swapped[j], swapped[i]
			mustNotOpen(t, fmt.Sprintf("parts %d and %d changed", i, j), strings.Join(swapped, ""))
		}
	}
	for n := 1; n < len(b); n++ {
		mustNotOpen(t, "an end", b[n:])
	}
}

// P7.2: a frame that is not whole: each bit turned, each byte another one, one
// taken out, one put in.
func TestOpenNotWhole(t *testing.T) {
	for _, blocks := range [][][]api.Change{nil, {{is("a", "x")}}, whole()} {
		b := runOf(blocks...)
		for at := range len(b) {
			for other := range 256 {
				if byte(other) != b[at] {
					mustNotOpen(t, fmt.Sprintf("byte %d", at), b[:at]+string([]byte{byte(other)})+b[at+1:])
				}
			}
			mustNotOpen(t, fmt.Sprintf("without byte %d", at), b[:at]+b[at+1:])
			for _, more := range []string{"\x00", "\x01", "\x80", "\xff"} {
				mustNotOpen(t, fmt.Sprintf("more at %d", at), b[:at]+more+b[at:])
			}
		}
	}
}
