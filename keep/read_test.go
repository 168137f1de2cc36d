package keep_test

import (
	"fmt"
	"slices"
	"strings"
	"testing"

	"wherry/api"
	"wherry/keep"
)

// without is l without the one at i.
func without(l []row, i int) []row { return slices.Concat(l[:i], l[i+1:]) }

// put is l with another one at i.
func put(l []row, i int, r row) []row { return slices.Concat(l[:i], []row{r}, l[i+1:]) }

// insert is l with one more ahead of i.
func insert(l []row, i int, r row) []row { return slices.Concat(l[:i], []row{r}, l[i:]) }

// byLetter are full's rows of a letter.
func byLetter(letter string) []row {
	var l []row
	for _, r := range written(full()) {
		if r.key[:1] == letter {
			l = append(l, r)
		}
	}
	return l
}

const letters = "agijklprst"

// P14.2: rows of a state are read as it; the whole's row is always needed, any other
// one may not be there.
func TestReadRowLeftOut(t *testing.T) {
	l := written(full())
	mustRead(t, "full", l, full())
	mustNotRead(t, "without the whole", l[1:])
	for i := range l[1:] {
		want, ok := readOf(without(l, i+1))
		if !ok {
			t.Fatalf("without %q: the test itself is wrong", l[i+1].key)
		}
		mustRead(t, fmt.Sprintf("without %q", l[i+1].key), without(l, i+1), want)
		mustNotRead(t, "one row alone", l[i+1:i+2])
		mustRead(t, "with the whole alone", []row{l[0], l[i+1]}, func() api.State { s, _ := readOf([]row{l[0], l[i+1]}); return s }())
	}
}

// P14.2: rows that don't rise, or stand twice.
func TestReadRowsThatDoNotRise(t *testing.T) {
	l := written(full())
	for i := range l {
		mustNotRead(t, fmt.Sprintf("%q twice", l[i].key), insert(l, i, l[i]))
		mustNotRead(t, fmt.Sprintf("%q at the end again", l[i].key), append(slices.Clone(l), l[i]))
		if i > 0 {
			swapped := slices.Clone(l)
			swapped[i-1], swapped[i] = swapped[i], swapped[i-1]
			mustNotRead(t, fmt.Sprintf("%q ahead", l[i].key), swapped)
			mustNotRead(t, fmt.Sprintf("%q first", l[i].key), insert(without(l, i), 0, l[i]))
			mustNotRead(t, fmt.Sprintf("%q twice, unlike", l[i].key), insert(l, i, row{l[i].key, l[i-1].value}))
		}
	}
	back := slices.Clone(l)
	slices.Reverse(back)
	mustNotRead(t, "from the end", back)
	mustNotRead(t, "the whole twice", []row{l[0], l[0]})
	mustNotRead(t, "the whole twice, unlike", []row{{"a", "\x00\x00\x00"}, {"a", "\x01\x00\x00"}})
	mustNotRead(t, "the whole behind", []row{l[1], l[0]})
}

// P14.2: one row too many: another letter, a key that is only a letter or none.
func TestReadOtherLetters(t *testing.T) {
	l := written(full())
	for c := range 256 {
		letter := string([]byte{byte(c)})
		if strings.Contains(letters, letter) {
			continue
		}
		for _, rest := range []string{"", "p", "\x00\x00\x00\x00\x00\x00\x00\x07", "\x00\x00\x00\x00\x00\x00\x00\x07\x00\x04"} {
			at, _ := slices.BinarySearchFunc(l, letter+rest, func(r row, k string) int { return strings.Compare(r.key, k) })
			for _, v := range []string{"", "\x00", l[0].value, "\x00\x00\x00\x00\x00"} {
				mustNotRead(t, fmt.Sprintf("%q too many", letter+rest), insert(l, at, row{letter + rest, v}))
			}
		}
	}
	for _, v := range []string{"", "\x00", "\x00\x00\x00"} {
		mustNotRead(t, "an empty key", insert(l, 0, row{"", v}))
		mustNotRead(t, "an empty key alone", []row{{"", v}})
	}
	// A row of another letter's: only where the value is one of that letter, too.
	for i, r := range l {
		for _, letter := range strings.Split(letters, "") {
			other := put(l, i, row{letter + r.key[1:], r.value})
			slices.SortFunc(other, func(a, b row) int { return strings.Compare(a.key, b.key) })
			mustReadAsTheWords(t, fmt.Sprintf("%q as %s", r.key, letter), other)
		}
	}
}

// mustReadAsTheWords: what is read is what the words come to.
func mustReadAsTheWords(t *testing.T, what string, rows []row) bool {
	t.Helper()
	want, ok := readOf(rows)
	if ok {
		mustRead(t, what, rows, want)
	} else {
		mustNotRead(t, what, rows)
	}
	return ok
}

// P14.2: keys that are too short or too long.
func TestReadKeys(t *testing.T) {
	whole := written(full())[0]
	for _, k := range []string{"a\x00", "aa", "a\x00\x00\x00\x00\x00\x00\x00\x00"} {
		mustNotRead(t, "the whole of a longer key", []row{{k, whole.value}})
		mustNotRead(t, "the whole of a longer key too", []row{whole, {k, whole.value}})
	}
	for _, letter := range strings.Split("gijklrst", "") {
		r := byLetter(letter)[0]
		mustReadAsTheWords(t, "as it is", []row{whole, r})
		for n := 1; n < len(r.key); n++ {
			mustNotRead(t, fmt.Sprintf("%q of %d bytes", r.key, n), []row{whole, {r.key[:n], r.value}})
		}
		for _, more := range []string{"\x00", "\x01", "\x00\x00", "\x00\x04", "xyz", long(60)} {
			mustNotRead(t, fmt.Sprintf("%q and %q", r.key, more), []row{whole, {r.key + more, r.value}})
		}
	}
	for _, id := range []string{"", "x", long(32)} {
		mustRead(t, id, []row{{"a", "\x00\x00\x00"}, {"p" + id, "\x01b"}}, api.State{Procs: []api.Deployed{{Id: id, Bytes: "b"}}})
	}
	for _, n := range []int{33, 63, 64, 1025} {
		mustNotRead(t, "an Id that is too long", []row{whole, {"p" + long(n), "\x01b"}})
	}
	// Nodes stand in keys as far as they may be.
	for _, letter := range strings.Split("klrs", "") {
		v := byLetter(letter)[0].value
		for node, ok := range map[int]bool{0: true, 1: true, 29999: true, 30000: true, 30001: false, 32767: false, 32768: false, 65535: false} {
			if mustReadAsTheWords(t, fmt.Sprint(letter, node), []row{whole, {placeKey(letter, 7, node), v}}) != ok {
				t.Errorf("%s: node %d: the test itself is wrong", letter, node)
			}
		}
	}
}

// P14.2: values that are cut short, have bytes behind them, or others.
func TestReadValues(t *testing.T) {
	l := written(full())
	reads := 0
	for i, r := range l {
		for n := range r.value {
			mustNotRead(t, fmt.Sprintf("%q: %d bytes", r.key, n), put(l, i, row{r.key, r.value[:n]}))
		}
		for _, more := range []string{"\x00", "\x01", "\xff", "x", "\x00\x00\x00\x00", r.value} {
			mustNotRead(t, fmt.Sprintf("%q and %q", r.key, more), put(l, i, row{r.key, r.value + more}))
		}
		for n := range min(len(r.value), 40) {
			for by := 1; by < 256; by++ {
				other := []byte(r.value)
				other[n] ^= byte(by)
				if mustReadAsTheWords(t, fmt.Sprintf("%q: byte %d: %x", r.key, n, other[n]), []row{l[0], {r.key, string(other)}}) {
					reads++
				}
			}
		}
		if t.Failed() {
			return
		}
	}
	if reads < 2000 {
		t.Errorf("only %d are read", reads)
	}
}

// P14.2: values of other bounds than a state that may be has.
func TestReadValuesThatMayNotBe(t *testing.T) {
	whole := row{"a", "\x00\x00\x00"}
	key, at := numberKey("", 7), placeKey("", 7, 4)
	vars := varsBytes([]api.Var{num("b", 1), num("a", 1)})
	for what, r := range map[string]row{
		"a token's Node -2":          {"t" + key, "\x00\x00" + intBytes(-2) + "\x00\x00"},
		"a token's Node 30001":       {"t" + key, "\x00\x00" + intBytes(30001) + "\x00\x00"},
		"a token's Node 2^32":        {"t" + key, "\x00\x00" + intBytes(1<<32) + "\x00\x00"},
		"By -2":                      {"t" + key, "\x00\x00\x00" + intBytes(-2) + "\x00"},
		"By 30001":                   {"t" + key, "\x00\x00\x00" + intBytes(30001) + "\x00"},
		"a Stuck of 33":              {"t" + key, "\x00\x00\x00\x00" + textBytes(long(33))},
		"Retries -2":                 {"j" + key, "\x00\x00" + intBytes(-2) + "\x00\x00"},
		"Retries 30001":              {"j" + key, "\x00\x00" + intBytes(30001) + "\x00\x00"},
		"a Type of 33":               {"j" + key, "\x00" + textBytes(long(33)) + "\x00\x00\x00"},
		"a Worker of 33":             {"j" + key, "\x00\x00\x00" + textBytes(long(33)) + "\x00"},
		"a job until -1":             {"j" + key, "\x00\x00\x00\x00" + intBytes(-1)},
		"a job until 2^62 + 1":       {"j" + key, "\x00\x00\x00\x00" + intBytes(latest+1)},
		"a timer at -1":              {"r" + at, intBytes(-1)},
		"a timer at 2^62 + 1":        {"r" + at, intBytes(latest + 1)},
		"a truth that is 2":          {"s" + at, "\x00\x00\x00" + intBytes(2)},
		"a truth that is -1":         {"s" + at, "\x00\x00\x00" + intBytes(-1)},
		"a truth that is 2^32 + 1":   {"s" + at, "\x00\x00\x00" + intBytes(1<<32+1)},
		"a sub's Name of 33":         {"s" + at, "\x00" + textBytes(long(33)) + "\x00\x00"},
		"a sub's Key of 1025":        {"s" + at, "\x00\x00" + textBytes(long(1025)) + "\x00"},
		"a listed one's Name of 33":  {"l" + at, "\x00" + textBytes(long(33)) + "\x00\x00\x00"},
		"a listed one's Key of 1025": {"l" + at, "\x00\x00" + textBytes(long(1025)) + "\x00\x00"},
		"a listed one's Vars":        {"l" + at, "\x00\x00\x00\x00" + vars},
		"an instance's Id of 33":     {"i" + key, textBytes(long(33)) + "\x00"},
		"an instance's Vars":         {"i" + key, "\x00" + vars},
		"17 variables":               {"i" + key, "\x00\x11" + strings.Repeat("\x01a\x01\x00", 17)},
		"a message's Name of 33":     {"g" + key, textBytes(long(33)) + "\x00\x00\x00\x00\x00"},
		"a For of 1025":              {"g" + key, "\x00" + textBytes(long(1025)) + "\x00\x00\x00\x00"},
		"a message's Id of 33":       {"g" + key, "\x00\x00" + textBytes(long(33)) + "\x00\x00\x00"},
		"a message until -1":         {"g" + key, "\x00\x00\x00" + intBytes(-1) + "\x00\x00"},
		"a message until 2^62 + 1":   {"g" + key, "\x00\x00\x00" + intBytes(latest+1) + "\x00\x00"},
		"a message's Vars":           {"g" + key, "\x00\x00\x00\x00" + vars + "\x00"},
		"2^64 - 1 instances":         {"g" + key, "\x00\x00\x00\x00\x00" + uintBytes(top)},
		"2^64 - 1, of which 3":       {"g" + key, "\x00\x00\x00\x00\x00" + uintBytes(top) + "\x01\x02\x03"},
		"2^40 instances":             {"g" + key, "\x00\x00\x00\x00\x00" + uintBytes(1<<40) + long(5000)},
		"fewer instances than bytes": {"g" + key, "\x00\x00\x00\x00\x00\x02\x01\x02\x03"},
		"more instances than bytes":  {"g" + key, "\x00\x00\x00\x00\x00\x03\x01\x02"},
		"an instance of two forms":   {"g" + key, "\x00\x00\x00\x00\x00\x01\x80\x00"},
		"many instances":             {"g" + key, "\x00\x00\x00\x00\x00" + uintBytes(16378) + strings.Repeat("\x00", 16378)},
		"a process of 16383":         {"pp", textBytes(long(16383))},
		"a process of 2^20":          {"pp", textBytes(long(1 << 20))},
		"a process of 2^63":          {"pp", uintBytes(1<<63) + "x"},
		"a number of two forms":      {"k" + at, "\x80\x00"},
		"a number of eleven bytes":   {"k" + at, "\x80\x80\x80\x80\x80\x80\x80\x80\x80\x80\x01"},
		"a number above 2^64":        {"k" + at, "\xff\xff\xff\xff\xff\xff\xff\xff\xff\x02"},
		"nothing":                    {"k" + at, ""},
	} {
		if _, ok := readOf([]row{whole, r}); ok {
			t.Fatalf("%s: the test itself is wrong", what)
		}
		mustNotRead(t, what, []row{whole, r})
	}
	mustNotRead(t, "a whole of two forms", []row{{"a", "\x80\x00\x00\x00"}})
	mustNotRead(t, "a whole of two", []row{{"a", "\x00\x00"}})
	mustNotRead(t, "a whole of four", []row{{"a", "\x00\x00\x00\x00"}})
	mustNotRead(t, "a whole of none", []row{{"a", ""}})
}

// P14.2: each range is gone through once alone, as it may be other rows the next time.
func TestReadOnce(t *testing.T) {
	l := written(full())
	times := 0
	once := func(tell func(string, string) bool) {
		times++
		if times == 1 {
			over(l...)(tell)
		}
	}
	if s, err := keep.Read(once); err != api.OK || !alike(s, full()) || times != 1 {
		t.Errorf("Read: %d %+v, %d times", err, s, times)
	}
	times = 0
	if c := keep.Changes(once, full()); len(c) > 0 || times != 1 {
		t.Errorf("Changes: %+v, %d times", c, times)
	}
}

// R1: a range that goes on telling though it was left harms nobody.
func TestStubbornRanges(t *testing.T) {
	stubborn := func(l ...row) func(tell func(string, string) bool) {
		return func(tell func(string, string) bool) {
			for _, r := range l {
				tell(r.key, r.value)
			}
		}
	}
	l := written(full())
	for what, rows := range map[string][]row{
		"all":            l,
		"not rising":     {l[0], l[2], l[1], l[3]},
		"another letter": {l[0], {"b", ""}, {"c", ""}, l[1]},
		"no whole":       l[1:],
		"wrong":          {{"a", ""}, {"a", ""}, {"", ""}},
	} {
		want, ok := readOf(rows)
		s, err := keep.Read(stubborn(rows...))
		if ok != (err == api.OK) || ok && !alike(s, want) {
			t.Errorf("%s: %d %+v", what, err, s)
		}
		if got, want := keep.Changes(stubborn(rows...), full()), changesOf(rows, full()); !slices.Equal(got, want) {
			t.Errorf("%s: %+v, want %+v", what, got, want)
		}
		keep.Changes(stubborn(rows...), api.State{Jobs: make([]api.Job, 2)})
	}
}
