package value_test

import (
	"slices"
	"strings"
	"testing"

	"wherry/api"
	"wherry/value"
	"wherry/wire"
)

// behinds are bytes that may follow what was written.
func behinds() []string {
	return []string{"", "\x00", "\x01", "\x01\x06", "\x80", "\xff\xff", "a", strings.Repeat("\xff", 40)}
}

// P9.6, P9.3: what Bytes wrote is taken, whatever follows; no beginning of it is.
func TestWrittenIsTaken(t *testing.T) {
	for _, v := range good() {
		b := value.Bytes(v)
		for _, behind := range behinds() {
			r := wire.Read(b + behind)
			mustTake(t, tell(v), r, v)
			if r.Left() != len(behind) || r.Err() != api.OK {
				t.Errorf("%s: left %d of %d, error %d", tell(v), r.Left(), len(behind), r.Err())
			}
		}
		for n := range len(b) {
			mustNotTake(t, tell(v), wire.Read(b[:n]))
		}
	}
}

// P9.6, P9.3: what VarsBytes wrote is taken, whatever follows; no beginning of
// it is.
func TestWrittenVarsAreTaken(t *testing.T) {
	for what, l := range rightLists() {
		b := value.VarsBytes(l)
		for _, behind := range behinds() {
			r := wire.Read(b + behind)
			got, ok := value.TakeVars(r)
			mustVars(t, what, got, l...)
			if !ok || r.Left() != len(behind) || r.Err() != api.OK {
				t.Errorf("%s: %t, left %d of %d, error %d", what, ok, r.Left(), len(behind), r.Err())
			}
		}
		for n := range len(b) {
			mustNotTakeVars(t, what, wire.Read(b[:n]))
		}
	}
}

// rows calls yield with all rows of at most most of these bytes behind start.
func rows(start string, some string, most int, yield func(s string)) {
	yield(start)
	if most == 0 {
		return
	}
	for i := range len(some) {
		rows(start+some[i:i+1], some, most-1, yield)
	}
}

// P9.6: each value and each list has one form: what is taken, written again, is
// just the bytes that were taken.
func TestOneForm(t *testing.T) {
	const some = "\x00\x01\x02\x03\x04a\x80\x81\xff"
	checkValue := func(s string) {
		r := wire.Read(s)
		v, ok := value.Take(r)
		if ok && value.Bytes(v) != s[:len(s)-r.Left()] {
			t.Errorf("%s is taken of %x", tell(v), s)
		}
	}
	checkVars := func(s string) {
		r := wire.Read(s)
		l, ok := value.TakeVars(r)
		if ok && value.VarsBytes(l) != s[:len(s)-r.Left()] {
			t.Errorf("%v is taken of %x", l, s)
		}
	}
	rows("", some, 5, checkValue)
	rows("", some, 5, checkVars)
	rows("\x01\x01", "\x00\x01\x02\x03\x05\x7a\x80", 5, checkVars)
	rows("\x02\x01b\x01\x02", "\x00\x01\x02\x03abc\x80", 5, checkVars)
}

// P9.6: no two values have the same bytes or the same text.
func TestOneOfEach(t *testing.T) {
	forms, texts := map[string]api.Value{}, map[string]api.Value{}
	check := func(v api.Value) {
		b, s := value.Bytes(v), value.Show(v)
		if was, has := forms[b]; has && was != v {
			t.Errorf("%s and %s: %x", tell(was), tell(v), b)
		}
		if was, has := texts[s]; has && was != v {
			t.Errorf("%s and %s: %s", tell(was), tell(v), s)
		}
		forms[b], texts[s] = v, v
	}
	for _, v := range good() {
		check(v)
	}
	rows("", "0ax\"\\\x00\n\xff", 5, func(s string) { check(text(s)) })
}

// P9.6: what is put one by one, in whatever order, has one form.
func TestOneFormWhateverTheOrder(t *testing.T) {
	want := []api.Var{is("a", num(1)), is("b", truth(1)), is("c", text("x")), is("d", num(-4))}
	orders(len(want), nil, func(order []int) {
		var l []api.Var
		for _, i := range order {
			l, _ = value.Put(l, want[i].Name, num(77))
			l, _ = value.Put(l, want[i].Name, want[i].V)
		}
		mustVars(t, "put in another order", l, want...)
		if value.VarsBytes(l) != value.VarsBytes(want) {
			t.Errorf("%v: %x", order, value.VarsBytes(l))
		}
		for _, x := range want {
			mustGet(t, x.Name, l, x.Name, x.V)
		}
	})
}

// orders calls yield with all orders of the numbers below n, behind those ahead.
func orders(n int, ahead []int, yield func([]int)) {
	if len(ahead) == n {
		yield(ahead)
		return
	}
	for i := range n {
		if !slices.Contains(ahead, i) {
			orders(n, append(slices.Clone(ahead), i), yield)
		}
	}
}
