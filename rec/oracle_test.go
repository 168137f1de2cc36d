package rec_test

import (
	"encoding/binary"
	"reflect"

	"wherry/api"
	"wherry/value"
	"wherry/wire"
)

// uintBytes, intBytes and textBytes are chapter 1's, by the library.
func uintBytes(n uint64) string { return string(binary.AppendUvarint(nil, n)) }
func intBytes(n int64) string   { return string(binary.AppendVarint(nil, n)) }
func textBytes(s string) string { return uintBytes(uint64(len(s))) + s }

// varsBytes are chapter 9's, of variables that are right.
func varsBytes(l []api.Var) string {
	s := uintBytes(uint64(len(l)))
	for _, x := range l {
		s += textBytes(x.Name) + string([]byte{byte(x.V.Kind)})
		if x.V.Kind == api.Text {
			s += textBytes(x.V.S)
		} else {
			s += intBytes(x.V.N)
		}
	}
	return s
}

// written are a record's bytes, as the promise tells them.
func written(r api.Record) string {
	return string([]byte{byte(r.Class), byte(r.Kind)}) +
		uintBytes(r.From) + intBytes(r.Time) +
		uintBytes(r.Key) + uintBytes(r.Key2) + uintBytes(r.Key3) +
		intBytes(r.N) + intBytes(r.M) +
		textBytes(r.A) + textBytes(r.B) + textBytes(r.C) +
		varsBytes(r.Vars)
}

// mayBe: may a record be, by the words?
func mayBe(r api.Record) bool {
	deploy, deployed := r.Class == 1 && r.Kind == 1, r.Class == 2 && r.Kind == 1
	switch {
	case r.Class != 1 && r.Class != 2 && r.Class != 3:
	case r.Kind < 1, r.Kind > 24, r.Class != 2 && r.Kind > 16:
	case r.Class == 1 && r.From != 0, r.Class != 1 && r.From == 0:
	case r.Time < 0, r.Time > 1<<40:
	case !deploy && len(r.A) > 32, len(r.A) > 8192:
	case !deployed && len(r.B) > 1024, len(r.B) > 8192:
	case len(r.C) > 32:
	case !value.Right(r.Vars):
	default:
		return len(written(r)) <= 4096
	}
	return false
}

// taken is the record of which these are the bytes, if there is one: numbers are
// taken in any form and texts of any length, but what is written again must be s.
func taken(s string) (api.Record, bool) {
	ok := true
	cut := func(n int) string {
		if n < 0 || n > len(s) {
			ok, n = false, 0
		}
		piece := s[:n]
		s = s[n:]
		return piece
	}
	one := func() int {
		b := cut(1)
		if !ok {
			return 0
		}
		return int(b[0])
	}
	unsigned := func() uint64 {
		v, n := binary.Uvarint([]byte(s))
		ok = ok && n > 0
		cut(n)
		return v
	}
	signed := func() int64 {
		v, n := binary.Varint([]byte(s))
		ok = ok && n > 0
		cut(n)
		return v
	}
	row := func() string { return cut(int(min(unsigned(), 1<<30))) }
	whole := s
	r := api.Record{Class: one(), Kind: one(), From: unsigned(), Time: signed(), Key: unsigned(), Key2: unsigned(), Key3: unsigned(), N: signed(), M: signed(), A: row(), B: row(), C: row()}
	if !ok {
		return api.Record{}, false
	}
	r.Vars, ok = value.TakeVars(wire.Read(s))
	if !ok || !mayBe(r) || written(r) != whole {
		return api.Record{}, false
	}
	return r, true
}

// same: are all fields the same, whichever there are? An empty list is as good as
// none.
func same(a, b api.Record) bool {
	if len(a.Vars) == 0 && len(b.Vars) == 0 {
		a.Vars, b.Vars = nil, nil
	}
	return reflect.DeepEqual(a, b)
}
