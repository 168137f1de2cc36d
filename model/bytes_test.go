package model_test

import (
	"encoding/binary"
	"fmt"
	"math"
	"testing"

	"wherry/api"
	"wherry/model"
)

// uintBytes, intBytes and textBytes are chapter 1's, by the library.
func uintBytes(n uint64) string { return string(binary.AppendUvarint(nil, n)) }
func intBytes(n int64) string   { return string(binary.AppendVarint(nil, n)) }
func textBytes(s string) string { return uintBytes(uint64(len(s))) + s }

// written are a process's bytes, as the promise tells them.
func written(p api.Process) string {
	s := textBytes(p.Id) + uintBytes(uint64(len(p.Nodes)))
	for _, n := range p.Nodes {
		s += nodeBytes(int64(n.Kind), int64(n.Parent), int64(n.Host), n.Name, n.Type, n.Key, n.N)
	}
	s += uintBytes(uint64(len(p.Flows)))
	for _, f := range p.Flows {
		s += flowBytes(int64(f.From), int64(f.To), f.Cond)
	}
	return s
}

func nodeBytes(kind, parent, host int64, name, typ, key string, n int64) string {
	return intBytes(kind) + intBytes(parent) + intBytes(host) + textBytes(name) + textBytes(typ) + textBytes(key) + intBytes(n)
}

func flowBytes(from, to int64, cond string) string {
	return intBytes(from) + intBytes(to) + textBytes(cond)
}

// mustTake: the bytes are just this process's.
func mustTake(t *testing.T, what, s string, want api.Process) {
	t.Helper()
	if p, err := model.Take(s); err != api.OK || !same(p, want) {
		t.Errorf("Take(%s): %.200s, %d, want %.200s", what, fmt.Sprint(p), err, fmt.Sprint(want))
	}
}

// mustNotTake: they are refused so, and nothing beside.
func mustNotTake(t *testing.T, what, s string, want api.Errno) {
	t.Helper()
	if p, err := model.Take(s); err != want || !same(p, api.Process{}) {
		t.Errorf("Take(%s): %.200s, %d, want %d", what, fmt.Sprint(p), err, want)
	}
}

// P11.1: the bytes, written out.
func TestBytesWrittenOut(t *testing.T) {
	if s := model.Bytes(api.Process{}); s != "\x00\x00\x00" {
		t.Errorf("of none: %x", s)
	}
	want := "\x01p\x03" +
		"\x02\x01\x01\x01s\x00\x00\x00" +
		"\x06\x01\x01\x01t\x03pay\x00\x06" +
		"\x04\x01\x01\x01e\x00\x00\x00" +
		"\x02\x00\x02\x00\x02\x04\x00"
	if s := model.Bytes(line()); s != want {
		t.Errorf("of the line: %x", s)
	}
	odd := api.Process{Id: "\x00\xff", Nodes: []api.Node{{Kind: -1, Parent: 64, Host: -64, Name: "A", Type: "B", Key: "C", N: -65}}, Flows: []api.Flow{{From: -3, To: 3, Cond: "D"}}}
	if s := model.Bytes(odd); s != "\x02\x00\xff\x01\x01\x80\x01\x7f\x01A\x01B\x01C\x81\x01\x01\x05\x06\x01D" {
		t.Errorf("of an odd one: %x", s)
	}
}

// P11.1: the bytes of processes that may be and that may not.
func TestBytes(t *testing.T) {
	for _, set := range []map[string]api.Process{good(), bad()} {
		for what, p := range set {
			if s := model.Bytes(p); s != written(p) {
				t.Errorf("%s: %x, want %x", what, s, written(p))
			}
		}
	}
	for _, n := range []int{0, 1, -1, 63, 64, -64, -65, math.MaxInt32, math.MaxInt32 + 1, math.MinInt32, math.MinInt32 - 1, math.MaxInt, math.MinInt} {
		p := process([]api.Node{{Kind: n}, {Parent: n}, {Host: n}, {N: int64(n)}}, flow(n, 0), flow(0, n))
		if s := model.Bytes(p); s != written(p) {
			t.Errorf("of %d: %x, want %x", n, s, written(p))
		}
	}
}

// P11.1: what was written is taken, whether it may be or not, where nothing of it
// is too long.
func TestTake(t *testing.T) {
	for what, p := range good() {
		mustTake(t, what, model.Bytes(p), p)
	}
	mustTake(t, "none", "\x00\x00\x00", api.Process{})
	for what, p := range map[string]api.Process{
		"no nodes":      {Id: "p", Flows: []api.Flow{flow(5, 6)}},
		"no name":       {Id: "", Nodes: line().Nodes},
		"any bytes":     {Id: times(32, "\xff"), Nodes: []api.Node{{Name: times(32, "\x00"), Type: times(32, " "), Key: times(512, "("), N: math.MinInt64}}, Flows: []api.Flow{when(1, 1, times(512, "\x80"))}},
		"twice as well": {Id: "and", Nodes: []api.Node{node(11, "s"), node(0, "s")}},
		"the greatest":  {Nodes: []api.Node{{N: math.MaxInt64}}},
	} {
		mustTake(t, what, written(p), p)
	}
}

// P11.1: cut short anywhere, there are too few bytes; with more behind, too many.
func TestTakeOfPieces(t *testing.T) {
	for what, p := range good() {
		s := written(p)
		for n := range len(s) {
			mustNotTake(t, fmt.Sprintf("%s, %d bytes", what, n), s[:n], api.ErrMore)
		}
		for _, behind := range []string{"\x00", "\x80", "\xff\xff", "a", s} {
			if len(s)+len(behind) <= api.MaxProcess {
				mustNotTake(t, what+" and more", s+behind, api.ErrForm)
			}
		}
	}
}

// P11.1: 8192 bytes are taken, 8193 aren't, whatever they are.
func TestTakeOfManyBytes(t *testing.T) {
	p := api.Process{Id: "p"}
	for range 16 {
		p.Flows = append(p.Flows, when(0, 0, times(500, "c")))
	}
	for j := 0; len(written(p)) < api.MaxProcess; j = (j + 1) % 16 {
		p.Flows[j].Cond += "c"
	}
	s := written(p)
	if len(s) != api.MaxProcess {
		t.Fatalf("%d bytes", len(s))
	}
	mustTake(t, "8192 bytes", s, p)
	mustNotTake(t, "8191 of them", s[:len(s)-1], api.ErrMore)
	mustNotTake(t, "8193 bytes", s+"\x00", api.ErrLong)
	p.Id += "p"
	mustNotTake(t, "8193 bytes of a process", written(p), api.ErrLong)
	mustNotTake(t, "8193 bytes of which the first is none", times(8193, "\xff"), api.ErrLong)
	mustNotTake(t, "8192 bytes of which the first is none", times(8192, "\xff"), api.ErrForm)
	mustNotTake(t, "8193 zeros", times(8193, "\x00"), api.ErrLong)
	mustNotTake(t, "8192 zeros", times(8192, "\x00"), api.ErrForm)
	mustNotTake(t, "a million bytes", times(1<<20, "\x00"), api.ErrLong)
}

// P11.1: how many nodes and flows there may be.
func TestTakeOfManyNodesAndFlows(t *testing.T) {
	many := func(nodes, flows int) api.Process {
		return api.Process{Id: "p", Nodes: make([]api.Node, nodes), Flows: make([]api.Flow, flows)}
	}
	for _, x := range []struct {
		nodes, flows int
		want         api.Errno
	}{
		{40, 80, api.OK}, {40, 0, api.OK}, {0, 80, api.OK}, {41, 80, api.ErrLong}, {40, 81, api.ErrLong}, {41, 81, api.ErrLong}, {0, 81, api.ErrLong}, {41, 0, api.ErrLong}, {80, 40, api.ErrLong}, {200, 0, api.ErrLong},
	} {
		p := many(x.nodes, x.flows)
		what := fmt.Sprintf("%d nodes, %d flows", x.nodes, x.flows)
		if x.want == api.OK {
			mustTake(t, what, written(p), p)
		} else {
			mustNotTake(t, what, written(p), x.want)
		}
	}
	for _, n := range []uint64{81, 127, 128, 1 << 31, 1 << 32, 1<<32 + 1, 1<<63 - 1, 1 << 63, math.MaxUint64} {
		mustNotTake(t, "a count of nodes with nothing behind", textBytes("p")+uintBytes(n), api.ErrLong)
		mustNotTake(t, "a count of flows with nothing behind", textBytes("p")+uintBytes(0)+uintBytes(n), api.ErrLong)
	}
	mustNotTake(t, "40 nodes that aren't there", textBytes("p")+uintBytes(40), api.ErrMore)
	mustNotTake(t, "80 flows that aren't there", textBytes("p")+uintBytes(0)+uintBytes(80), api.ErrMore)
}

// P11.1: how long texts may be, each of them.
func TestTakeOfLongTexts(t *testing.T) {
	for what, x := range map[string]struct {
		most int
		of   func(s string) api.Process
	}{
		"Id":   {32, func(s string) api.Process { return api.Process{Id: s} }},
		"Name": {32, func(s string) api.Process { return api.Process{Nodes: []api.Node{{}, {Name: s}}} }},
		"Type": {32, func(s string) api.Process { return api.Process{Nodes: []api.Node{{}, {Type: s}}} }},
		"Key":  {512, func(s string) api.Process { return api.Process{Nodes: []api.Node{{}, {Key: s}}} }},
		"Cond": {512, func(s string) api.Process { return api.Process{Flows: []api.Flow{{}, {Cond: s}}} }},
	} {
		for _, n := range []int{0, 1, 31, 32, x.most - 1, x.most} {
			p := x.of(times(n, "n"))
			mustTake(t, what, written(p), p)
		}
		for _, n := range []int{x.most + 1, x.most + 2, 1024, 1025, 5000} {
			mustNotTake(t, what, written(x.of(times(n, "n"))), api.ErrLong)
		}
	}
}

// P11.1: numbers that fit 32 bits with a sign, and those that don't; N is any.
func TestTakeOfBigNumbers(t *testing.T) {
	fit := []int64{0, 1, -1, 10, 11, 64, -65, math.MaxInt32 - 1, math.MaxInt32, math.MinInt32 + 1, math.MinInt32}
	big := []int64{math.MaxInt32 + 1, math.MinInt32 - 1, 1 << 32, 1<<32 + 1, -1 << 32, 1 << 40, math.MaxInt64, math.MinInt64}
	for what, of := range map[string]func(n int) api.Process{
		"Kind":   func(n int) api.Process { return process([]api.Node{{}, {Kind: n}}) },
		"Parent": func(n int) api.Process { return process([]api.Node{{}, {Parent: n}}) },
		"Host":   func(n int) api.Process { return process([]api.Node{{}, {Host: n}}) },
		"From":   func(n int) api.Process { return process(nil, flow(0, 0), flow(n, 0)) },
		"To":     func(n int) api.Process { return process(nil, flow(0, 0), flow(0, n)) },
	} {
		for _, n := range fit {
			mustTake(t, fmt.Sprintf("%s %d", what, n), written(of(int(n))), of(int(n)))
		}
		for _, n := range big {
			mustNotTake(t, fmt.Sprintf("%s %d", what, n), written(of(int(n))), api.ErrForm)
		}
	}
	for _, n := range append(fit, big...) {
		p := process([]api.Node{{N: n}})
		mustTake(t, fmt.Sprintf("N %d", n), written(p), p)
	}
}

// wrongs are pieces of bytes, one for each place where something is told, each with
// a right form and forms that are wrong at that place, and how.
func wrongs() []struct {
	right string
	wrong map[string]api.Errno
} {
	type piece = struct {
		right string
		wrong map[string]api.Errno
	}
	twoForms, tooMuch := "\x80\x00", times(9, "\xff")+"\x02"
	small := piece{intBytes(1), map[string]api.Errno{intBytes(1 << 31): api.ErrForm, intBytes(-1<<31 - 1): api.ErrForm, twoForms: api.ErrForm, tooMuch: api.ErrForm}}
	text := func(most int) piece {
		return piece{textBytes("a"), map[string]api.Errno{textBytes(times(most+1, "a")): api.ErrLong, twoForms: api.ErrForm}}
	}
	count := func(most uint64) piece {
		return piece{uintBytes(1), map[string]api.Errno{uintBytes(most + 1): api.ErrLong, twoForms: api.ErrForm, uintBytes(math.MaxUint64): api.ErrLong}}
	}
	n := piece{intBytes(1), map[string]api.Errno{twoForms: api.ErrForm, tooMuch: api.ErrForm}}
	return []piece{text(32), count(40), small, small, small, text(32), text(32), text(512), n, count(80), small, small, text(512)}
}

// P11.1: of two errors the one that is first along the bytes is told, and of one
// that is wrong and bytes that end behind it.
func TestTakeTellsTheFirstError(t *testing.T) {
	pieces := wrongs()
	ahead := ""
	for i, piece := range pieces {
		for form, want := range piece.wrong {
			mustNotTake(t, fmt.Sprintf("piece %d %.9x and nothing behind", i, form), ahead+form, want)
			for k := i + 1; k < len(pieces); k++ {
				for second := range pieces[k].wrong {
					s := ahead + form
					for _, between := range pieces[i+1 : k] {
						s += between.right
					}
					mustNotTake(t, fmt.Sprintf("piece %d %.9x and %d %.9x", i, form, k, second), s+second, want)
				}
			}
		}
		mustNotTake(t, fmt.Sprintf("%d pieces", i), ahead, api.ErrMore)
		ahead += piece.right
	}
	whole := process([]api.Node{{Kind: 1, Parent: 1, Host: 1, Name: "a", Type: "a", Key: "a", N: 1}}, when(1, 1, "a"))
	whole.Id = "a"
	mustTake(t, "all pieces", ahead, whole)
}
