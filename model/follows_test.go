package model_test

import (
	"fmt"
	"math"
	"math/rand"
	"testing"

	"wherry/api"
	"wherry/model"
)

// pick is one of these.
func pick[T any](r *rand.Rand, l ...T) T { return l[r.Intn(len(l))] }

// random is a process that may be, whatever r says.
func random(r *rand.Rand) api.Process {
	p := api.Process{Id: pick(r, "p", "order", times(32, "q"))}
	addScope(r, &p, -1, 2+r.Intn(4))
	return p
}

// addScope adds a start, some nodes behind it, an end and what sits at the nodes,
// and flows so that each has as many as it must.
func addScope(r *rand.Rand, p *api.Process, scope, most int) {
	add := func(n api.Node) int {
		n.Name = fmt.Sprintf("n%d", len(p.Nodes))
		n.Parent = scope
		p.Nodes = append(p.Nodes, n)
		return len(p.Nodes) - 1
	}
	row := []int{add(node(api.NStart, ""))}
	for range r.Intn(most + 1) {
		i := add(node(pick(r, api.NTask, api.NXor, api.NAnd, api.NCatch, api.NTimer, api.NSub), ""))
		row = append(row, i)
		if p.Nodes[i].Kind == api.NSub {
			addScope(r, p, i, most/2)
		}
	}
	row = append(row, add(node(api.NEnd, "")))
	for k, i := range row[:len(row)-1] {
		p.Flows = append(p.Flows, flow(i, row[k+1]))
	}
	for _, i := range row[1 : len(row)-1] {
		to := pick(r, row[1:]...)
		switch p.Nodes[i].Kind {
		case api.NXor:
			if r.Intn(3) == 0 {
				p.Flows = append(p.Flows, when(i, to, pick(r, exprs()...)))
			}
		case api.NAnd:
			if r.Intn(3) == 0 {
				p.Flows = append(p.Flows, flow(i, to))
			}
		default:
			if r.Intn(2) == 0 {
				p.Flows = append(p.Flows, flow(add(at(i, node(pick(r, api.NOnMsg, api.NOnTime), ""))), to))
			}
		}
	}
}

// disturb changes something of a process that is its own.
func disturb(r *rand.Rand, p *api.Process) {
	place := func() int { return pick(r, -2, -1, 0, 1, 2, 3, r.Intn(len(p.Nodes)+2), len(p.Nodes), math.MaxInt) }
	n := &p.Nodes[r.Intn(len(p.Nodes))]
	f := &p.Flows[r.Intn(len(p.Flows))]
	switch r.Intn(13) {
	case 0:
		n.Kind = r.Intn(13) - 1
	case 1:
		n.Parent = place()
	case 2:
		n.Host = place()
	case 3:
		n.Name = pick(r, "n1", "n2", "other", "", "len", "Z")
	case 4:
		n.Type = pick(r, "", "pay", "x y", times(33, "t"))
	case 5:
		n.Key = pick(r, append(noExprs(), "", "k")...)
	case 6:
		n.N = pick[int64](r, -1, 0, 1, 9, 10, 1<<20, 1<<20+1)
	case 7:
		f.From = place()
	case 8:
		f.To = place()
	case 9:
		f.Cond = pick(r, append(noExprs(), "", "a")...)
	case 10:
		p.Flows = append(p.Flows, when(r.Intn(len(p.Nodes)), r.Intn(len(p.Nodes)), pick(r, "", "a")))
	case 11:
		*f = p.Flows[len(p.Flows)-1]
		p.Flows = p.Flows[:max(1, len(p.Flows)-1)]
	case 12:
		p.Id = pick(r, "", "p", "or", "P")
	}
}

// mustHold holds all calls to what the words say of p.
func mustHold(t *testing.T, p api.Process) (may, loops bool) {
	t.Helper()
	faults := faultsOf(p)
	if may = len(faults) == 0; may {
		mustBe(t, fmt.Sprint(p), p)
		loops = goesRound(p)
		mustHaveWays(t, p)
	} else {
		mustNotBe(t, fmt.Sprint(p), p, faults[0])
	}
	if model.Loops(p) != loops {
		t.Errorf("Loops(%v): %t", p, !loops)
	}
	s := model.Bytes(p)
	if s != written(p) {
		t.Errorf("Bytes(%v): %x", p, s)
	}
	if may && len(s) <= api.MaxProcess {
		mustTake(t, fmt.Sprint(p), s, p)
	}
	if len(s) > api.MaxProcess {
		mustNotTake(t, fmt.Sprint(p), s, api.ErrLong)
	}
	return may, loops
}

// mustHaveWays: every node but starts and what sits at hosts has a way in, every
// one but ends a way out.
func mustHaveWays(t *testing.T, p api.Process) {
	t.Helper()
	for i, n := range p.Nodes {
		begins := n.Kind == api.NStart || n.Kind == api.NOnMsg || n.Kind == api.NOnTime
		if (len(model.Ins(p, i)) > 0) == begins || (len(model.Outs(p, i)) > 0) == (n.Kind == api.NEnd) {
			t.Errorf("%v: node %d has %d ways in, %d out", p, i, len(model.Ins(p, i)), len(model.Outs(p, i)))
		}
	}
	for i, n := range p.Nodes {
		if start := model.Start(p, i); (start >= 0) != (n.Kind == api.NSub) {
			t.Errorf("%v: Start(%d): %d", p, i, start)
		}
	}
}

// P11.1, P11.2, P11.4, P11.5: of many processes, as they are made and with some
// changes.
func TestWhateverTheProcess(t *testing.T) {
	r := rand.New(rand.NewSource(11))
	right, wrong, round := 0, 0, 0
	for range 6000 {
		p := random(r)
		if may, _ := mustHold(t, p); len(p.Nodes) <= api.MaxNodes && len(p.Flows) <= api.MaxFlows && !may {
			t.Errorf("%v may not be", p)
		}
		for range r.Intn(4) {
			disturb(r, &p)
		}
		may, loops := mustHold(t, p)
		if may {
			right++
		} else {
			wrong++
		}
		if loops {
			round++
		}
	}
	if right < 500 || wrong < 500 || round < 100 {
		t.Errorf("%d may be, %d may not, %d loop", right, wrong, round)
	}
}

// P11.5: what Bytes wrote of a process that may be is taken as it was; if it is too
// long, it isn't.
func TestWrittenIsTaken(t *testing.T) {
	for what, p := range good() {
		mustBe(t, what, p)
		mustTake(t, what, model.Bytes(p), p)
	}
	heavy := wide(3, 15)
	for j := range heavy.Flows[2:] {
		heavy.Flows[2+j].Cond = "a" + times(511, " ")
	}
	mustBe(t, "13 long conditions", heavy)
	mustTake(t, "13 long conditions", model.Bytes(heavy), heavy)
	for range 3 {
		heavy.Flows = append(heavy.Flows, when(1, 2, "a"+times(511, " ")))
	}
	mustBe(t, "16 long conditions", heavy)
	mustNotTake(t, "16 long conditions", model.Bytes(heavy), api.ErrLong)
	for n := len(model.Bytes(heavy)); n > api.MaxProcess; n = len(model.Bytes(heavy)) {
		last := &heavy.Flows[len(heavy.Flows)-1]
		last.Cond = last.Cond[:len(last.Cond)-1]
		mustBe(t, fmt.Sprintf("%d bytes", n-1), heavy)
	}
	mustTake(t, "8192 bytes", model.Bytes(heavy), heavy)
	heavy.Id += "q"
	mustBe(t, "8193 bytes", heavy)
	mustNotTake(t, "8193 bytes", model.Bytes(heavy), api.ErrLong)
}

// P11.1 and R1: whatever the bytes, they are refused, or are just those of what is
// taken.
func TestWhateverTheBytes(t *testing.T) {
	r := rand.New(rand.NewSource(12))
	taken := 0
	for range 20000 {
		b := []byte(written(random(r)))
		for range 1 + r.Intn(3) {
			switch i := r.Intn(len(b)); r.Intn(4) {
			case 0:
				b[i] = byte(r.Intn(256))
			case 1:
				b[i] ^= 1 << r.Intn(8)
			case 2:
				b = append(b[:i], b[i+1:]...)
			case 3:
				b = append(b[:i+1], b[i:]...)
			}
		}
		p, err := model.Take(string(b))
		switch {
		case err == api.OK && model.Bytes(p) == string(b):
			taken++
		case err == api.OK || !same(p, api.Process{}):
			t.Errorf("Take(%x): %v, %d", b, p, err)
		}
	}
	if taken < 100 {
		t.Errorf("%d were taken", taken)
	}
}
