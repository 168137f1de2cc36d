package model

import (
	"math"
	"strings"

	"wherry/api"
	"wherry/wire"
)

// together is what all bytes are put together by.
func together(pieces ...string) string { return strings.Join(pieces, "") }

func number(n int) string { return wire.Int(int64(n)) }

func nodeBytes(n api.Node) string {
	return together(
		number(n.Kind), number(n.Parent), number(n.Host),
		wire.Text(n.Name), wire.Text(n.Type), wire.Text(n.Key),
		wire.Int(n.N),
	)
}

func flowBytes(f api.Flow) string {
	return together(number(f.From), number(f.To), wire.Text(f.Cond))
}

func listBytes[T any](l []T, each func(T) string) string {
	pieces := []string{wire.Uint(uint64(len(l)))}
	for _, x := range l {
		pieces = append(pieces, each(x))
	}
	return together(pieces...)
}

// taker takes a process. Its own error, if it has one, is ahead of the reader's
// along the bytes: a reader that is wrong tells but 0, which is never refused.
type taker struct {
	r   *wire.Reader
	err api.Errno
}

func (t *taker) refuse(err api.Errno) {
	if t.err == api.OK {
		t.err = err
	}
}

// end is the first error along the bytes.
func (t *taker) end() api.Errno {
	if t.err != api.OK {
		return t.err
	}
	return t.r.End()
}

func (t *taker) process() api.Process {
	var p api.Process
	p.Id = t.r.Text(api.MaxName)
	p.Nodes = takeList(t, api.MaxNodes, t.node)
	p.Flows = takeList(t, api.MaxFlows, t.flow)
	return p
}

func (t *taker) node() api.Node {
	var n api.Node
	n.Kind = t.number()
	n.Parent = t.number()
	n.Host = t.number()
	n.Name = t.r.Text(api.MaxName)
	n.Type = t.r.Text(api.MaxName)
	n.Key = t.r.Text(api.MaxExpr)
	n.N = t.r.Int()
	return n
}

func (t *taker) flow() api.Flow {
	var f api.Flow
	f.From = t.number()
	f.To = t.number()
	f.Cond = t.r.Text(api.MaxExpr)
	return f
}

// number takes one that fits 32 bits with a sign.
func (t *taker) number() int {
	v := t.r.Int()
	if v < math.MinInt32 || v > math.MaxInt32 {
		t.refuse(api.ErrForm)
		return 0
	}
	return int(v)
}

// takeList takes at most most elements.
func takeList[T any](t *taker, most uint64, take func() T) []T {
	many := t.r.Uint()
	if many > most {
		t.refuse(api.ErrLong)
		return nil
	}
	var l []T
	for range many {
		l = append(l, take())
	}
	return l
}
