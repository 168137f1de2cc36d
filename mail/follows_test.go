package mail_test

import (
	"math/rand"
	"slices"
	"testing"

	"wherry/api"
	"wherry/mail"
)

// whole is a command's copy that shares nothing with it.
func whole(s api.Send) api.Send {
	s.R.Vars = append([]api.Var{}, s.R.Vars...)
	return s
}

// spoil writes over all that a command's list has, its spare room too, and appends to it.
func spoil(s *api.Send) {
	bad := api.Var{Name: "bad", V: api.Value{Kind: api.Bool, N: 1}}
	l := s.R.Vars[:cap(s.R.Vars)]
	for i := range l {
		l[i] = bad
	}
	s.R.Vars = append(s.R.Vars, bad)
	s.To, s.R.A = 99, "bad"
}

// P19.2: what is in the box stays as it was put, whoever writes into a list that was handed
// in, or told.
func TestNothingShared(t *testing.T) {
	b := mail.New()
	l := sends("a b c")
	for i := range l { // with spare room
		l[i].R.Vars = append(make([]api.Var, 0, 9), l[i].R.Vars...)
	}
	b.Put(l)
	for i := range l {
		spoil(&l[i])
	}
	mustHave(t, "who handed it in", b, "a b c")
	b.Copy(0)
	b.Copy(3)
	for i := range b.Len() {
		s, _ := b.Peek(i)
		spoil(&s)
	}
	mustHave(t, "who peeked", b, "a b c a a")
	for range 2 {
		for _, s := range b.All() {
			spoil(&s)
		}
	}
	mustHave(t, "who ranged", b, "a b c a a")
	s, err := b.Take(3)
	mustSend(t, "a copy", s, err, "a", api.OK)
	spoil(&s)
	mustHave(t, "who took the copy", b, "a b c a")
	s, err = b.Take(0)
	mustSend(t, "the first one", s, err, "a", api.OK)
	spoil(&s)
	mustHave(t, "who took the first one", b, "b c a")
}

// P19.2: a range that has begun tells what was put, whoever writes into what is taken, told
// or handed in meanwhile.
func TestNothingSharedInRange(t *testing.T) {
	b := mail.New()
	l := sends("a b c d")
	b.Put(l)
	i := 0
	for at, s := range b.All() {
		must(t, "place", at, i)
		mustSend(t, "told", s, api.OK, string("abcd"[i]), api.OK)
		spoil(&s)
		spoil(&l[i])
		if p, err := b.Peek(0); err == api.OK {
			spoil(&p)
		}
		b.Copy(b.Len() - 1)
		for range min(2, b.Len()) {
			s, _ := b.Take(0)
			spoil(&s)
		}
		i++
	}
	must(t, "how many", i, 4)
}

// P19.2: what is told twice shares no memory with what was told ahead of it.
func TestToldApart(t *testing.T) {
	b := boxOf("a")
	b.Copy(0)
	var told []api.Send
	for i := range 2 {
		s, _ := b.Peek(i)
		told = append(told, s)
		s, _ = b.Peek(i)
		told = append(told, s)
	}
	for _, s := range b.All() {
		told = append(told, s)
	}
	for b.Len() > 0 {
		s, _ := b.Take(0)
		told = append(told, s)
	}
	must(t, "how many", len(told), 8)
	for i := range told {
		must(t, "told", told[i], send("a"))
		spoil(&told[i])
	}
}

// P19.1, P19.2: a box may be put into itself, and have lists without elements.
func TestPutItself(t *testing.T) {
	b := boxOf("a b")
	var l []api.Send
	for _, s := range b.All() {
		l = append(l, s)
	}
	b.Put(l)
	b.Put(l)
	mustHave(t, "itself", b, "a b a b a b")

	b = mail.New()
	s := send("a")
	s.R.Vars = make([]api.Var, 0, 3)
	b.Put([]api.Send{s, {}})
	s.R.Vars = append(s.R.Vars, api.Var{Name: "bad"})
	for i := range 2 {
		p, err := b.Peek(i)
		must(t, "no variables", err, api.OK)
		must(t, "no variables", len(p.R.Vars), 0)
	}
}

// plain is a box by the chapter's words: a list of commands.
type plain []api.Send

func (p plain) has(i int) bool { return i >= 0 && i < len(p) }

// take takes one out.
func (p *plain) take(i int) (api.Send, api.Errno) {
	if !p.has(i) {
		return api.Send{}, api.ErrNone
	}
	s := (*p)[i]
	*p = slices.Concat((*p)[:i], (*p)[i+1:])
	return s, api.OK
}

// P19.1, P19.2: whatever is called, a box is what the chapter's words say, and what is taken
// was put, or is a copy of such, as it was.
func TestRandom(t *testing.T) {
	for seed := range int64(150) {
		g := rand.New(rand.NewSource(seed))
		b, p := mail.New(), plain{}
		for range 120 {
			act(t, g, b, &p)
			must(t, "Len", b.Len(), len(p))
		}
		was := slices.Clone(p) // The range goes over these, whatever is done in it.
		n := 0
		for i, s := range b.All() {
			must(t, "place", i, n)
			must(t, "All", s, was[n])
			act(t, g, b, &p)
			n++
		}
		must(t, "how many", n, len(was))
	}
}

// act does one thing with a box and with the plain one, and holds the answers against each
// other.
func act(t *testing.T, g *rand.Rand, b *mail.Box, p *plain) {
	t.Helper()
	i := g.Intn(len(*p)+4) - 2
	var got, want api.Send
	var err, ask api.Errno
	switch g.Intn(7) {
	case 0, 1:
		l := sends([]string{"", "a", "bb c", "a d e", "c a bb d e"}[g.Intn(5)])
		for _, s := range l {
			*p = append(*p, whole(s))
		}
		must(t, "Put", b.Put(l), len(l))
		for k := range l {
			spoil(&l[k])
		}
	case 2, 3:
		got, err = b.Take(i)
		want, ask = p.take(i)
	case 4:
		got, err = b.Take(0)
		want, ask = p.take(0)
	case 5:
		err = b.Copy(i)
		if ask = api.ErrNone; p.has(i) {
			*p, ask = append(*p, whole((*p)[i])), api.OK
		}
	case 6:
		got, err = b.Peek(i)
		if ask = api.ErrNone; p.has(i) {
			want, ask = (*p)[i], api.OK
		}
	}
	must(t, "error", err, ask)
	must(t, "told", got, want)
	spoil(&got)
}
