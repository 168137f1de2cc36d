package keep_test

import (
	"encoding/binary"
	"math"
	"reflect"
	"slices"
	"strings"

	"wherry/api"
	"wherry/value"
	"wherry/wire"
)

// row is a key and its value.
type row struct{ key, value string }

// uintBytes, intBytes and textBytes are chapter 1's, by the library.
func uintBytes(n uint64) string { return string(binary.AppendUvarint(nil, n)) }
func intBytes(n int64) string   { return string(binary.AppendVarint(nil, n)) }
func textBytes(s string) string { return uintBytes(uint64(len(s))) + s }

// varsBytes are chapter 9's, of variables whatever they are.
func varsBytes(l []api.Var) string {
	b := uintBytes(uint64(len(l)))
	for _, x := range l {
		b += textBytes(x.Name) + string([]byte{byte(x.V.Kind)})
		if x.V.Kind == api.Text {
			b += textBytes(x.V.S)
		} else {
			b += intBytes(x.V.N)
		}
	}
	return b
}

// numberKey and placeKey are keys of the letter.
func numberKey(letter string, n uint64) string {
	return string(binary.BigEndian.AppendUint64([]byte(letter), n))
}

func placeKey(letter string, token uint64, node int) string {
	return string(binary.BigEndian.AppendUint16([]byte(numberKey(letter, token)), uint16(node)))
}

// written are a state's rows, by the words; of one that may not be whatever it comes
// to.
func written(s api.State) []row {
	l := []row{{"a", uintBytes(s.Pos) + uintBytes(s.Done) + uintBytes(s.Made)}}
	put := func(k string, parts ...string) { l = append(l, row{k, strings.Join(parts, "")}) }
	for _, x := range s.Procs {
		put("p"+x.Id, textBytes(x.Bytes))
	}
	for _, x := range s.Insts {
		put(numberKey("i", x.Key), textBytes(x.Id), varsBytes(x.Vars))
	}
	for _, x := range s.Tokens {
		put(numberKey("t", x.Key), uintBytes(x.Inst), uintBytes(x.Scope), intBytes(int64(x.Node)), intBytes(int64(x.By)), textBytes(x.Stuck))
	}
	for _, x := range s.Jobs {
		put(numberKey("j", x.Key), uintBytes(x.Token), textBytes(x.Type), intBytes(int64(x.Retries)), textBytes(x.Worker), intBytes(x.Until))
	}
	for _, x := range s.Timers {
		put(placeKey("r", x.Token, x.Node), intBytes(x.When))
	}
	for _, x := range s.Subs {
		open := map[bool]int64{true: 1}[x.Open]
		put(placeKey("s", x.Token, x.Node), uintBytes(x.Inst), textBytes(x.Name), textBytes(x.Key), intBytes(open))
	}
	for _, x := range s.Kept {
		put(placeKey("k", x.Token, x.Node), uintBytes(x.Message))
	}
	for _, x := range s.Listed {
		put(placeKey("l", x.Token, x.Node), uintBytes(x.Inst), textBytes(x.Name), textBytes(x.Key), uintBytes(x.Message), varsBytes(x.Vars))
	}
	for _, x := range s.Messages {
		insts := binary.AppendUvarint(nil, uint64(len(x.Insts)))
		for _, n := range x.Insts {
			insts = binary.AppendUvarint(insts, n)
		}
		put(numberKey("g", x.Key), textBytes(x.Name), textBytes(x.For), textBytes(x.Id), intBytes(x.Until), varsBytes(x.Vars), string(insts))
	}
	slices.SortStableFunc(l, func(a, b row) int { return strings.Compare(a.key, b.key) })
	return l
}

// rises: is each one above the one ahead of it?
func rises[T any](l []T, below func(a, b T) bool) bool {
	for i := 1; i < len(l); i++ {
		if !below(l[i-1], l[i]) {
			return false
		}
	}
	return true
}

// every: is each one so?
func every[T any](l []T, is func(x T) bool) bool {
	for _, x := range l {
		if !is(x) {
			return false
		}
	}
	return true
}

func placeBelow(a, b uint64, m, n int) bool { return a < b || a == b && m < n }

func within[N int | int64](x, least, most N) bool { return least <= x && x <= most }

func names(l ...string) bool { return every(l, func(s string) bool { return len(s) <= 32 }) }

// mayBe: may a state be, by the words?
func mayBe(s api.State) bool {
	return mayRise(s) && mayEach(s) && every(written(s), func(r row) bool { return len(r.value) <= 16384 })
}

func mayRise(s api.State) bool {
	return rises(s.Procs, func(a, b api.Deployed) bool { return a.Id < b.Id }) &&
		rises(s.Insts, func(a, b api.Instance) bool { return a.Key < b.Key }) &&
		rises(s.Tokens, func(a, b api.Token) bool { return a.Key < b.Key }) &&
		rises(s.Jobs, func(a, b api.Job) bool { return a.Key < b.Key }) &&
		rises(s.Timers, func(a, b api.Timer) bool { return placeBelow(a.Token, b.Token, a.Node, b.Node) }) &&
		rises(s.Subs, func(a, b api.Sub) bool { return placeBelow(a.Token, b.Token, a.Node, b.Node) }) &&
		rises(s.Kept, func(a, b api.Kept) bool { return placeBelow(a.Token, b.Token, a.Node, b.Node) }) &&
		rises(s.Listed, func(a, b api.Listed) bool { return placeBelow(a.Token, b.Token, a.Node, b.Node) }) &&
		rises(s.Messages, func(a, b api.Message) bool { return a.Key < b.Key })
}

func mayEach(s api.State) bool {
	return every(s.Procs, func(x api.Deployed) bool { return names(x.Id) }) &&
		every(s.Insts, func(x api.Instance) bool { return names(x.Id) && value.Right(x.Vars) }) &&
		every(s.Tokens, func(x api.Token) bool {
			return names(x.Stuck) && within(x.Node, -1, 30000) && within(x.By, -1, 30000)
		}) &&
		every(s.Jobs, func(x api.Job) bool {
			return names(x.Type, x.Worker) && within(x.Retries, -1, 30000) && within(x.Until, 0, 1<<62)
		}) &&
		every(s.Timers, func(x api.Timer) bool { return within(x.Node, 0, 30000) && within(x.When, 0, 1<<62) }) &&
		every(s.Subs, func(x api.Sub) bool { return within(x.Node, 0, 30000) && names(x.Name) && len(x.Key) <= 1024 }) &&
		every(s.Kept, func(x api.Kept) bool { return within(x.Node, 0, 30000) }) &&
		every(s.Listed, func(x api.Listed) bool {
			return within(x.Node, 0, 30000) && names(x.Name) && len(x.Key) <= 1024 && value.Right(x.Vars)
		}) &&
		every(s.Messages, func(x api.Message) bool {
			return names(x.Name, x.Id) && len(x.For) <= 1024 && within(x.Until, 0, 1<<62) && value.Right(x.Vars)
		})
}

// cursor takes numbers and texts from the left; where it can't, it has no bytes any
// more.
type cursor struct{ rest string }

func (c *cursor) uint() uint64 {
	n, size := binary.Uvarint([]byte(c.rest[:min(len(c.rest), 11)]))
	if size <= 0 {
		size = len(c.rest)
	}
	c.rest = c.rest[size:]
	return n
}

func (c *cursor) int() int64 {
	n := c.uint()
	return int64(n>>1) ^ -int64(n&1)
}

func (c *cursor) text() string {
	n := c.uint()
	s := c.rest[:min(n, uint64(len(c.rest)))]
	c.rest = c.rest[len(s):]
	return s
}

func (c *cursor) vars() []api.Var {
	in := wire.Read(c.rest)
	l, _ := value.TakeVars(in)
	c.rest = c.rest[len(c.rest)-in.Left():]
	return l
}

func (c *cursor) uints() []uint64 {
	var l []uint64
	for n := c.uint(); uint64(len(l)) < n && c.rest != ""; {
		l = append(l, c.uint())
	}
	return l
}

// placeOf are the numbers of a key behind its letter, as far as it has as many bytes.
func placeOf(k string) (uint64, int) {
	b := append([]byte(k), make([]byte, 10)...)
	return binary.BigEndian.Uint64(b), int(binary.BigEndian.Uint16(b[8:]))
}

// readOf is the state whose rows these are, by the words: what they seem to be, if
// just they are written of it.
func readOf(rows []row) (api.State, bool) {
	var s api.State
	for _, r := range rows {
		seems(&s, r)
	}
	return s, mayBe(s) && slices.Equal(written(s), rows)
}

// seems puts what a row seems to be of.
func seems(s *api.State, r row) {
	if r.key == "" {
		return
	}
	c := &cursor{r.value}
	key, node := placeOf(r.key[1:])
	switch r.key[0] {
	case 'a':
		s.Pos, s.Done, s.Made = c.uint(), c.uint(), c.uint()
	case 'p':
		s.Procs = append(s.Procs, api.Deployed{Id: r.key[1:], Bytes: c.text()})
	case 'i':
		s.Insts = append(s.Insts, api.Instance{Key: key, Id: c.text(), Vars: c.vars()})
	case 't':
		s.Tokens = append(s.Tokens, api.Token{Key: key, Inst: c.uint(), Scope: c.uint(), Node: int(c.int()), By: int(c.int()), Stuck: c.text()})
	case 'j':
		s.Jobs = append(s.Jobs, api.Job{Key: key, Token: c.uint(), Type: c.text(), Retries: int(c.int()), Worker: c.text(), Until: c.int()})
	case 'r':
		s.Timers = append(s.Timers, api.Timer{Token: key, Node: node, When: c.int()})
	case 's':
		s.Subs = append(s.Subs, api.Sub{Token: key, Node: node, Inst: c.uint(), Name: c.text(), Key: c.text(), Open: c.int() == 1})
	case 'k':
		s.Kept = append(s.Kept, api.Kept{Token: key, Node: node, Message: c.uint()})
	case 'l':
		s.Listed = append(s.Listed, api.Listed{Token: key, Node: node, Inst: c.uint(), Name: c.text(), Key: c.text(), Message: c.uint(), Vars: c.vars()})
	case 'g':
		s.Messages = append(s.Messages, api.Message{Key: key, Name: c.text(), For: c.text(), Id: c.text(), Until: c.int(), Vars: c.vars(), Insts: c.uints()})
	}
}

// changesOf are the changes, by the words: of each key that is in either.
func changesOf(rows []row, s api.State) []api.Change {
	if !mayBe(s) {
		return nil
	}
	was, is := map[string]string{}, map[string]string{}
	for i, r := range rows {
		if every(rows[:i], func(ahead row) bool { return r.key > ahead.key }) {
			was[r.key] = r.value
		}
	}
	var l []api.Change
	for _, r := range written(s) {
		is[r.key] = r.value
		if v, has := was[r.key]; !has || v != r.value {
			l = append(l, api.Change{K: r.key, Cell: api.Cell{S: r.value}})
		}
	}
	for k := range was {
		if _, has := is[k]; !has {
			l = append(l, api.Change{K: k, Cell: api.Cell{Gone: true}})
		}
	}
	slices.SortFunc(l, func(a, b api.Change) int { return strings.Compare(a.K, b.K) })
	return l
}

// tidy makes nil of all lists without elements, in a copy that shares nothing.
func tidy(v reflect.Value) reflect.Value {
	out := reflect.New(v.Type()).Elem()
	switch v.Kind() {
	case reflect.Slice:
		for i := range v.Len() {
			out = reflect.Append(out, tidy(v.Index(i)))
		}
	case reflect.Struct:
		for i := range v.NumField() {
			out.Field(i).Set(tidy(v.Field(i)))
		}
	default:
		out.Set(v)
	}
	return out
}

// deepCopy is x in other memory, whichever fields it has.
func deepCopy[T any](x T) T { return tidy(reflect.ValueOf(x)).Interface().(T) }

// alike: are all fields the same, whichever there are? An empty list is as good as
// none.
func alike[T any](a, b T) bool { return reflect.DeepEqual(deepCopy(a), deepCopy(b)) }

const (
	top    = uint64(math.MaxUint64)
	latest = int64(1 << 62)
)
