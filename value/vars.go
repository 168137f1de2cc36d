package value

import (
	"slices"
	"strings"

	"wherry/api"
	"wherry/wire"
)

// Named: is a text a name?
func Named(s string) bool {
	switch s {
	case "and", "or", "not", "true", "false", "len":
		return false // words of chapter 10's expressions
	}
	if s == "" || len(s) > api.MaxName || !letter(s[0]) {
		return false
	}
	for i := range len(s) {
		if !letter(s[i]) && !digit(s[i]) && s[i] != '_' {
			return false
		}
	}
	return true
}

func letter(c byte) bool { return 'a' <= c && c <= 'z' }

func digit(c byte) bool { return '0' <= c && c <= '9' }

// Right: are variables?
func Right(l []api.Var) bool {
	if len(l) > api.MaxVars {
		return false
	}
	ahead := "" // less than every name
	for _, x := range l {
		if !Named(x.Name) || !May(x.V) || x.Name <= ahead {
			return false
		}
		ahead = x.Name
	}
	return true
}

// Put gives a variable a value.
func Put(l []api.Var, name string, v api.Value) ([]api.Var, api.Errno) {
	if !Right(l) || !Named(name) || !May(v) {
		return nil, api.ErrArg
	}
	at, has := slices.BinarySearchFunc(l, name, func(x api.Var, name string) int {
		return strings.Compare(x.Name, name)
	})
	behind := at
	if has {
		behind++
	} else if len(l) == api.MaxVars {
		return nil, api.ErrFull
	}
	return slices.Concat(l[:at], []api.Var{{Name: name, V: v}}, l[behind:]), api.OK
}

// Get is a variable's.
func Get(l []api.Var, name string) (api.Value, bool) {
	// One by one, as l needn't rise.
	at := slices.IndexFunc(l, func(x api.Var) bool { return x.Name == name })
	if at < 0 {
		return api.Value{}, false
	}
	return l[at].V, true
}

// VarsBytes are variables'.
func VarsBytes(l []api.Var) string {
	if !Right(l) {
		return ""
	}
	var b strings.Builder
	b.WriteString(wire.Uint(uint64(len(l))))
	for _, x := range l {
		b.WriteString(wire.Text(x.Name))
		b.WriteString(Bytes(x.V))
	}
	return b.String()
}

// TakeVars takes variables.
func TakeVars(r *wire.Reader) ([]api.Var, bool) {
	n := r.Uint()
	if r.Err() != api.OK || n > api.MaxVars {
		return nil, false
	}
	var l []api.Var
	for range n {
		name := r.Text(api.MaxName)
		v, ok := Take(r)
		if !ok {
			return nil, false
		}
		l = append(l, api.Var{Name: name, V: v})
	}
	if !Right(l) {
		return nil, false
	}
	return l, true
}
