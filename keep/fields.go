package keep

import (
	"strings"

	"wherry/api"
	"wherry/value"
	"wherry/wire"
)

const (
	mostNumber = 30000   // of nodes, of flows and of retries
	mostTime   = 1 << 62 // of until when, and of when
	keyBytes   = 8       // of a number in a key
	nodeBytes  = 2       // of a node in a key
)

// field is what an element has at one place of its key or of its value: the
// closures know where it stands, so that what may be there, what is written and
// what is taken are told together.
type field struct {
	may   func() bool
	write func() string
	take  func(in *wire.Reader)
}

func mayAll(l ...field) bool {
	for _, f := range l {
		if !f.may() {
			return false
		}
	}
	return true
}

func written(l ...field) string {
	var b strings.Builder
	for _, f := range l {
		b.WriteString(f.write())
	}
	return b.String()
}

// taken doesn't tell whether it could: Read finds out by writing all anew.
func taken(s string, l ...field) {
	in := wire.Read(s)
	for _, f := range l {
		f.take(in)
	}
}

func always() bool { return true }

func count(at *uint64) field {
	return field{
		may:   always,
		write: func() string { return wire.Uint(*at) },
		take:  func(in *wire.Reader) { *at = in.Uint() },
	}
}

func number[N int | int64](at *N, least, most int64) field {
	return field{
		may:   func() bool { return least <= int64(*at) && int64(*at) <= most },
		write: func() string { return wire.Int(int64(*at)) },
		take:  func(in *wire.Reader) { *at = N(in.Int()) },
	}
}

// small is a number that may be -1: none.
func small(at *int) field { return number(at, -1, mostNumber) }

func time(at *int64) field { return number(at, 0, mostTime) }

func truth(at *bool) field {
	return field{
		may: always,
		write: func() string {
			if *at {
				return wire.Int(1)
			}
			return wire.Int(0)
		},
		take: func(in *wire.Reader) { *at = in.Int() == 1 },
	}
}

func text(at *string, most int) field {
	return field{
		may:   func() bool { return len(*at) <= most },
		write: func() string { return wire.Text(*at) },
		take:  func(in *wire.Reader) { *at = in.Text(most) },
	}
}

func name(at *string) field { return text(at, api.MaxName) }

func variables(at *[]api.Var) field {
	return field{
		may:   func() bool { return value.Right(*at) },
		write: func() string { return value.VarsBytes(*at) },
		take:  func(in *wire.Reader) { *at, _ = value.TakeVars(in) },
	}
}

func counts(at *[]uint64) field {
	return field{
		may: always,
		write: func() string {
			var b strings.Builder
			b.WriteString(wire.Uint(uint64(len(*at))))
			for _, n := range *at {
				b.WriteString(wire.Uint(n))
			}
			return b.String()
		},
		take: func(in *wire.Reader) {
			n := in.Uint()
			// A wrong reader ends it: n may be far more than there are bytes.
			for i := uint64(0); i < n && in.Err() == api.OK; i++ {
				*at = append(*at, in.Uint())
			}
		},
	}
}
