package rec

import (
	"strings"

	"wherry/api"
	"wherry/value"
	"wherry/wire"
)

// field is one of a record's: both closures know where it stands.
type field struct {
	write func() string
	take  func(in *wire.Reader)
}

// fields are a record's in the order of its bytes: writing and taking both go by
// this one list, so that neither has an order of its own.
func fields(r *api.Record) []field {
	return []field{
		small(&r.Class), small(&r.Kind),
		count(&r.From), number(&r.Time),
		count(&r.Key), count(&r.Key2), count(&r.Key3),
		number(&r.N), number(&r.M),
		text(&r.A), text(&r.B), text(&r.C),
		list(&r.Vars),
	}
}

func written(l []field) string {
	var b strings.Builder
	for _, f := range l {
		b.WriteString(f.write())
	}
	return b.String()
}

func taken(l []field, in *wire.Reader) {
	for _, f := range l {
		f.take(in)
	}
}

// small is a number of one byte.
func small(at *int) field {
	return field{
		write: func() string { return string([]byte{byte(*at)}) },
		take:  func(in *wire.Reader) { *at = int(in.Byte()) },
	}
}

func count(at *uint64) field {
	return field{
		write: func() string { return wire.Uint(*at) },
		take:  func(in *wire.Reader) { *at = in.Uint() },
	}
}

func number(at *int64) field {
	return field{
		write: func() string { return wire.Int(*at) },
		take:  func(in *wire.Reader) { *at = in.Int() },
	}
}

// text takes one that has room in a record; its own bound, fits knows.
func text(at *string) field {
	return field{
		write: func() string { return wire.Text(*at) },
		take:  func(in *wire.Reader) { *at = in.Text(api.MaxRecord) },
	}
}

func list(at *[]api.Var) field {
	return field{
		write: func() string { return value.VarsBytes(*at) },
		take:  func(in *wire.Reader) { *at, _ = value.TakeVars(in) },
	}
}
