package keep

import (
	"wherry/api"
	"wherry/wire"
)

// In keys numbers have their highest byte first: so they rise as their bytes do.

func key(at *uint64) field {
	return field{
		may:   always,
		write: func() string { return high(*at, keyBytes) },
		take:  func(in *wire.Reader) { *at = takeHigh(in, keyBytes) },
	}
}

func node(at *int) field {
	return field{
		may:   func() bool { return 0 <= *at && *at <= mostNumber },
		write: func() string { return high(uint64(*at), nodeBytes) },
		take:  func(in *wire.Reader) { *at = int(takeHigh(in, nodeBytes)) },
	}
}

// id is all of a key behind its letter: nothing tells how long it is.
func id(at *string) field {
	return field{
		may:   func() bool { return len(*at) <= api.MaxName },
		write: func() string { return *at },
		take: func(in *wire.Reader) {
			b := make([]byte, in.Left())
			for i := range b {
				b[i] = in.Byte()
			}
			*at = string(b)
		},
	}
}

// high are the lowest bytes of a number, the highest of them first.
func high(v uint64, bytes int) string {
	b := make([]byte, bytes)
	for i := range b {
		b[bytes-1-i] = byte(v >> (8 * i))
	}
	return string(b)
}

func takeHigh(in *wire.Reader, bytes int) uint64 {
	v := uint64(0)
	for range bytes {
		v = v<<8 | uint64(in.Byte())
	}
	return v
}
