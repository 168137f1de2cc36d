// Package wire is layer 1: see shared/doc/01-wire.md.
package wire

const (
	lowBits   = 7            // bits of a number that one of its bytes holds
	more      = 1 << lowBits // stands in each byte of a number but its last one
	mostBytes = 10           // as many hold 64 bits, seven a byte
)

// Uint are a number's bytes.
func Uint(v uint64) string { return string(putUint(nil, v)) }

// Int are those of a number with a sign.
func Int(v int64) string { return Uint(unsigned(v)) }

// Text are a text's.
func Text(s string) string { return string(putText(nil, s)) }

// List are a list's.
func List(l []string) string {
	b := putUint(nil, uint64(len(l)))
	for _, s := range l {
		b = putText(b, s)
	}
	return string(b)
}

func putUint(b []byte, v uint64) []byte {
	for ; v >= more; v >>= lowBits {
		b = append(b, byte(v)|more)
	}
	return append(b, byte(v))
}

func putText(b []byte, s string) []byte {
	return append(putUint(b, uint64(len(s))), s...)
}

// unsigned is 2v or, below 0, -2v - 1: the latter is 2v with all bits
// inverted, which holds for the least number too, whose 2v goes round.
func unsigned(v int64) uint64 {
	u := uint64(v) << 1
	if v < 0 {
		return ^u
	}
	return u
}

// signed is the number whose unsigned is u.
func signed(u uint64) int64 {
	half := int64(u >> 1)
	if u&1 == 1 {
		return ^half
	}
	return half
}
