package frame

const (
	divisor  = 0xedb88320
	halfBits = 4 // bits of half a byte
	halves   = 1 << halfBits
)

// Sum is a check sum.
func Sum(s string) uint32 { return sums()(s) }

// sums makes sums. It is a closure over what each half of a byte comes to: 16
// numbers are quickly made, even for the sum of few bytes, where 256, one for
// each byte, would be more work than the sum itself.
func sums() func(s string) uint32 {
	var comesTo [halves]uint32
	for i := range halves {
		comesTo[i] = shifted(uint32(i))
	}
	return func(s string) uint32 {
		c := ^uint32(0)
		for i := range len(s) {
			c ^= uint32(s[i])
			c = c>>halfBits ^ comesTo[c%halves]
			c = c>>halfBits ^ comesTo[c%halves]
		}
		return ^c
	}
}

// shifted is c, shifted bit by bit as often as half a byte has bits.
func shifted(c uint32) uint32 {
	for range halfBits {
		if c&1 == 1 {
			c = c>>1 ^ divisor
		} else {
			c >>= 1
		}
	}
	return c
}

// written are a sum's bytes, the lowest first.
func written(c uint32) string {
	var b [sumBytes]byte
	for i := range b {
		b[i] = byte(c >> (8 * i))
	}
	return string(b[:])
}
