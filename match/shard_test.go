package match_test

import (
	"fmt"
	"math"
	"math/big"
	"math/rand"
	"testing"

	"wherry/match"
)

// sum is the chapter's h, as a whole number of any size till its end.
func sum(key string) uint64 {
	h := new(big.Int)
	for _, c := range []byte(key) {
		h.Mul(h, big.NewInt(31))
		h.Add(h, big.NewInt(int64(c)))
	}
	return h.Mod(h, big.NewInt(1<<32)).Uint64()
}

func mustShard(t *testing.T, key string, parts, want int) {
	t.Helper()
	if got := match.Shard(key, parts); got != want {
		t.Errorf("Shard(%.40q, %d): %d, want %d", key, parts, got, want)
	}
}

// P17.1: Shard of short keys, as one reckons it by hand.
func TestShard(t *testing.T) {
	mustShard(t, "", 1, 0)
	mustShard(t, "", 7, 0)
	mustShard(t, "a", 4, 1)
	mustShard(t, "a", 100, 97)
	mustShard(t, "ab", 4, 1)
	mustShard(t, "ba", 4, 3)
	mustShard(t, "ab", 10000, 3105)
	mustShard(t, "\x00", 5, 0)
	mustShard(t, "\x00\x01", 5, 1)
	mustShard(t, "\xff", 1000, 255)
	mustShard(t, "\xc3\xa9", 1<<20, 31*0xc3+0xa9)
	mustShard(t, "k", 2, 1)
}

// P17.1: with no parts 0; with one 0; with more than any h, h.
func TestShardParts(t *testing.T) {
	for _, key := range []string{"", "a", "ab", long(1000), "\xff\xff\xff\xff\xff\xff\xff\xff"} {
		for _, parts := range []int{0, -1, -4, math.MinInt, 1} {
			mustShard(t, key, parts, 0)
		}
		for _, parts := range []int{2, 3, 4, 5, 1<<31 - 1, 1 << 31, 1<<32 - 1, 1 << 32, 1<<32 + 1, math.MaxInt} {
			mustShard(t, key, parts, int(sum(key)%uint64(parts)))
		}
		mustShard(t, key, math.MaxInt, int(sum(key)))
	}
}

// P17.1: h goes round at 2^32, for keys of all lengths and bytes.
func TestShardOfLongKeys(t *testing.T) {
	g := rand.New(rand.NewSource(1))
	round := 0
	for n := range 300 {
		b := make([]byte, n)
		g.Read(b)
		for _, parts := range []int{2, 3, 4, 1 << 40} {
			mustShard(t, string(b), parts, int(sum(string(b))%uint64(parts)))
		}
		if sum(string(b)) != uint64(match.Shard(string(b), 1<<32)) {
			t.Errorf("%d bytes", n)
		}
		if n > 7 && sum(string(b)) > 1<<31 {
			round++
		}
	}
	if round < 100 {
		t.Error(round)
	}
}

// P17.1: Home is what is above the lowest 40 bits.
func TestHome(t *testing.T) {
	for _, x := range []struct {
		key  uint64
		want int
	}{
		{0, 0}, {1, 0}, {1<<40 - 1, 0}, {1 << 40, 1}, {1<<40 + 1, 1}, {2<<40 - 1, 1}, {2 << 40, 2}, {3<<40 + 77, 3},
		{5 << 40, 5}, {1 << 62, 1 << 22}, {1 << 63, 1 << 23}, {math.MaxUint64, 1<<24 - 1},
	} {
		if got := match.Home(x.key); got != x.want {
			t.Errorf("Home(%d): %d, want %d", x.key, got, x.want)
		}
	}
	g := rand.New(rand.NewSource(2))
	for range 1000 {
		key := g.Uint64() >> g.Intn(64)
		if got, want := fmt.Sprint(match.Home(key)), fmt.Sprint(key/(1<<40)%(1<<31)); got != want {
			t.Errorf("Home(%d): %s, want %s", key, got, want)
		}
	}
}
