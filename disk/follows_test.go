package disk_test

import (
	"maps"
	"slices"
	"strings"
	"testing"

	"wherry/api"
	"wherry/disk"
)

// plain is what a disk should be, each promise's words taken one by one.
type plain struct {
	safe, rest map[string]string
	acts       int // below 0: any number
	off        bool
}

func newPlain() *plain {
	return &plain{map[string]string{}, map[string]string{}, -1, false}
}

func (p *plain) clone() *plain {
	return &plain{maps.Clone(p.safe), maps.Clone(p.rest), p.acts, p.off}
}

// act is an act that comes to what do does, if wrong isn't the answer.
func (p *plain) act(wrong api.Errno, do func()) api.Errno {
	switch {
	case p.off:
		return api.ErrDead
	case wrong != api.OK:
		return wrong
	case p.acts == 0:
		p.off = true
		return api.ErrDead
	}
	if p.acts > 0 {
		p.acts--
	}
	do()
	return api.OK
}

// none is ErrNone, if there is no such file.
func (p *plain) none(name string) api.Errno {
	if _, has := p.safe[name]; !has {
		return api.ErrNone
	}
	return api.OK
}

func (p *plain) add(name, s string) api.Errno {
	wrong := api.OK
	if len(name) < 1 || len(name) > 32 {
		wrong = api.ErrArg
	} else if p.none(name) != api.OK && len(p.safe) == 256 {
		wrong = api.ErrFull
	}
	return p.act(wrong, func() {
		p.safe[name] += ""
		p.rest[name] += s
	})
}

func (p *plain) sync(name string) api.Errno {
	return p.act(p.none(name), func() {
		p.safe[name] += p.rest[name]
		p.rest[name] = ""
	})
}

func (p *plain) cut(name string, n int) api.Errno {
	safe, rest := p.safe[name], p.rest[name]
	wrong := p.none(name)
	if wrong == api.OK && (n < 0 || n > len(safe+rest)) {
		wrong = api.ErrArg
	}
	return p.act(wrong, func() {
		p.safe[name] = safe[:min(n, len(safe))]
		p.rest[name] = (safe + rest)[len(p.safe[name]):n]
	})
}

func (p *plain) remove(name string) api.Errno {
	return p.act(p.none(name), func() {
		delete(p.safe, name)
		delete(p.rest, name)
	})
}

func (p *plain) crash(keep []int) {
	for i, name := range slices.Sorted(maps.Keys(p.safe)) {
		if i < len(keep) && keep[i] > 0 {
			p.safe[name] += p.rest[name][:min(keep[i], len(p.rest[name]))]
		}
		p.rest[name] = ""
	}
	p.off, p.acts = false, -1
}

// steps are numbers that look like chance and are the same each time.
func steps(seed uint64) func(n int) int {
	return func(n int) int {
		seed = seed*6364136223846793005 + 1442695040888963407
		return int(seed>>33) % n
	}
}

// mustMatch holds all that can be asked of a disk against the plain one.
func mustMatch(t *testing.T, d *disk.Disk, p *plain) {
	t.Helper()
	if d.Off() != p.off {
		t.Fatalf("off: %v, want %v", d.Off(), p.off)
	}
	names := slices.Sorted(maps.Keys(p.safe))
	if got := d.Names(); !slices.Equal(got, names) {
		t.Fatalf("names: %q, want %q", got, names)
	}
	for _, name := range names {
		want, werr := p.safe[name]+p.rest[name], api.OK
		if p.off {
			want, werr = "", api.ErrDead
		}
		if got, err := d.Read(name); got != want || err != werr {
			t.Fatalf("%q: %q %d, want %q %d", name, got, err, want, werr)
		}
	}
}

// P4.1 to P4.5: many calls, one behind the other, answer as the words say.
func TestAsTold(t *testing.T) {
	names := []string{"a", "b", "c", "d", "", strings.Repeat("n", 33)}
	for seed := range uint64(60) {
		next := steps(seed)
		d, p := disk.New(), newPlain()
		for range 400 {
			name := names[next(len(names))]
			var got, want api.Errno
			switch k := next(20); {
			case k < 8:
				s := "0123456789"[next(10):]
				got, want = d.Append(name, s), p.add(name, s)
			case k < 12:
				got, want = d.Sync(name), p.sync(name)
			case k < 15:
				n := next(60) - 2
				got, want = d.Cut(name, n), p.cut(name, n)
			case k < 16:
				got, want = d.Delete(name), p.remove(name)
			case k < 17:
				n := next(12) - 3
				d.Power(n)
				p.acts = n
			case k < 18:
				keep := make([]int, next(6))
				for i := range keep {
					keep[i] = next(14) - 2
				}
				d.Crash(keep)
				p.crash(keep)
			default: // The clone goes on, and the other one is used up beside it.
				old, q := d, p
				d, p = d.Clone(), p.clone()
				old.Crash([]int{9, 9, 9})
				q.crash([]int{9, 9, 9})
				must(t, "the other one", old.Append("a", "gone"), q.add("a", "gone"))
				mustMatch(t, old, q)
			}
			must(t, "a call", got, want)
			mustMatch(t, d, p)
		}
	}
}

// P4.6: what was synced is read, whatever happens then; what a file has is a
// beginning of what was appended.
func TestWhatFollows(t *testing.T) {
	for seed := range uint64(60) {
		next := steps(seed + 1000)
		d := disk.New()
		must(t, "made", d.Append("a", ""), api.OK)
		sure, all := "", "" // What was synced; what was appended, but for what a crash took.
		for i := range 300 {
			switch next(6) {
			case 0, 1, 2:
				s := string(rune('a'+i%26)) + "-"
				if d.Append("a", s) == api.OK {
					all += s
				}
			case 3:
				if d.Sync("a") == api.OK {
					sure = all
				}
			case 4:
				d.Power(next(6) - 1)
			default:
				d.Crash([]int{next(8) - 2})
				s, err := d.Read("a")
				must(t, "Read", err, api.OK)
				if !strings.HasPrefix(s, sure) || !strings.HasPrefix(all, s) {
					t.Fatalf("%q of %q, with %q sure", s, all, sure)
				}
				sure, all = s, s
			}
			if s, err := d.Read("a"); err == api.OK && s != all {
				t.Fatalf("%q, want %q", s, all)
			}
		}
	}
}
