package store_test

import (
	"fmt"
	"maps"
	"slices"
	"strings"
	"testing"

	"wherry/api"
	"wherry/disk"
	"wherry/store"
)

// steps are numbers that look like chance and are the same each time.
func steps(seed uint64) func(n int) int {
	return func(n int) int {
		seed = seed*6364136223846793005 + 1442695040888963407
		return int(seed>>33) % n
	}
}

// laid is a file of the plain store's: what it was to have, what it has, and what
// that means.
type laid struct {
	whole      string
	have, safe int
	cells      map[string]api.Cell // a run's
	point      *point              // a manifest's
}

func (f *laid) good() bool { return f.have == len(f.whole) }

// point is a checkpoint.
type point struct {
	generation, tag, next uint64
	runs                  []string
}

// plain is what a store and its disk should be, each promise's words taken one by
// one.
type plain struct {
	block, most int
	files       map[string]*laid
	memory      map[string]api.Cell
	now, ahead  *point
	older, next uint64
	acts        int // below 0: any number
	off         bool
}

func (p *plain) act() api.Errno {
	switch {
	case p.off:
		return api.ErrDead
	case p.acts == 0:
		p.off = true
		return api.ErrDead
	}
	if p.acts > 0 {
		p.acts--
	}
	return api.OK
}

// lay appends and syncs.
func (p *plain) lay(name string, f *laid) api.Errno {
	if err := p.act(); err != api.OK {
		return err
	}
	f.have = len(f.whole)
	p.files[name] = f
	if err := p.act(); err != api.OK {
		return err
	}
	f.safe = f.have
	return api.OK
}

// sweep deletes all files but those of these checkpoints.
func (p *plain) sweep(l ...*point) api.Errno {
	var kept []string
	for _, c := range l {
		if c != nil && c.generation > 0 {
			kept = append(append(kept, manName(c.generation)), c.runs...)
		}
	}
	for _, name := range slices.Sorted(maps.Keys(p.files)) {
		if slices.Contains(kept, name) {
			continue
		}
		if err := p.act(); err != api.OK {
			return err
		}
		delete(p.files, name)
	}
	return api.OK
}

// listed are the cells of a map, by rising keys.
func listed(cells map[string]api.Cell) []api.Change {
	var l []api.Change
	for _, k := range slices.Sorted(maps.Keys(cells)) {
		l = append(l, api.Change{K: k, Cell: cells[k]})
	}
	return l
}

// build lays the run of cells down.
func (p *plain) build(cells map[string]api.Cell) (string, api.Errno) {
	name := runName(p.next)
	p.next++
	return name, p.lay(name, &laid{whole: runOf(p.block, listed(cells)...), cells: cells})
}

// there are the cells of these runs that aren't Gone, the last one's first.
func (p *plain) there(runs []string) map[string]api.Cell {
	cells := map[string]api.Cell{}
	for _, name := range runs {
		maps.Copy(cells, p.files[name].cells)
	}
	maps.DeleteFunc(cells, func(_ string, c api.Cell) bool { return c.Gone })
	return cells
}

func (p *plain) save(tag uint64) api.Errno {
	if tag < p.now.tag {
		return api.ErrOrder
	}
	if err := p.sweep(p.now, p.ahead); err != api.OK {
		return err
	}
	runs := slices.Clone(p.now.runs)
	if len(p.memory) > 0 {
		name, err := p.build(maps.Clone(p.memory))
		if err != api.OK {
			return err
		}
		runs = append(runs, name)
	}
	if len(runs) > p.most {
		name, err := p.build(p.there(runs))
		if err != api.OK {
			return err
		}
		runs = []string{name}
	}
	c := &point{p.now.generation + 1, tag, p.next, runs}
	if err := p.lay(manName(c.generation), &laid{whole: manOf(c.generation, tag, p.next, runs...), point: c}); err != api.OK {
		return err
	}
	p.memory, p.older, p.ahead, p.now = map[string]api.Cell{}, p.now.tag, p.now, c
	return p.sweep(p.now, p.ahead)
}

// open is the store anew, as P8.1 says.
func (p *plain) open(block, most int) api.Errno {
	if p.off {
		return api.ErrDead
	}
	p.block, p.most, p.memory = block, most, map[string]api.Cell{}
	p.now, p.ahead, p.older, p.next = &point{}, nil, 0, 1
	for _, f := range p.files {
		bad := func(name string) bool { return p.files[name] == nil || !p.files[name].good() }
		if c := f.point; c != nil && f.good() && !slices.ContainsFunc(c.runs, bad) && c.generation > p.now.generation {
			p.now, p.next = c, c.next
		}
	}
	return p.sweep(p.now)
}

// crash leaves of each file, by rising names, what is kept.
func (p *plain) crash(keep []int) {
	for i, name := range slices.Sorted(maps.Keys(p.files)) {
		f, n := p.files[name], 0
		if i < len(keep) {
			n = max(keep[i], 0)
		}
		f.safe += min(n, f.have-f.safe)
		f.have = f.safe
	}
	p.acts, p.off = -1, false
}

// all is what there is.
func (p *plain) all() string {
	cells := p.there(p.now.runs)
	maps.Copy(cells, p.memory)
	var l []string
	for _, c := range listed(cells) {
		if !c.Cell.Gone {
			l = append(l, c.K+"="+c.Cell.S)
		}
	}
	return strings.Join(l, " ")
}

// mustAgree holds a store and its disk to the plain ones.
func mustAgree(t *testing.T, what string, d *disk.Disk, s *store.Store, p *plain) {
	t.Helper()
	mustStand(t, what, s, p.now.tag, p.older, len(p.now.runs))
	mustTell(t, what, s, p.all())
	mustHave(t, what, d, slices.Collect(maps.Keys(p.files))...)
	if d.Off() != p.off {
		t.Fatalf("%s: off: %t", what, d.Off())
	}
	for name, f := range p.files {
		mustBe(t, what, d, name, f.whole[:f.safe])
		if s, err := d.Read(name); !p.off && (s != f.whole[:f.have] || err != api.OK) {
			t.Fatalf("%s: %s: %q %d", what, name, s, err)
		}
	}
	if t.Failed() {
		t.FailNow()
	}
}

// chance is a list of changes.
func chance(next func(n int) int) string {
	var l []string
	for range next(6) {
		k := "abcdefgh"[next(8):][:1]
		if next(3) == 0 {
			l = append(l, "-"+k)
		} else {
			l = append(l, k+"="+strings.Repeat("xyz"[next(3):][:1], next(3)*next(30)))
		}
	}
	return strings.Join(l, " ")
}

// crashed crashes both, keeps what chance keeps, and opens them anew, at first
// with too little power now and then.
func crashed(t *testing.T, what string, d *disk.Disk, p *plain, next func(n int) int) *store.Store {
	t.Helper()
	keep := make([]int, next(8))
	for i := range keep {
		keep[i] = next(3)*next(100) - 10
	}
	d.Crash(keep)
	p.crash(keep)
	block, most := 64+next(3)*next(200), 1+next(4)
	for next(3) == 0 {
		p.acts = next(4)
		d.Power(p.acts)
		s, err := store.Open(d, block, most)
		must(t, what+": Open", err, p.open(block, most))
		if s != nil && err == api.OK {
			return s
		}
		d.Crash(nil)
		p.crash(nil)
	}
	s, err := store.Open(d, block, most)
	must(t, what+": Open", err, p.open(block, most))
	return s
}

// P8.1 to P8.6: a store, and the files of its disk, are what the words come to,
// call by call, whatever the calls, the power and the crashes are.
func TestAsTold(t *testing.T) {
	merged, ended := 0, 0
	for seed := range uint64(400) {
		next := steps(seed)
		d := disk.New()
		p := &plain{files: map[string]*laid{}, acts: -1}
		s := crashed(t, "first", d, p, next)
		for i := range 50 {
			what := fmt.Sprintf("seed %d, call %d", seed, i)
			switch n := next(20); {
			case n < 8:
				l := chance(next)
				apply(t, s, l)
				for _, c := range changes(l) {
					p.memory[c.K] = c.Cell
				}
			case n < 14:
				tag := p.now.tag + uint64(next(4))
				if tag > 0 && next(6) == 0 {
					tag--
				}
				want := p.save(tag)
				must(t, what+": Save", s.Save(tag), want)
				if want == api.OK && p.ahead.generation > 0 && len(p.now.runs) < len(p.ahead.runs) {
					merged++
				}
			case n < 16 && !p.off:
				p.acts = next(12)
				d.Power(p.acts)
			case n < 17 && p.off:
				// The same store goes on behind a crash.
				ended++
				d.Crash(nil)
				p.crash(nil)
			case n < 18:
				s = crashed(t, what, d, p, next)
			default:
				mustFind(t, what, s, p, "abcdefghi"[next(9):][:next(2)])
			}
			mustAgree(t, what, d, s, p)
		}
	}
	if merged < 100 || ended < 100 {
		t.Errorf("runs were put together %d times, the power ended %d times", merged, ended)
	}
}

// mustFind holds Get and From of a key to the plain store.
func mustFind(t *testing.T, what string, s *store.Store, p *plain, k string) {
	t.Helper()
	var l []string
	value, there := "", false
	for _, w := range strings.Fields(p.all()) {
		key, v, _ := strings.Cut(w, "=")
		if key >= k {
			l = append(l, w)
		}
		if key == k {
			value, there = v, true
		}
	}
	if got := told(s.From(k)); got != strings.Join(l, " ") {
		t.Errorf("%s: From(%q): %q", what, k, got)
	}
	if v, has := s.Get(k); v != value || has != there {
		t.Errorf("%s: Get(%q): %q %t", what, k, v, has)
	}
}

// moment is what a checkpoint that was begun is to hold.
type moment struct {
	tag  uint64
	keys string
}

// story is a row of changes and Saves till the disk refuses one: the checkpoints
// that were begun, from the last one on that was answered OK.
func story(t *testing.T, s *store.Store) []moment {
	t.Helper()
	begun := []moment{{s.Tag(), told(s.From(""))}}
	for i, l := range []string{"a=1 b=1", "", "b=2 -a c=2", "d=" + long(70) + " -c", "-b -d -x", "e=5 f=5", "e=6"} {
		apply(t, s, l)
		ahead := tellAll(s)
		tag := uint64(10 + i)
		begun = append(begun, moment{tag, ahead})
		err := s.Save(tag)
		if got := tellAll(s); got != ahead {
			t.Errorf("Save(%d) answered %d, and changed %q to %q", tag, err, ahead, got)
		}
		if err != api.OK {
			return begun
		}
		begun = begun[len(begun)-1:]
	}
	return begun
}

// mustBegun holds a store that was opened behind a crash to P8.6.
func mustBegun(t *testing.T, what string, s *store.Store, begun []moment) moment {
	t.Helper()
	got := moment{s.Tag(), tellAll(s)}
	if !slices.Contains(begun, got) {
		t.Fatalf("%s: %v, want one of %v", what, got, begun)
	}
	return got
}

// keeping is what a crash keeps, of each file: kept bytes, or all.
func keeping(kept int) []int {
	if kept > 60 {
		kept = 1 << 20
	}
	return slices.Repeat([]int{kept}, 12)
}

// P8.6: a crash at every act, of which nothing is kept, all, and each part; then
// Opens that are cut off at every act of theirs: all give the same.
func TestCrashes(t *testing.T) {
	whole, last, later := 0, 0, 0
	for power := range 60 {
		for kept := -1; kept < 64; kept += 3 {
			d := disk.New()
			s := open(t, d, 2)
			d.Power(power)
			begun := story(t, s)
			if !d.Off() {
				whole++
			}
			d.Crash(keeping(kept))
			what := fmt.Sprintf("power %d, kept %d", power, kept)
			got := mustBegun(t, what, open(t, d.Clone(), 2), begun)
			if got == begun[0] {
				last++
			} else {
				later++
			}
			for acts := range 8 {
				d.Power(acts)
				if s, err := store.Open(d, 64, 2); s == nil {
					must(t, what, err, api.ErrDead)
				} else {
					mustBegun(t, what, s, []moment{got})
				}
				d.Crash(keeping(kept))
			}
			s = open(t, d, 2)
			mustBegun(t, what, s, []moment{got})
			save(t, s, "z=z", 100)
			u := open(t, d, 2)
			mustBegun(t, what+", saved", u, []moment{{100, strings.TrimPrefix(got.keys+" z=z", " ")}})
		}
	}
	if whole == 0 || last == 0 || later == 0 {
		t.Errorf("to the end: %d times; opened the last one: %d times, a later one: %d times", whole, last, later)
	}
}

// P8.6: each file on its own may be kept or not: behind a crash at every act, all
// ways in which the files are whole, cut, or empty.
func TestCrashesFileByFile(t *testing.T) {
	for power := range 60 {
		d := disk.New()
		s := open(t, d, 2)
		d.Power(power)
		begun := story(t, s)
		n := len(d.Names())
		ways := 1
		for range min(n, 7) {
			ways *= 3
		}
		for way := range ways {
			keep := make([]int, n)
			for i, w := 0, way; i < n; i, w = i+1, w/3 {
				keep[i] = []int{0, 20, 1 << 20}[w%3]
			}
			c := d.Clone()
			c.Crash(keep)
			what := fmt.Sprintf("power %d, way %d", power, way)
			got := mustBegun(t, what, open(t, c, 2), begun)
			mustBegun(t, what+", opened again", open(t, c, 1), []moment{got})
		}
	}
}

// P8.6: a store that goes on behind a crash, not opened anew, and crashes again,
// is what a checkpoint that was begun holds.
func TestCrashesGoOn(t *testing.T) {
	for first := range 16 {
		for second := range 16 {
			for _, kept := range []int{0, 10, 1 << 20} {
				d := disk.New()
				s := open(t, d, 1)
				save(t, s, "a=1 b=1", 1)
				save(t, s, "-a c=2", 2)
				begun := []moment{{2, "b=1 c=2"}}
				for i, power := range []int{first, second} {
					apply(t, s, fmt.Sprintf("b=%d d%d=x", i+5, i))
					begun = append(begun, moment{uint64(i + 3), tellAll(s)})
					d.Power(power)
					err := s.Save(uint64(i + 3))
					if err == api.OK {
						begun = begun[len(begun)-1:]
					}
					d.Crash(keeping(kept))
				}
				what := fmt.Sprintf("power %d, then %d, kept %d", first, second, kept)
				mustBegun(t, what, open(t, d, 1), begun)
			}
		}
	}
}

// R4: the same calls answer the same, whatever other stores do.
func TestStoresApart(t *testing.T) {
	d, e := disk.New(), disk.New()
	s, u := open(t, d, 2), open(t, e, 2)
	for i := range uint64(5) {
		save(t, s, fmt.Sprintf("a=%d k%d=x", i, i), i)
		save(t, u, fmt.Sprintf("a=%d k%d=x", i, i), i)
		mustTell(t, "apart", u, tellAll(s))
	}
	save(t, s, "-a", 9)
	if v, has := u.Get("a"); v != "4" || !has {
		t.Errorf("another store's change: %q %t", v, has)
	}
	mustStand(t, "apart", u, 4, 3, 1)
}
