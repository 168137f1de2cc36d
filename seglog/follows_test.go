package seglog_test

import (
	"slices"
	"strconv"
	"strings"
	"testing"

	"wherry/api"
	"wherry/disk"
	"wherry/seglog"
)

// steps makes numbers that look like chance, the same ones for the same seed.
func steps(seed uint64) func(below int) int {
	return func(below int) int {
		seed = seed*6364136223846793005 + 1442695040888963407
		return int(seed >> 33 % uint64(below))
	}
}

// laidBatch is a batch of the plain log: its records, and its frame's bytes.
type laidBatch struct {
	records []string
	bytes   string
}

// laidSegment is one of the plain log's: how many of its bytes are safe.
type laidSegment struct {
	first   uint64
	batches []laidBatch
	safe    int
}

func (s *laidSegment) name() string {
	d := strconv.FormatUint(s.first, 10)
	for len(d) < 10 {
		d = "0" + d
	}
	return "log-" + d
}

func (s *laidSegment) bytes() string {
	all := ""
	for _, b := range s.batches {
		all += b.bytes
	}
	return all
}

func (s *laidSegment) next() uint64 {
	pos := s.first
	for _, b := range s.batches {
		pos += uint64(len(b.records))
	}
	return pos
}

// plain is what a log and its disk should be, each promise's words taken one by
// one.
type plain struct {
	size       int
	segs       []*laidSegment
	next, sure uint64
	acts       int // below 0: any number
	off        bool
}

func (p *plain) act() api.Errno {
	switch {
	case p.off:
		return api.ErrDead
	case p.acts == 0:
		p.off = true
		return api.ErrDead
	}
	if p.acts > 0 {
		p.acts--
	}
	return api.OK
}

func (p *plain) last() *laidSegment {
	if len(p.segs) == 0 {
		return nil
	}
	return p.segs[len(p.segs)-1]
}

func (p *plain) sync() api.Errno {
	err := p.act()
	if err == api.OK {
		p.last().safe = len(p.last().bytes())
		p.sure = p.next
	}
	return err
}

func (p *plain) add(records []string) (uint64, api.Errno) {
	if len(records) == 0 {
		return 0, api.ErrArg
	}
	first := p.next
	begin := p.last() == nil || len(p.last().bytes()) >= p.size
	if begin && p.last() != nil {
		if err := p.sync(); err != api.OK {
			return 0, err
		}
	}
	if err := p.act(); err != api.OK {
		return 0, err
	}
	if begin {
		p.segs = append(p.segs, &laidSegment{first: first})
	}
	p.last().batches = append(p.last().batches, laidBatch{records, batch(first, records...)})
	p.next += uint64(len(records))
	return first, api.OK
}

func (p *plain) flush() api.Errno {
	if p.sure == p.next {
		return api.OK
	}
	return p.sync()
}

func (p *plain) drop(below uint64) api.Errno {
	for len(p.segs) > 1 && p.segs[0].next() <= below {
		if err := p.act(); err != api.OK {
			return err
		}
		p.segs = p.segs[1:]
	}
	return api.OK
}

// crash keeps whole batches only: what Open leaves of the rest. It tells whether
// that ends within one.
func (p *plain) crash(keep []int) bool {
	torn := false
	for i, s := range p.segs {
		kept := s.safe
		if i < len(keep) {
			kept += max(keep[i], 0)
		}
		kept = min(kept, len(s.bytes()))
		n := 0
		for n < len(s.batches) && len(s.batches[n].bytes) <= kept {
			kept -= len(s.batches[n].bytes)
			n++
		}
		torn = kept > 0
		s.batches = s.batches[:n:n]
		s.safe = len(s.bytes())
	}
	p.off, p.acts, p.next = false, -1, 1
	if p.last() != nil {
		p.next = p.last().next()
	}
	p.sure = p.next
	return torn
}

// all are the records, with their positions.
func (p *plain) all() []one {
	var l []one
	for _, s := range p.segs {
		pos := s.first
		for _, b := range s.batches {
			for _, r := range b.records {
				l = append(l, one{pos, r})
				pos++
			}
		}
	}
	return l
}

// mustAgree holds a log and its disk to the plain ones.
func mustAgree(t *testing.T, what string, d *disk.Disk, l *seglog.Log, p *plain) {
	t.Helper()
	all := p.all()
	first := p.next
	if len(all) > 0 {
		first = all[0].pos
	}
	mustStand(t, what, l, first, p.next, p.sure)
	if got := told(l, 0); !slices.Equal(got, all) {
		t.Fatalf("%s: %d records, want other %d", what, len(got), len(all))
	}
	var names []string
	for _, s := range p.segs {
		names = append(names, s.name())
		if !p.off {
			mustBe(t, what, d, s.name(), s.bytes())
		}
	}
	mustHave(t, what, d, strings.Join(names, " "))
	if d.Off() != p.off {
		t.Fatalf("%s: off: %t", what, d.Off())
	}
}

// P6.1 to P6.6: a log, and the files of its disk, are what the words come to,
// call by call, whatever the calls, the power and the crashes are.
func TestAsTold(t *testing.T) {
	for seed := range uint64(300) {
		next := steps(seed)
		size := 64 + next(3)*next(150)
		d := disk.New()
		p := &plain{size: size, next: 1, sure: 1, acts: -1}
		l := open(t, d, size)
		for i := range 60 {
			what := "seed " + strconv.FormatUint(seed, 10) + ", call " + strconv.Itoa(i)
			switch n := next(20); {
			case n < 10:
				records := texts(next(5), next(60))
				pos, err := l.Append(records)
				want, wrong := p.add(records)
				if pos != want || err != wrong {
					t.Fatalf("%s: Append: %d %d, want %d %d", what, pos, err, want, wrong)
				}
			case n < 13:
				must(t, what+": Flush", l.Flush(), p.flush())
			case n < 15:
				below := uint64(next(int(p.next) + 3))
				must(t, what+": Drop", l.Drop(below), p.drop(below))
			case n < 16 && !p.off:
				p.acts = next(6)
				d.Power(p.acts)
			case n < 18:
				l = crashed(t, what, d, p, next)
			default:
				mustFind(t, what, l, p, uint64(next(int(p.next)+3)))
			}
			mustAgree(t, what, d, l, p)
		}
	}
}

// crashed is the log that is there behind a crash of some kept bytes, opened
// at first with too little power.
func crashed(t *testing.T, what string, d *disk.Disk, p *plain, next func(int) int) *seglog.Log {
	t.Helper()
	keep := make([]int, next(4))
	for i := range keep {
		keep[i] = next(200) - 20
	}
	d.Crash(keep)
	torn := p.crash(keep)
	if p.last() != nil && next(2) == 0 {
		acts := 0
		if torn {
			acts = next(2)
		}
		d.Power(acts)
		mustNotOpen(t, what, d, "log", p.size, api.ErrDead)
		d.Crash(nil)
	}
	return open(t, d, p.size)
}

// mustFind holds Read and From of a position to the plain log.
func mustFind(t *testing.T, what string, l *seglog.Log, p *plain, pos uint64) {
	t.Helper()
	all := p.all()
	i := slices.IndexFunc(all, func(x one) bool { return x.pos >= pos })
	if i < 0 {
		i = len(all)
	}
	if got := told(l, pos); !slices.Equal(got, all[i:]) {
		t.Errorf("%s: From(%d): %v", what, pos, got)
	}
	want, wrong := "", api.ErrNone
	if i < len(all) && all[i].pos == pos {
		want, wrong = all[i].record, api.OK
	}
	if s, err := l.Read(pos); s != want || err != wrong {
		t.Errorf("%s: Read(%d): %q %d", what, pos, s, err)
	}
}

// story is a run of batches, flushes and drops till the disk refuses: it tells
// which batches were answered OK, up to where all was sure, and where the log
// began then.
func story(l *seglog.Log) (done [][]string, sure, dropped uint64) {
	for i := range 12 {
		var records []string
		for n := range i%3 + 1 {
			records = append(records, strings.Repeat(strconv.Itoa(i), 10+7*n))
		}
		if _, err := l.Append(records); err != api.OK {
			break
		}
		done = append(done, records)
		if i%4 == 3 && l.Flush() != api.OK {
			break
		}
		if i%5 == 4 && l.Drop(l.Sure()-1) != api.OK {
			break
		}
	}
	return done, l.Sure(), l.First()
}

// mustLast holds a log that was opened behind a crash to P6.6: all that was sure
// and wasn't dropped, whole batches behind it, nothing else.
func mustLast(t *testing.T, what string, l *seglog.Log, done [][]string, sure, dropped uint64) {
	t.Helper()
	ends := []uint64{1}
	for _, records := range done {
		ends = append(ends, ends[len(ends)-1]+uint64(len(records)))
	}
	if !slices.Contains(ends, l.Next()) {
		t.Errorf("%s: it ends within a batch, at %d", what, l.Next())
	}
	if l.Next() < sure || l.Sure() != l.Next() {
		t.Errorf("%s: up to %d, sure up to %d; was so up to %d", what, l.Next(), l.Sure(), sure)
	}
	if l.First() != dropped {
		t.Errorf("%s: from %d on, not %d", what, l.First(), dropped)
	}
	all := slices.Concat(done...)
	mustTell(t, what, l, dropped, all[dropped-1:l.Next()-1]...)
}

// P6.6: a crash at every act, of which nothing is kept, all, and each part; and
// one more behind it, cut off at every act of Open.
func TestCrashes(t *testing.T) {
	whole := 0
	for power := range 60 {
		for kept := -1; kept < 130; kept += 3 {
			d := disk.New()
			l := open(t, d, 64)
			d.Power(power)
			done, sure, dropped := story(l)
			if !d.Off() {
				whole++
			}
			keep := []int{kept, kept, kept, kept}
			if kept > 120 {
				keep = []int{1 << 20, 1 << 20, 1 << 20, 1 << 20}
			}
			d.Crash(keep)
			what := "power " + strconv.Itoa(power) + ", kept " + strconv.Itoa(kept)
			for acts := range 3 {
				d.Power(acts)
				if l, err := seglog.Open(d, "log", 64); l == nil {
					must(t, what, err, api.ErrDead)
				} else {
					mustLast(t, what, l, done, sure, dropped)
				}
				d.Crash([]int{kept})
			}
			l = open(t, d, 64)
			mustLast(t, what, l, done, sure, dropped)
			put(t, l, l.Next(), "behind", "the crash")
		}
	}
	if whole == 0 {
		t.Error("no run came to its end")
	}
}

// P6.6: where a crash keeps all, all that was answered OK is there.
func TestCrashKeepsAll(t *testing.T) {
	for power := range 60 {
		d := disk.New()
		l := open(t, d, 64)
		d.Power(power)
		done, _, dropped := story(l)
		d.Crash([]int{1 << 20, 1 << 20, 1 << 20, 1 << 20})
		l = open(t, d, 64)
		mustTell(t, "power "+strconv.Itoa(power), l, dropped, slices.Concat(done...)[dropped-1:]...)
	}
}
