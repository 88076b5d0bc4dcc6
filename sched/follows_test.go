package sched

import (
	"testing"

	"donjon/api"
)

// 21.3

// entryBehind is the entry in whose ticks so many lie, modulo all of the
// schedule, and how many of its ticks are left; reckoned anew each time.
func entryBehind(times []Time, ticks int) (int, int) {
	all := 0
	for _, t := range times {
		all += t.Ticks
	}
	at := ticks % all
	for entry, t := range times {
		if at < t.Ticks {
			return entry, t.Ticks - at
		}
		at -= t.Ticks
	}
	return -1, -1
}

// ledger asks what follows of a Sched's answers alone: whose domain is which,
// as Put and Drop told.
type ledger struct {
	t     *testing.T
	times []Time
	s     *Sched
	ticks int
	in    map[int]int
	seen  counts
}

// counts are of what happened, so that a test may see that it saw enough.
type counts struct{ put, dropped, yielded, refused, picked, nobody int }

func newLedger(t *testing.T, times []Time) *ledger {
	return &ledger{t: t, times: times, s: made(t, times), in: map[int]int{}}
}

// look is for behind each call.
func (l *ledger) look() {
	l.t.Helper()
	entry, left := entryBehind(l.times, l.ticks)
	if e, n := l.s.Now(); e != entry || n != left {
		l.t.Fatalf("%v: at %d, %d left, behind %d ticks; not %d, %d", l.times, e, n, l.ticks, entry, left)
	}
	domain := l.s.Domain()
	if domain != l.times[entry].Domain {
		l.t.Fatalf("%v: domain %d behind %d ticks", l.times, domain, l.ticks)
	}
	id, ok := l.s.Pick()
	if ok {
		if in, is := l.in[id]; !is || in != domain {
			l.t.Fatalf("%d is picked, and is of the domain %d, %v; %d runs", id, in, is, domain)
		}
		l.seen.picked++
		return
	}
	for id, in := range l.in {
		if in == domain {
			l.t.Fatalf("nobody is picked, and %d is ready in the domain %d", id, in)
		}
	}
	l.seen.nobody++
}

// call is one that n draws, but a Tick.
func (l *ledger) call(n *numbers) {
	l.t.Helper()
	id, domain := n.below(68)-2, n.below(6)-1
	if n.below(3) == 0 {
		id, _ = l.s.Pick()
	}
	switch n.below(5) {
	case 0, 1:
		if l.s.Put(id, domain, n.below(10)-1) == api.OK {
			l.in[id] = domain
			l.seen.put++
		} else {
			l.seen.refused++
		}
	case 2:
		if l.s.Drop(id) {
			delete(l.in, id)
			l.seen.dropped++
		} else {
			l.seen.refused++
		}
	default:
		if l.s.Yield(id) {
			l.seen.yielded++
		}
	}
	l.look()
}

func (l *ledger) tick() bool {
	l.t.Helper()
	begins := l.s.Tick()
	l.ticks++
	l.look()
	return begins
}

func (c *counts) add(o counts) {
	c.put += o.put
	c.dropped += o.dropped
	c.yielded += o.yielded
	c.refused += o.refused
	c.picked += o.picked
	c.nobody += o.nobody
}

// Beside each schedule with threads stands the same one without any, which
// must go on just the same.
func TestTheEntryHangsOnTicksAlone(t *testing.T) {
	all := counts{}
	for seed := range uint64(200) {
		n := &numbers{last: seed}
		times := n.times(16, []int{1, 2, 5, 40}[seed%4])
		l, alone := newLedger(t, times), made(t, times)
		busy := 1 + n.below(5)
		for range 500 {
			for n.below(busy) > 0 {
				l.call(n)
			}
			if a, b := l.tick(), alone.Tick(); a != b {
				t.Fatalf("%v: Tick %v, and %v where nobody is", times, a, b)
			}
			e, left := l.s.Now()
			wantNow(t, alone, e, left, l.s.Domain())
		}
		all.add(l.seen)
	}
	for _, many := range []int{all.put, all.dropped, all.yielded, all.refused, all.picked, all.nobody} {
		if many < 10000 {
			t.Errorf("too few of something: %+v", all)
		}
	}
}

func TestTheEntryOfLongSchedules(t *testing.T) {
	for seed := range uint64(12) {
		n := &numbers{last: seed}
		times := n.times(16, 1000)
		if seed%2 == 0 {
			times = []Time{{0, 1000}, {3, 1000 - n.below(3)}, {1, 1 + n.below(3)}, {3, 1000}}
		}
		l := newLedger(t, times)
		for range 20000 {
			if n.below(40) == 0 {
				l.call(n)
			}
			l.tick()
		}
		if l.seen.picked < 1000 {
			t.Errorf("%+v", l.seen)
		}
	}
}

// Two whose threads come and go by other calls go on by ticks just the same,
// each beside the other.
func TestNoCallsTellNoTicks(t *testing.T) {
	times := []Time{{1, 2}, {1, 1}, {3, 3}, {0, 1}}
	a, b := newLedger(t, times), newLedger(t, times)
	n, m := &numbers{last: 71}, &numbers{last: 72}
	for range 3000 {
		for n.below(3) > 0 {
			a.call(n)
		}
		for m.below(5) > 0 {
			b.call(m)
		}
		if a.tick() != b.tick() {
			t.Fatal("Tick tells of the calls between")
		}
	}
}

// Whoever else is in other domains: in a domain the same ones are picked.
func TestWhoIsPickedHangsOnItsDomainAlone(t *testing.T) {
	for seed := range uint64(40) {
		n := &numbers{last: seed}
		times := n.times(9, 3)
		mine := times[0].Domain
		both, alone := made(t, times), made(t, times)
		for range 400 {
			id, level := n.below(32), n.below(8)
			switch n.below(4) {
			case 0:
				both.Put(id, mine, level)
				alone.Put(id, mine, level)
			case 1:
				both.Drop(id)
				alone.Drop(id)
			case 2:
				both.Yield(id)
				alone.Yield(id)
			default:
				both.Tick()
				alone.Tick()
			}
			both.Put(32+n.below(32), (mine+1+n.below(3))%4, n.below(8))
			both.Drop(32 + n.below(32))
			both.Yield(32 + n.below(32))
			if both.Domain() != mine {
				continue
			}
			a, aOK := both.Pick()
			b, bOK := alone.Pick()
			if a != b || aOK != bOK {
				t.Fatalf("%d, %v is picked, and %d, %v where no other domain has threads", a, aOK, b, bOK)
			}
		}
	}
}
