package irq

import (
	"testing"

	"donjon/api"
)

// 22.3

// ledger asks what follows of an Irq's answers alone: which lines were raised
// and not taken since, and which were taken and not acked since.
type ledger struct {
	t         *testing.T
	q         *Irq
	owed, out [8]bool
	seen      counts
}

// counts are of what happened, so that a test may see that it saw enough.
type counts struct{ owned, raised, again, taken, none, acked, refused int }

func (c *counts) add(o counts) {
	c.owned += o.owned
	c.raised += o.raised
	c.again += o.again
	c.taken += o.taken
	c.none += o.none
	c.acked += o.acked
	c.refused += o.refused
}

func (c counts) least() int {
	return min(c.owned, c.raised, c.again, c.taken, c.none, c.acked, c.refused)
}

func newLedger(t *testing.T) *ledger { return &ledger{t: t, q: made(t)} }

// look is for behind each call: just those that are owed are pending.
func (l *ledger) look() {
	l.t.Helper()
	if w := l.q.Pending(); w != word(func(n int) bool { return l.owed[n] }) {
		l.t.Fatalf("pending %#x, and raised and not taken are %v", w, l.owed)
	}
}

func (l *ledger) own(n, domain int) {
	l.t.Helper()
	if l.q.Own(n, domain) == api.OK {
		l.seen.owned++
	} else {
		l.seen.refused++
	}
	l.look()
}

func (l *ledger) raise(n int) {
	l.t.Helper()
	if l.q.Raise(n) == api.OK {
		if l.owed[n] {
			l.seen.again++
		}
		l.owed[n] = true
		l.seen.raised++
	} else {
		l.seen.refused++
	}
	l.look()
}

func (l *ledger) next(domain int) bool {
	l.t.Helper()
	n, ok := l.q.Next(domain)
	if !ok {
		l.seen.none++
		l.look()
		return false
	}
	if owner, is := l.q.Owner(n); !is || owner != domain {
		l.t.Fatalf("Next(%d): %d, which %d owns, %v", domain, n, owner, is)
	}
	if !l.owed[n] {
		l.t.Fatalf("Next(%d): %d was not raised since it was taken", domain, n)
	}
	if l.out[n] {
		l.t.Fatalf("Next(%d): %d was taken, and not acked since", domain, n)
	}
	l.owed[n], l.out[n] = false, true
	l.seen.taken++
	l.look()
	return true
}

func (l *ledger) ack(n int) {
	l.t.Helper()
	if l.q.Ack(n) == api.OK {
		if !l.out[n] {
			l.t.Fatalf("Ack(%d): OK, and it was not taken since", n)
		}
		l.out[n] = false
		l.seen.acked++
	} else {
		l.seen.refused++
	}
	l.look()
}

// settle owns, acks and takes all; nothing is owed then.
func (l *ledger) settle() {
	l.t.Helper()
	for n := range 8 {
		l.own(n, n%4)
	}
	for n := range 8 {
		l.ack(n)
	}
	for domain := range 4 {
		for l.next(domain) {
		}
	}
	if l.owed != [8]bool{} {
		l.t.Fatalf("%v are owed still", l.owed)
	}
}

// drawn is a call; its numbers are out of range at times.
func (l *ledger) drawn(n *numbers, owns int) {
	l.t.Helper()
	line, domain := n.below(10)-1, n.below(6)-1
	switch k := n.below(40); {
	case k < owns:
		l.own(line, domain)
	case k < 18:
		l.raise(line)
	case k < 28:
		l.next(domain)
	default:
		l.ack(line)
	}
}

func TestNoInterruptIsLostWhateverIsCalled(t *testing.T) {
	all := counts{}
	for seed := range uint64(300) {
		n := &numbers{last: seed}
		l := newLedger(t)
		l.look()
		owns := 1 + n.below(6)
		for range 300 {
			l.drawn(n, owns)
		}
		l.settle()
		all.add(l.seen)
	}
	if all.least() < 2000 {
		t.Errorf("too few of something: %+v", all)
	}
}

// Each row of calls of two lines, of one domain or of two.
func TestNoInterruptIsLostInShortRows(t *testing.T) {
	for _, domains := range [][2]int{{0, 0}, {3, 0}} {
		calls := []func(l *ledger){
			func(l *ledger) { l.own(1, domains[0]) },
			func(l *ledger) { l.own(6, domains[1]) },
			func(l *ledger) { l.raise(1) },
			func(l *ledger) { l.raise(6) },
			func(l *ledger) { l.next(0) },
			func(l *ledger) { l.next(3) },
			func(l *ledger) { l.ack(1) },
			func(l *ledger) { l.ack(6) },
		}
		eachRow(len(calls), 5, func(row []int) {
			l := newLedger(t)
			for _, c := range row {
				calls[c](l)
			}
			l.settle()
		})
	}
}

// However often it is raised meanwhile: the one is taken once an Ack.
func TestATakenLineIsNotTakenAheadOfItsAck(t *testing.T) {
	for n := range 8 {
		for domain := range 4 {
			l := newLedger(t)
			l.own(n, domain)
			for turn := range 4 {
				l.raise(n)
				if !l.next(domain) {
					t.Fatalf("%d is raised, and not taken", n)
				}
				for other := range 8 {
					l.raise(other)
					l.own(other, domain)
					for l.next(domain) {
					}
				}
				if l.out[n] != true || l.owed[n] != true {
					t.Fatalf("turn %d: %d is taken ahead of its Ack", turn, n)
				}
				for other := range 8 {
					l.ack(other)
				}
				for l.next(domain) {
				}
				l.ack(n)
			}
			l.settle()
		}
	}
}

// A line that its domain doesn't ask for waits, however long.
func TestARaisedLineWaitsForItsDomain(t *testing.T) {
	for n := range 8 {
		for domain := range 4 {
			l := newLedger(t)
			l.own(n, domain)
			for other := range 8 {
				l.own(other, (domain+1+other%3)%4)
			}
			l.raise(n)
			draw := &numbers{last: uint64(n)}
			for range 300 {
				other := (n + 1 + draw.below(7)) % 8
				l.raise(other)
				l.next((domain + 1 + draw.below(3)) % 4)
				l.ack(draw.below(8))
				l.own(draw.below(8), draw.below(4))
			}
			if !l.owed[n] || l.out[n] {
				t.Fatalf("%d was raised, and is not pending", n)
			}
			if !l.next(domain) || l.owed[n] {
				t.Fatalf("%d was raised, and is not taken", n)
			}
		}
	}
}

// What is refused takes no interrupt away, and makes none.
func TestRefusedCallsLoseNothing(t *testing.T) {
	for set := range 256 {
		l := newLedger(t)
		for n := range 8 {
			l.own(n, n%4)
			if set>>n%2 == 1 {
				l.raise(n)
			}
		}
		was := l.seen
		for _, n := range noLines() {
			l.raise(n)
			l.ack(n)
			l.own(n, 0)
		}
		for _, domain := range noDomains() {
			l.next(domain)
			l.own(set%8, domain)
		}
		for n := range 8 {
			l.ack(n) // none of them is masked
			l.own(n, n/2)
		}
		if l.seen.raised != was.raised || l.seen.taken != was.taken || l.seen.acked != was.acked || l.seen.owned != was.owned {
			t.Fatalf("%+v, and was %+v", l.seen, was)
		}
		if w := l.q.Masked(); w != 0 {
			t.Fatalf("%#x are masked", w)
		}
		l.settle()
	}
}

// side is one domain with its lines, in several runs: in each of them it makes
// the same calls, and is answered the same, whatever others do there.
type side struct {
	t      *testing.T
	domain int
	lines  []int
	theirs []int // the other lines, and such as are none
	runs   []*Irq
}

// newSide is with the lines whose bits in a word are 1.
func newSide(t *testing.T, domain int, set uint64, runs int) *side {
	s := &side{t: t, domain: domain, theirs: []int{-1, 8}}
	for n := range 8 {
		if set>>n%2 == 1 {
			s.lines = append(s.lines, n)
		} else {
			s.theirs = append(s.theirs, n)
		}
	}
	for range runs {
		s.runs = append(s.runs, made(t))
	}
	return s
}

// answer is of any call.
type answer struct {
	n   int
	ok  bool
	err api.Errno
}

// calls makes the same call in each run.
func (s *side) calls(draw *numbers) {
	s.t.Helper()
	n, kind := s.lines[draw.below(len(s.lines))], draw.below(8)
	answers := []answer{}
	for _, q := range s.runs {
		a := answer{}
		switch kind {
		case 0:
			a.err = q.Own(n, s.domain)
		case 1, 2, 3:
			a.err = q.Raise(n)
		case 4, 5:
			a.n, a.ok = q.Next(s.domain)
		default:
			a.err = q.Ack(n)
		}
		answers = append(answers, a)
	}
	for _, a := range answers {
		if a != answers[0] {
			s.t.Fatalf("domain %d, line %d, call %d: %+v", s.domain, n, kind, answers)
		}
	}
	s.same()
}

// same holds what is told of the lines in each run against the first one.
func (s *side) same() {
	s.t.Helper()
	first := s.runs[0]
	for _, q := range s.runs {
		for _, n := range s.lines {
			if (q.Pending()^first.Pending())>>n%2 == 1 || (q.Masked()^first.Masked())>>n%2 == 1 {
				s.t.Fatalf("line %d: pending %#x and %#x, masked %#x and %#x", n, q.Pending(), first.Pending(), q.Masked(), first.Masked())
			}
			d, ok := q.Owner(n)
			if e, is := first.Owner(n); d != e || ok != is {
				s.t.Fatalf("Owner(%d): %d, %v, and %d, %v", n, d, ok, e, is)
			}
		}
	}
}

// others is a call, in one run, of another domain, or of another line.
func (s *side) others(q *Irq, draw *numbers) {
	s.t.Helper()
	n, domain := s.theirs[draw.below(len(s.theirs))], (s.domain+1+draw.below(3))%4
	switch draw.below(7) {
	case 0, 1:
		q.Own(n, domain)
	case 2, 3:
		q.Raise(n)
	case 4, 5:
		q.Next(domain)
	default:
		q.Ack(n)
	}
	s.same()
}

// Runs that differ in other domains' lines alone take the same: in the first
// one nothing is done by others, in the two others of them each its own.
func TestLinesOfOneDomainChangeNothingOfOthers(t *testing.T) {
	for set := uint64(1); set < 256; set++ {
		for domain := range 4 {
			s, draw := newSide(t, domain, set, 3), &numbers{last: set}
			for range 60 {
				for _, q := range s.runs[1:] {
					for draw.below(3) > 0 {
						s.others(q, draw)
					}
				}
				s.calls(draw)
			}
		}
	}
}
