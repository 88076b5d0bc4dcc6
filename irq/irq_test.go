package irq

import (
	"testing"

	"donjon/api"
)

// 22.1: New

func TestNewIsMaskedAndNobodys(t *testing.T) {
	q := made(t)
	wantWords(t, q, 0, 255)
	for n := range 8 {
		wantOwner(t, q, n, 0, false)
	}
	for domain := -1; domain <= 4; domain++ {
		wantNone(t, q, domain)
	}
	for n := range 8 {
		wantAck(t, q, n, api.ErrState)
	}
	wantWords(t, q, 0, 255)
}

func TestIrqsShareNothing(t *testing.T) {
	a, b := newHeld(t), newHeld(t)
	n := &numbers{last: 4}
	for range 500 {
		for _, h := range []*held{a, b} {
			h.drawn(n)
			a.same()
			b.same()
		}
	}
	a.emptied()
	b.emptied()
	wantWords(t, made(t), 0, 255)
}

func TestTheChaptersExample(t *testing.T) {
	q := made(t)
	wantOwn(t, q, 3, 1, api.OK)
	wantRaise(t, q, 3, api.OK)
	wantRaise(t, q, 3, api.OK)
	wantRaise(t, q, 5, api.OK)
	wantWords(t, q, 40, 247)
	wantNext(t, q, 1, 3)
	wantWords(t, q, 32, 255)
	wantRaise(t, q, 3, api.OK)
	wantNone(t, q, 1)
	wantWords(t, q, 40, 255)
	wantAck(t, q, 3, api.OK)
	wantWords(t, q, 40, 247)
	wantNext(t, q, 1, 3)
	wantWords(t, q, 32, 255)
}

// 22.1: Own

func TestOwnOfEachLineByEachDomain(t *testing.T) {
	for n := range 8 {
		for domain := range 4 {
			q := made(t)
			wantOwn(t, q, n, domain, api.OK)
			wantWords(t, q, 0, 255-1<<n)
			for other := range 8 {
				if other == n {
					wantOwner(t, q, other, domain, true)
				} else {
					wantOwner(t, q, other, 0, false)
				}
			}
			wantNone(t, q, domain) // nobody raised it
			wantRaise(t, q, n, api.OK)
			for other := range 4 {
				if other != domain {
					wantNone(t, q, other)
				}
			}
			wantNext(t, q, domain, n)
		}
	}
}

// Who owns it already gets it as little as another one.
func TestOwnOfOneThatHasAnOwnerIsErrTwice(t *testing.T) {
	for n := range 8 {
		for domain := range 4 {
			for other := range 4 {
				h := newHeld(t)
				h.own(n, domain)
				wantOwn(t, h.q, n, other, api.ErrTwice)
				h.same()
				h.raise(n)
				wantOwn(t, h.q, n, other, api.ErrTwice)
				h.same()
				h.next(domain)
				wantOwn(t, h.q, n, other, api.ErrTwice)
				h.is(0, 255) // it is masked still
				h.raise(n)
				wantOwn(t, h.q, n, other, api.ErrTwice)
				h.is(1<<n, 255)
				h.ack(n)
				wantOwn(t, h.q, n, other, api.ErrTwice)
				wantOwner(t, h.q, n, domain, true)
				h.emptied()
			}
		}
	}
}

func TestOwnOutOfRangeIsErrRange(t *testing.T) {
	h := newHeld(t)
	for _, n := range noLines() {
		for domain := range 4 {
			wantOwn(t, h.q, n, domain, api.ErrRange)
		}
		for _, domain := range noDomains() {
			wantOwn(t, h.q, n, domain, api.ErrRange)
		}
		h.same()
	}
	for n := range 8 {
		for _, domain := range noDomains() {
			wantOwn(t, h.q, n, domain, api.ErrRange)
		}
		h.is(0, 255)
	}
	h.emptied()
}

// ErrRange is named ahead of ErrTwice.
func TestOwnOutOfRangeOfOneThatHasAnOwner(t *testing.T) {
	for n := range 8 {
		for owner := range 4 {
			h := newHeld(t)
			h.own(n, owner)
			for _, domain := range noDomains() {
				wantOwn(t, h.q, n, domain, api.ErrRange)
			}
			wantOwner(t, h.q, n, owner, true)
			h.same()
		}
	}
}

func TestOneDomainOwnsAllLines(t *testing.T) {
	for domain := range 4 {
		n := &numbers{last: uint64(domain)}
		h := newHeld(t)
		for k, line := range n.shuffled() {
			h.own(line, domain)
			if k == 7 {
				h.is(0, 0)
			}
		}
		h.emptied()
	}
}

// What was raised ahead of its owner is there for the owner.
func TestRaisedAheadOfItsOwner(t *testing.T) {
	for n := range 8 {
		for domain := range 4 {
			for many := 1; many <= 3; many++ {
				q := made(t)
				for range many {
					wantRaise(t, q, n, api.OK)
				}
				wantWords(t, q, 1<<n, 255)
				for d := range 4 {
					wantNone(t, q, d)
				}
				wantOwn(t, q, n, domain, api.OK)
				wantWords(t, q, 1<<n, 255-1<<n)
				wantNext(t, q, domain, n)
				wantWords(t, q, 0, 255)
				wantAck(t, q, n, api.OK)
				wantNone(t, q, domain) // however often it was raised
			}
		}
	}
}

// 22.1: Raise

func TestRaisedOnceMoreIsPendingOnce(t *testing.T) {
	for n := range 8 {
		for _, many := range []int{1, 2, 3, 8, 1000} {
			q := made(t)
			wantOwn(t, q, n, 2, api.OK)
			for range many {
				wantRaise(t, q, n, api.OK)
				wantWords(t, q, 1<<n, 255-1<<n)
			}
			wantNext(t, q, 2, n)
			wantNone(t, q, 2)
			wantAck(t, q, n, api.OK)
			wantNone(t, q, 2)
			wantWords(t, q, 0, 255-1<<n)
		}
	}
}

// While it is masked, too, it is pending, and once.
func TestRaisedWhileItIsMasked(t *testing.T) {
	for n := range 8 {
		for _, many := range []int{1, 2, 9} {
			q := made(t)
			wantOwn(t, q, n, 0, api.OK)
			wantRaise(t, q, n, api.OK)
			wantNext(t, q, 0, n)
			for range many {
				wantRaise(t, q, n, api.OK)
				wantWords(t, q, 1<<n, 255)
				wantNone(t, q, 0)
			}
			wantAck(t, q, n, api.OK)
			wantWords(t, q, 1<<n, 255-1<<n)
			wantNext(t, q, 0, n)
			wantAck(t, q, n, api.OK)
			wantNone(t, q, 0)
		}
	}
}

func TestRaiseOutOfRangeIsErrRange(t *testing.T) {
	h := brought(t, mixed())
	for _, n := range noLines() {
		wantRaise(t, h.q, n, api.ErrRange)
		h.same()
	}
	h.emptied()
}

// 22.1: Next

// Each set of lines that are pending, of each domain, is taken with the least
// number first, in whichever order they were raised.
func TestNextIsTheLeast(t *testing.T) {
	for domain := range 4 {
		for set := range uint64(256) {
			n := &numbers{last: set}
			q := made(t)
			for _, line := range n.shuffled() {
				wantOwn(t, q, line, domain, api.OK)
			}
			for _, line := range n.shuffled() {
				if set>>line%2 == 1 {
					wantRaise(t, q, line, api.OK)
				}
			}
			left, masked := set, uint64(0)
			for line := range 8 {
				if set>>line%2 == 0 {
					continue
				}
				wantWords(t, q, left, masked)
				wantNext(t, q, domain, line)
				left -= 1 << line
				masked += 1 << line
			}
			wantNone(t, q, domain)
			wantWords(t, q, 0, set)
		}
	}
}

// Each way to give eight lines to four domains, all of them pending: each
// domain takes its own, and no other one.
func TestNextIsOfItsDomain(t *testing.T) {
	eachRow(4, 8, func(owners []int) {
		q := made(t)
		for n, domain := range owners {
			q.Own(n, domain)
			q.Raise(n)
		}
		left, masked := uint64(255), uint64(0)
		for _, domain := range []int{2, 0, 3, 1} {
			for n, owner := range owners {
				if owner == domain {
					wantNext(t, q, domain, n)
					left -= 1 << n
					masked += 1 << n
				}
			}
			wantNone(t, q, domain)
			wantWords(t, q, left, masked)
		}
	})
}

// A line that was taken is passed over, also if it is pending again; one that
// is raised meanwhile, and has a lesser number, comes first.
func TestNextPassesOverMaskedLines(t *testing.T) {
	q := made(t)
	for n := range 8 {
		wantOwn(t, q, n, 3, api.OK)
	}
	for n := range 8 {
		wantRaise(t, q, n, api.OK)
		wantNext(t, q, 3, n)
		wantRaise(t, q, n, api.OK)
		wantNone(t, q, 3)
	}
	wantWords(t, q, 255, 255)
	for _, n := range []int{7, 3, 5, 0} {
		wantAck(t, q, n, api.OK)
	}
	wantNext(t, q, 3, 0)
	wantNext(t, q, 3, 3)
	wantAck(t, q, 1, api.OK)
	wantNext(t, q, 3, 1)
	wantNext(t, q, 3, 5)
	wantNext(t, q, 3, 7)
	wantNone(t, q, 3)
	wantWords(t, q, 1<<2+1<<4+1<<6, 255)
}

func TestNextWhereNothingIsPending(t *testing.T) {
	for n := range 8 {
		h := newHeld(t)
		h.own(n, 1)
		for domain := range 4 {
			wantNone(t, h.q, domain)
		}
		h.is(0, 255-1<<n)
	}
}

func TestNextWhereAllIsMasked(t *testing.T) {
	h := newHeld(t)
	for n := range 8 {
		h.own(n, n/2)
		h.raise(n)
		h.next(n / 2)
		h.raise(n)
	}
	for domain := range 4 {
		wantNone(t, h.q, domain)
		h.is(255, 255)
	}
	h.emptied()
}

func TestNextWhereOnlyOthersLinesArePending(t *testing.T) {
	for domain := range 4 {
		for n := range 8 {
			h := newHeld(t)
			for line := range 8 {
				owner := (domain + 1 + line%3) % 4
				if line == n {
					owner = domain
				}
				h.own(line, owner)
				if line != n {
					h.raise(line)
				}
			}
			wantNone(t, h.q, domain)
			h.is(255-1<<n, 0)
			h.raise(n)
			h.next(domain)
			wantNone(t, h.q, domain)
			h.is(255-1<<n, 1<<n)
			h.emptied()
		}
	}
}

// Nobody's lines are nobody's, also for a domain that is none.
func TestNextWhereNobodyOwnsThem(t *testing.T) {
	h := newHeld(t)
	for n := range 8 {
		h.raise(n)
	}
	for _, domain := range append(noDomains(), 0, 1, 2, 3) {
		wantNone(t, h.q, domain)
	}
	h.is(255, 255)
	h.emptied()
}

func TestNextOfNoDomain(t *testing.T) {
	for _, states := range [][8]state{mixed(), open()} {
		h := brought(t, states)
		for _, domain := range noDomains() {
			wantNone(t, h.q, domain)
			h.same()
		}
		h.emptied()
	}
}

// 22.1: Ack

func TestAckOfEachLine(t *testing.T) {
	for n := range 8 {
		h := newHeld(t)
		for line := range 8 {
			h.own(line, 2)
			h.raise(line)
		}
		for range 8 {
			h.next(2)
		}
		h.is(0, 255)
		wantAck(t, h.q, n, api.OK)
		h.want.ack(n)
		h.is(0, 255-1<<n)
		wantAck(t, h.q, n, api.ErrState)
		h.is(0, 255-1<<n)
		h.emptied()
	}
}

// It is not masked behind an Ack, and pending neither, unless it is raised.
func TestAckRaisesNothing(t *testing.T) {
	for n := range 8 {
		q := made(t)
		wantOwn(t, q, n, 1, api.OK)
		for range 3 {
			wantRaise(t, q, n, api.OK)
			wantNext(t, q, 1, n)
			wantAck(t, q, n, api.OK)
			wantWords(t, q, 0, 255-1<<n)
			wantNone(t, q, 1)
		}
	}
}

func TestAckOfOneThatIsNotMaskedIsErrState(t *testing.T) {
	for n := range 8 {
		for domain := range 4 {
			h := newHeld(t)
			h.own(n, domain)
			wantAck(t, h.q, n, api.ErrState)
			h.is(0, 255-1<<n)
			h.raise(n)
			wantAck(t, h.q, n, api.ErrState)
			h.is(1<<n, 255-1<<n)
			h.next(domain)
			h.ack(n)
			wantAck(t, h.q, n, api.ErrState)
			h.is(0, 255-1<<n)
			h.emptied()
		}
	}
}

// It is masked, but has no owner: that alone is enough.
func TestAckOfOneWithoutOwnerIsErrState(t *testing.T) {
	for n := range 8 {
		h := newHeld(t)
		wantAck(t, h.q, n, api.ErrState)
		h.is(0, 255)
		h.raise(n)
		wantAck(t, h.q, n, api.ErrState)
		h.is(1<<n, 255)
		for other := range 8 {
			if other != n {
				h.own(other, other%4)
			}
		}
		wantAck(t, h.q, n, api.ErrState)
		h.is(1<<n, 1<<n)
		h.emptied()
	}
}

func TestAckOutOfRangeIsErrRange(t *testing.T) {
	for _, states := range [][8]state{mixed(), open(), {}} {
		h := brought(t, states)
		for _, n := range noLines() {
			wantAck(t, h.q, n, api.ErrRange)
			h.same()
		}
		h.emptied()
	}
}

// 22.1 and 22.2: all calls together

// Each call behind each two states of two lines; what the others are at is
// drawn.
func TestEachCallInEachTwoStates(t *testing.T) {
	n := &numbers{last: 22}
	for _, two := range [][2]int{{0, 7}, {0, 1}, {6, 7}, {3, 5}} {
		eachState(func(a state) {
			eachState(func(b state) {
				states := [8]state{}
				for line := range states {
					states[line] = n.state()
				}
				states[two[0]], states[two[1]] = a, b
				eachCall(func(do func(h *held)) { do(brought(t, states)) })
			})
		})
	}
}

// Each call, and then all that is kept.
func TestEachCallInEachStateAndWhatIsKept(t *testing.T) {
	n := &numbers{last: 23}
	for line := range 8 {
		eachState(func(s state) {
			states := [8]state{}
			for k := range states {
				states[k] = n.state()
			}
			states[line] = s
			eachCall(func(do func(h *held)) {
				h := brought(t, states)
				do(h)
				h.emptied()
			})
		})
	}
}

func TestShortRowsOfOneLine(t *testing.T) {
	for _, n := range []int{0, 4, 7} {
		calls := []func(h *held){
			func(h *held) { h.own(n, 3) },
			func(h *held) { h.raise(n) },
			func(h *held) { h.next(3) },
			func(h *held) { h.next(0) },
			func(h *held) { h.ack(n) },
		}
		rows(t, calls, 6)
	}
}

func TestShortRowsOfTwoLines(t *testing.T) {
	rows(t, []func(h *held){
		func(h *held) { h.own(0, 0) },
		func(h *held) { h.own(7, 0) },
		func(h *held) { h.own(7, 3) },
		func(h *held) { h.raise(0) },
		func(h *held) { h.raise(7) },
		func(h *held) { h.next(0) },
		func(h *held) { h.next(3) },
		func(h *held) { h.ack(0) },
		func(h *held) { h.ack(7) },
	}, 5)
}

func rows(t *testing.T, calls []func(h *held), long int) {
	eachRow(len(calls), long, func(row []int) {
		h := newHeld(t)
		for _, c := range row {
			calls[c](h)
		}
	})
}

func TestDrawnCalls(t *testing.T) {
	for seed := range uint64(150) {
		n := &numbers{last: seed}
		h := newHeld(t)
		for range 400 {
			h.drawn(n)
		}
		h.emptied()
	}
}

// drawn is one call, seldom one that is out of range; few lines get an owner
// early, so that others are raised while they have none.
func (h *held) drawn(n *numbers) {
	h.t.Helper()
	line, domain := n.below(8), n.below(4)
	if n.below(20) == 0 {
		line, domain = n.below(12)-2, n.below(8)-2
	}
	switch k := n.below(40); {
	case k < 1:
		h.own(line, domain)
	case k < 16:
		h.raise(line)
	case k < 30:
		h.next(domain)
	default:
		h.ack(line)
	}
}

// 22.2

// Each word that Pending may tell, of lines that nobody owns.
func TestEachPendingWord(t *testing.T) {
	for set := range uint64(256) {
		n := &numbers{last: set}
		q := made(t)
		for _, line := range n.shuffled() {
			if set>>line%2 == 1 {
				wantRaise(t, q, line, api.OK)
			}
		}
		wantWords(t, q, set, 255)
	}
}

// Each word that Masked may tell, of lines without owner, and of such as were
// taken.
func TestEachMaskedWord(t *testing.T) {
	for set := range uint64(256) {
		n := &numbers{last: set}
		q := made(t)
		for _, line := range n.shuffled() {
			if set>>line%2 == 0 {
				wantOwn(t, q, line, 1, api.OK)
			}
		}
		wantWords(t, q, 0, set)
		for _, line := range n.shuffled() {
			if set>>line%2 == 1 {
				wantOwn(t, q, line, 2, api.OK)
				wantRaise(t, q, line, api.OK)
				wantNext(t, q, 2, line)
			}
		}
		wantWords(t, q, 0, set)
	}
}

// Each two words of pending and masked lines: neither hangs on the other one.
func TestEachTwoWords(t *testing.T) {
	for pending := range uint64(256) {
		for masked := range uint64(256) {
			states := [8]state{}
			for n := range states {
				states[n] = state{int(pending+masked) % 4, masked>>n%2 == 1, pending>>n%2 == 1}
			}
			h := brought(t, states)
			wantWords(t, h.q, pending, masked)
			for domain := range 4 {
				h.next(domain)
			}
		}
	}
}

func TestOwnerOfNoLine(t *testing.T) {
	for _, states := range [][8]state{mixed(), open()} {
		h := brought(t, states)
		for _, n := range noLines() {
			wantOwner(t, h.q, n, 0, false)
		}
		h.same()
	}
}

// A line's owner stays, whatever is called.
func TestOwnerStays(t *testing.T) {
	for n := range 8 {
		for domain := range 4 {
			h := newHeld(t)
			h.own(n, domain)
			draw := &numbers{last: uint64(n*4 + domain)}
			for range 200 {
				h.drawn(draw)
				wantOwner(t, h.q, n, domain, true)
			}
		}
	}
}

// Of 0 the domain, and nobody, are told apart by the bool alone.
func TestOwnerOfTheDomainNought(t *testing.T) {
	for n := range 8 {
		q := made(t)
		wantOwner(t, q, n, 0, false)
		wantOwn(t, q, n, 0, api.OK)
		wantOwner(t, q, n, 0, true)
	}
}

// mixed has lines of each kind of state, of all domains.
func mixed() [8]state {
	return [8]state{
		{0, false, true}, {-1, true, true}, {3, true, false}, {1, true, true},
		{2, false, false}, {-1, true, false}, {3, false, true}, {2, true, true},
	}
}

// open has all lines pending and not masked.
func open() [8]state {
	l := [8]state{}
	for n := range l {
		l[n] = state{n % 4, false, true}
	}
	return l
}
