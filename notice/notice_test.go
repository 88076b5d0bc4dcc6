package notice

import (
	"math"
	"slices"
	"testing"

	"donjon/api"
)

// eachBool hands on both, for tests whose answer is the same with either.
func eachBool(see func(b bool)) {
	see(false)
	see(true)
}

// 19.1

func TestNewIsNoughtAndNobodys(t *testing.T) {
	n := New()
	wantState(t, n, 0)
	wantBound(t, n, 0, false)
	for id := -1; id <= 64; id++ {
		if n.Cancel(id) {
			t.Errorf("Cancel(%d): true", id)
		}
	}
	wantUnbind(t, n, 0, false)
	wantWait(t, n, 0, false, 0, false, api.OK)
	wantState(t, n, 0)
	wantSignal(t, n, 0, true, 0, 0, false)
	wantState(t, n, 0)
}

func TestTheChaptersExample(t *testing.T) {
	n := New()
	wantSignal(t, n, 1, false, 0, 0, false)
	wantSignal(t, n, 4, false, 0, 0, false)
	wantState(t, n, 5)
	wantWait(t, n, 3, true, 5, true, api.OK)
	wantState(t, n, 0)
	wantWait(t, n, 3, true, 0, false, api.OK)
	wantState(t, n, 0, 3)
	wantSignal(t, n, 2, false, 3, 2, true)
	wantState(t, n, 0)
}

func TestASignalWithNobodyIsKept(t *testing.T) {
	for _, badge := range badges() {
		n := New()
		wantSignal(t, n, badge, false, 0, 0, false)
		wantState(t, n, badge)
	}
}

// Each small badge, and its bits at the highest end: none of them is told
// otherwise than the others are.
func TestEachSmallBadge(t *testing.T) {
	n := New()
	for k := range uint64(1024) {
		for _, badge := range []uint64{k, k << 54} {
			wantSignal(t, n, badge, true, 0, 0, false)
			wantState(t, n, badge)
			wantWait(t, n, 1, false, badge, badge != 0, api.OK)
			wantWait(t, n, 1, true, 0, false, api.OK)
			wantSignal(t, n, badge, true, 1, badge, true)
			wantBind(t, n, 2, api.OK)
			wantSignal(t, n, badge, true, 2, badge, true)
			wantUnbind(t, n, 2, true)
		}
	}
}

// Bound asked for is no more than a signal, where none is bound; and one that
// is bound is not told, where it is not asked for.
func TestASignalIsKeptUnlessOneIsBoundAndAskedFor(t *testing.T) {
	for _, badge := range badges() {
		n := New()
		wantSignal(t, n, 2, true, 0, 0, false)
		wantSignal(t, n, badge, true, 0, 0, false)
		wantState(t, n, badge|2)
		n = New()
		wantBind(t, n, 9, api.OK)
		wantSignal(t, n, 2, false, 0, 0, false)
		wantSignal(t, n, badge, false, 0, 0, false)
		wantState(t, n, badge|2)
		wantBound(t, n, 9, true)
		wantUnbind(t, n, 9, true)
		wantSignal(t, n, 4, true, 0, 0, false)
		wantState(t, n, badge|6)
	}
}

// Bits that come twice are there once: they are put together bit by bit, not
// summed.
func TestSignalsArePutTogether(t *testing.T) {
	for _, a := range badges() {
		for _, b := range badges() {
			n := New()
			wantSignal(t, n, a, false, 0, 0, false)
			wantSignal(t, n, b, false, 0, 0, false)
			wantState(t, n, a|b)
			wantSignal(t, n, a, false, 0, 0, false)
			wantState(t, n, a|b)
			wantWait(t, n, 63, true, a|b, a|b != 0, api.OK)
		}
	}
}

func TestManySignalsAreToldAtOnce(t *testing.T) {
	eachBool(func(wait bool) {
		n := New()
		for k, at := range shuffled(1) {
			wantSignal(t, n, 1<<at, k%2 == 0, 0, 0, false)
		}
		wantState(t, n, math.MaxUint64)
		wantWait(t, n, 0, wait, math.MaxUint64, true, api.OK)
		wantState(t, n, 0)
		wantSignal(t, n, 8, false, 0, 0, false)
		wantState(t, n, 8) // nothing is left of what was told
	})
}

// Whoever is told the word doesn't wait, even if it may.
func TestWaitWhereTheWordIsNotNought(t *testing.T) {
	for _, badge := range badges() {
		if badge == 0 {
			continue
		}
		for id := range 64 {
			eachBool(func(wait bool) {
				n := New()
				n.Signal(badge, false)
				wantWait(t, n, id, wait, badge, true, api.OK)
				wantState(t, n, 0)
				if n.Cancel(id) {
					t.Fatalf("%d was told, and waits", id)
				}
				wantWait(t, n, id, wait, 0, false, api.OK)
			})
		}
	}
}

// That the badge 0 was signalled is not to be seen, where nobody waits: the
// word is nought, so that who comes waits.
func TestASignalOfNoughtIsNoWord(t *testing.T) {
	eachBool(func(bound bool) {
		n := New()
		wantSignal(t, n, 0, bound, 0, 0, false)
		wantWait(t, n, 7, false, 0, false, api.OK)
		wantState(t, n, 0)
		wantWait(t, n, 7, true, 0, false, api.OK)
		wantState(t, n, 0, 7)
	})
}

// Whoever waits is woken by 0 too.
func TestEachIDWaitsAndIsWoken(t *testing.T) {
	for id := range 64 {
		for _, badge := range badges() {
			eachBool(func(bound bool) {
				n := New()
				wantWait(t, n, id, true, 0, false, api.OK)
				wantState(t, n, 0, id)
				wantSignal(t, n, badge, bound, id, badge, true)
				wantState(t, n, 0)
				wantSignal(t, n, badge, bound, 0, 0, false)
				wantState(t, n, badge)
			})
		}
	}
}

func TestAllThatWaitAreWokenInOrder(t *testing.T) {
	all := shuffled(2)
	for many := range 65 {
		eachBool(func(bound bool) {
			n := newWaits(t, all[:many]...).n
			for k := range many {
				wantSignal(t, n, 1<<(63-k), bound, all[k], 1<<(63-k), true)
				wantState(t, n, 0, all[k+1:many]...)
			}
			wantSignal(t, n, 6, bound, 0, 0, false)
			wantState(t, n, 6)
		})
	}
}

// One that is bound comes behind all that wait; it is told when nobody does.
func TestABoundOneWhereSomebodyWaits(t *testing.T) {
	all := shuffled(3)
	for _, many := range []int{1, 2, 3, 32, 63, 64} {
		for _, bound := range []int{0, 63, all[0], all[many-1], all[63]} {
			n := newWaits(t, all[:many]...).n
			wantBind(t, n, bound, api.OK)
			for k := range many {
				wantSignal(t, n, uint64(k), true, all[k], uint64(k), true)
				wantState(t, n, 0, all[k+1:many]...)
				wantBound(t, n, bound, true)
			}
			wantSignal(t, n, 12, true, bound, 12, true)
			wantState(t, n, 0)
			wantBound(t, n, bound, true)
		}
	}
}

func TestABoundOneIsToldTheWordAndTheBadge(t *testing.T) {
	for _, word := range badges() {
		for _, badge := range badges() {
			n := New()
			wantBind(t, n, 33, api.OK)
			wantSignal(t, n, word, false, 0, 0, false)
			wantSignal(t, n, badge, true, 33, word|badge, true)
			wantState(t, n, 0)
			wantSignal(t, n, badge, true, 33, badge, true) // it stays bound
			wantWait(t, n, 33, false, 0, false, api.OK)
		}
	}
}

func TestEachIDIsBoundAndTold(t *testing.T) {
	for id := range 64 {
		n := New()
		wantBind(t, n, id, api.OK)
		wantBound(t, n, id, true)
		wantState(t, n, 0)
		wantSignal(t, n, 1, true, id, 1, true)
		wantSignal(t, n, 0, true, id, 0, true) // also of nought
		wantSignal(t, n, 1<<63, false, 0, 0, false)
		wantSignal(t, n, 0, true, id, 1<<63, true)
		wantBound(t, n, id, true)
		wantUnbind(t, n, id, true)
		wantSignal(t, n, 1, true, 0, 0, false)
		wantState(t, n, 1)
	}
}

func TestWithoutWaitNothingHappens(t *testing.T) {
	all := shuffled(4)
	for _, many := range []int{0, 1, 2, 31, 62, 63} {
		h := newWaits(t, all[:many]...)
		for _, id := range all[many:] {
			wantWait(t, h.n, id, false, 0, false, api.OK)
			h.is(0, all[:many]...)
		}
		h.emptied()
	}
}

func TestWhoWaitsStandsBehindTheOthers(t *testing.T) {
	all := shuffled(5)
	h := newHeld(t)
	for k, id := range all {
		wantWait(t, h.n, id, true, 0, false, api.OK)
		wantState(t, h.n, 0, all[:k+1]...)
	}
}

func TestWhoComesAgainIsBehindAll(t *testing.T) {
	h := newWaits(t, 1, 2, 3)
	h.signal(4, false) // wakes 1
	h.wait(1, true)
	h.is(0, 2, 3, 1)
	h.cancel(3)
	h.wait(3, true)
	h.is(0, 2, 1, 3)
	h.wait(2, true) // it waits: it stays where it is
	h.is(0, 2, 1, 3)
	h.cancel(3)
	h.wait(3, true) // the last one comes again as the last one
	h.is(0, 2, 1, 3)
	h.signal(0, true)
	h.signal(0, true)
	h.signal(0, true)
	h.wait(3, true)
	h.wait(2, true)
	h.is(0, 3, 2)
	h.emptied()
}

// Whoever was woken, cancelled or told may come again, and is told or waits.
func TestWhoWaitsNoLongerMayComeAgain(t *testing.T) {
	for _, id := range []int{0, 31, 63} {
		for k := range 3 {
			h := newWaits(t, id)
			switch k {
			case 0:
				h.signal(9, false)
			case 1:
				h.signal(9, true)
			default:
				h.cancel(id)
			}
			h.is(0)
			h.wait(id, false)
			h.is(0)
			h.wait(id, true)
			h.is(0, id)
			h.signal(1, false)
			h.signal(2, false)
			h.is(2)
			h.wait(id, true)
			h.is(0)
			h.wait(id, true)
			h.is(0, id)
		}
	}
}

// Also where a word is there: the id comes first.
func TestNoThreadIsErrRange(t *testing.T) {
	all := shuffled(6)
	for _, there := range [][]int{{}, {0}, {63}, {3, 0, 63, 62}, all[:63], all} {
		h := newWaits(t, there...)
		for _, id := range noIDs() {
			wantWait(t, h.n, id, true, 0, false, api.ErrRange)
			wantWait(t, h.n, id, false, 0, false, api.ErrRange)
			h.is(0, there...)
		}
		h.emptied()
	}
	for _, badge := range badges() {
		h := newWord(t, badge)
		for _, id := range noIDs() {
			wantWait(t, h.n, id, true, 0, false, api.ErrRange)
			wantWait(t, h.n, id, false, 0, false, api.ErrRange)
		}
		h.is(badge)
		h.emptied()
	}
}

func TestWhoWaitsHereIsErrTwice(t *testing.T) {
	all := shuffled(7)
	for _, many := range []int{1, 2, 3, 8, 63, 64} {
		h := newWaits(t, all[:many]...)
		for _, id := range all[:many] {
			wantWait(t, h.n, id, true, 0, false, api.ErrTwice)
			wantWait(t, h.n, id, false, 0, false, api.ErrTwice)
			h.is(0, all[:many]...)
		}
		h.emptied()
	}
}

// 19.2

func TestCancelOfTheFirstAMiddleAndTheLastOne(t *testing.T) {
	for _, c := range []struct {
		id   int
		left []int
	}{
		{7, []int{0, 63, 2, 5}},
		{0, []int{7, 63, 2, 5}},
		{63, []int{7, 0, 2, 5}},
		{2, []int{7, 0, 63, 5}},
		{5, []int{7, 0, 63, 2}},
	} {
		n := newWaits(t, 7, 0, 63, 2, 5).n
		if !n.Cancel(c.id) || n.Cancel(c.id) {
			t.Errorf("Cancel(%d)", c.id)
		}
		wantState(t, n, 0, c.left...)
		for _, id := range c.left {
			wantSignal(t, n, 1, true, id, 1, true)
		}
		wantState(t, n, 0)
	}
}

func TestCancelOfEachOfAll(t *testing.T) {
	all := shuffled(8)
	for at, id := range all {
		h := newWaits(t, all...)
		h.cancel(id)
		h.is(0, slices.Concat(all[:at], all[at+1:])...)
		h.cancel(id)
		h.wait(id, false)
		h.wait(id, true)
		h.is(0, slices.Concat(all[:at], all[at+1:], []int{id})...)
		h.emptied()
	}
}

func TestCancelOfWhoDoesNotWait(t *testing.T) {
	all := shuffled(9)
	for _, many := range []int{0, 1, 2, 32, 63, 64} {
		h := newWaits(t, all[:many]...)
		for _, id := range append(noIDs(), all[many:]...) {
			if h.n.Cancel(id) {
				t.Fatalf("%v: Cancel(%d): true", all[:many], id)
			}
			h.is(0, all[:many]...)
		}
		h.emptied()
	}
	for _, badge := range badges() {
		h := newWord(t, badge)
		for id := -1; id <= 64; id++ {
			h.cancel(id)
		}
		h.is(badge)
		h.emptied()
	}
}

// Behind the last one that is cancelled signals are kept again.
func TestCancelOfAll(t *testing.T) {
	all := shuffled(10)
	for _, many := range []int{1, 2, 64} {
		h := newWaits(t, all[:many]...)
		for k := range many {
			h.is(0, all[k:many]...)
			h.cancel(all[k])
		}
		h.signal(7, false)
		h.is(7)
		h.emptied()
		h = newWaits(t, all[:many]...)
		for k := range many {
			h.cancel(all[many-1-k])
		}
		h.signal(7, true)
		h.is(7)
		h.emptied()
	}
}

func TestBindOfNoThread(t *testing.T) {
	h := newHeld(t)
	for _, id := range noIDs() {
		wantBind(t, h.n, id, api.ErrRange)
		wantBound(t, h.n, 0, false)
	}
	h.bind(0)
	for _, id := range noIDs() { // ahead of it that one is bound
		wantBind(t, h.n, id, api.ErrRange)
		wantBound(t, h.n, 0, true)
	}
	h.same()
	h.emptied()
}

func TestBindWhereOneIsBound(t *testing.T) {
	for first := range 64 {
		h := newHeld(t)
		h.signal(5, false)
		h.bind(first)
		for id := range 64 {
			wantBind(t, h.n, id, api.ErrTwice)
			wantBound(t, h.n, first, true)
		}
		h.is(5)
		wantSignal(t, h.n, 2, true, first, 7, true)
		wantUnbind(t, h.n, first, true)
		wantBound(t, h.n, 0, false)
	}
}

func TestBoundToldUnboundAndBoundAgain(t *testing.T) {
	n := New()
	wantBind(t, n, 9, api.OK)
	wantSignal(t, n, 1, true, 9, 1, true)
	wantUnbind(t, n, 9, true)
	wantUnbind(t, n, 0, false)
	wantBound(t, n, 0, false)
	wantSignal(t, n, 2, true, 0, 0, false)
	wantBind(t, n, 9, api.OK)
	wantState(t, n, 2) // it is told by a signal alone
	wantSignal(t, n, 4, true, 9, 6, true)
	wantUnbind(t, n, 9, true)
	wantBind(t, n, 0, api.OK)
	wantSignal(t, n, 8, true, 0, 8, true)
	wantBound(t, n, 0, true)
	wantUnbind(t, n, 0, true)
	wantBind(t, n, 63, api.OK)
	wantSignal(t, n, 16, true, 63, 16, true)
	wantUnbind(t, n, 63, true)
	wantState(t, n, 0)
}

// That 0 is bound, and that none is, are told apart by the bool alone.
func TestUnbindAndBoundWithNone(t *testing.T) {
	h := newHeld(t)
	for range 3 {
		wantBound(t, h.n, 0, false)
		wantUnbind(t, h.n, 0, false)
		h.is(0)
	}
	wantBind(t, h.n, 0, api.OK)
	wantBound(t, h.n, 0, true)
	wantBound(t, h.n, 0, true)
	wantUnbind(t, h.n, 0, true)
	wantUnbind(t, h.n, 0, false)
	h.emptied()
}

// To be bound and to wait are two things: neither changes the other.
func TestBoundOnesWaitLikeOthers(t *testing.T) {
	for _, id := range []int{0, 17, 63} {
		h := newHeld(t)
		h.bind(id)
		h.wait(id, true)
		h.is(0, id)
		h.wait(20, true)
		h.is(0, id, 20)
		h.cancel(id)
		h.is(0, 20)
		wantBound(t, h.n, id, true)
		h.wait(id, true)
		h.unbind()
		h.is(0, 20, id)
		h.bind(id)
		h.signal(1, true)
		h.is(0, id)
		h.signal(2, true)
		h.is(0)
		h.signal(4, true)
		h.is(0)
		h.cancel(id)
		wantBound(t, h.n, id, true)
		h.signal(8, false)
		h.wait(id, true)
		h.is(0)
		h.emptied()
	}
}

// Binding does not hang on who waits, nor on the word; it leaves both.
func TestBindLeavesTheRest(t *testing.T) {
	all := shuffled(11)
	for _, many := range []int{0, 1, 2, 63, 64} {
		for id := range 64 {
			h := newWaits(t, all[:many]...)
			h.bind(id)
			h.is(0, all[:many]...)
			h.unbind()
			h.is(0, all[:many]...)
		}
	}
	for _, badge := range badges() {
		h := newWord(t, badge)
		h.bind(63)
		h.is(badge)
		h.unbind()
		h.is(badge)
		h.emptied()
	}
}

func TestStateTellsWithoutChanging(t *testing.T) {
	all := shuffled(12)
	for many := range 65 {
		n := newWaits(t, all[:many]...).n
		for range 5 {
			wantState(t, n, 0, all[:many]...)
		}
	}
	for _, badge := range badges() {
		n := newWord(t, badge).n
		for range 5 {
			wantState(t, n, badge)
		}
	}
}

// What is handed out

// laters are calls behind which a list that was handed out must be as it was.
func laters(all []int, many int) []func(n *Notice) {
	last := all[max(many, 1)-1]
	return []func(n *Notice){
		func(n *Notice) { n.Signal(1, false) },
		func(n *Notice) { n.Signal(1, false); n.Wait(all[63], true); n.Wait(all[0], true) },
		func(n *Notice) { n.Wait(all[63], true) },
		func(n *Notice) { n.Cancel(all[0]) },
		func(n *Notice) { n.Cancel(all[many/2%64]) },
		func(n *Notice) { n.Cancel(last) },
		func(n *Notice) { n.Cancel(all[0]); n.Wait(all[0], true) },
		func(n *Notice) {
			for range 65 {
				n.Signal(0, true)
			}
			for id := range 64 {
				n.Wait(id, true)
			}
		},
		func(n *Notice) { // a list is asked for again, and holds others
			for id := range 64 {
				n.Cancel(id)
			}
			for k := range 64 {
				n.Wait(all[63-k], true)
			}
			n.State()
		},
	}
}

func TestListsAreNotChangedByLaterCalls(t *testing.T) {
	all := shuffled(13)
	for many := range 65 {
		for k, later := range laters(all, many) {
			n := newWaits(t, all[:many]...).n
			_, list := n.State()
			later(n)
			if !slices.Equal(list, all[:many]) {
				t.Fatalf("%d: %v, not %v", k, list, all[:many])
			}
		}
	}
}

func TestChangingAListChangesNothing(t *testing.T) {
	all := shuffled(14)
	for many := 1; many <= 64; many++ {
		h := newWaits(t, all[:many]...)
		_, first := h.n.State()
		_, second := h.n.State()
		scribble(first)
		_ = append(first[:0], 79)
		if !slices.Equal(second, all[:many]) {
			t.Fatalf("two lists share: %v, not %v", second, all[:many])
		}
		h.is(0, all[:many]...)
		h.cancel(all[many/2%many])
		scribble(second)
		h.same()
		h.wait(all[many/2%many], true)
		scribble(first)
		h.same()
		h.emptied()
		scribble(second)
		h.same()
	}
}

func TestNoticesShareNothing(t *testing.T) {
	a, b := newHeld(t), newHeld(t)
	n := &numbers{last: 15}
	for range 800 {
		for _, h := range []*held{a, b} {
			drawn(h, n, 64)
		}
		a.same()
	}
	newHeld(t).is(0)
}

// Many calls

// drawn is one call, mostly with one of so many ids, at times with none.
func drawn(h *held, n *numbers, ids int) {
	h.t.Helper()
	id := n.below(ids+4) - 2
	switch k := n.below(40); {
	case k < 15:
		h.signal(n.badge(), n.bool())
	case k < 31:
		h.wait(id, n.below(4) > 0)
	case k < 35:
		h.cancel(id)
	case k < 38:
		h.bind(id)
	default:
		h.unbind()
	}
}

func TestDrawnCalls(t *testing.T) {
	for seed := range uint64(64) {
		n := &numbers{last: seed}
		h := newHeld(t)
		for range 400 {
			drawn(h, n, 1+int(seed))
		}
		h.emptied()
	}
}

// Stretches of calls that mostly wait, and of such that mostly signal, so that
// many wait, and many bits are put together.
func TestDrawnCallsOfWhichMostAreOfOneKind(t *testing.T) {
	most, bits := 0, uint64(0)
	for seed := range uint64(24) {
		n := &numbers{last: 100 + seed}
		h := newHeld(t)
		for k := range 600 {
			waits := k/150%2 == 0
			switch c := n.below(30); {
			case c < 20 && waits, c < 2 && !waits:
				h.wait(n.below(64), n.below(5) > 0)
			case c < 22 && waits, c < 22 && !waits:
				h.signal(1<<n.below(64), n.below(20) == 0)
			case c < 24:
				h.cancel(n.below(64))
			case c < 26:
				h.bind(n.below(64))
			default:
				h.unbind()
			}
			word, ids := h.n.State()
			most, bits = max(most, len(ids)), bits|word
		}
		h.emptied()
	}
	if most < 30 || bits != math.MaxUint64 {
		t.Errorf("at most %d waited, and the bits %#x were seen", most, bits)
	}
}

// eachRow hands on every row of at most so many calls, each told by its
// number.
func eachRow(calls, longest int, see func(row []int)) {
	var longer func(row []int)
	longer = func(row []int) {
		see(row)
		if len(row) == longest {
			return
		}
		for c := range calls {
			longer(append(row[:len(row):len(row)], c))
		}
	}
	longer(nil)
}

// rowHolds makes a row of calls: with each badge two, with each id four, and
// an Unbind.
func rowHolds(t *testing.T, row []int, badges []uint64, ids []int) {
	n, want := New(), newTold()
	for _, c := range row {
		same := false
		switch kinds := 2 * len(badges); {
		case c < kinds:
			badge, bound := badges[c/2], c%2 == 0
			id, word, ok := n.Signal(badge, bound)
			i, w, is := want.signal(badge, bound)
			same = id == i && word == w && ok == is
		case c < kinds+4*len(ids):
			same = idHolds(n, want, ids[(c-kinds)/4], (c-kinds)%4)
		default:
			id, ok := n.Unbind()
			i, is := want.unbind()
			same = id == i && ok == is
		}
		if !same {
			t.Fatalf("%v of %v, %v: an answer is another one", row, badges, ids)
		}
	}
	word, list := want.word(), want.list()
	if w, l := n.State(); w != word || !slices.Equal(l, list) {
		t.Fatalf("%v of %v, %v: %#x, %v; not %#x, %v", row, badges, ids, w, l, word, list)
	}
	bound, is := want.bound()
	wantBound(t, n, bound, is)
}

func idHolds(n *Notice, want *told, id, kind int) bool {
	switch kind {
	case 2:
		return n.Cancel(id) == want.cancel(id)
	case 3:
		return n.Bind(id) == want.bind(id)
	}
	word, ok, err := n.Wait(id, kind == 0)
	w, is, e := want.wait(id, kind == 0)
	return word == w && ok == is && err == e
}

// Each row of at most four calls with three ids, and of at most five with two.
func TestEachShortRow(t *testing.T) {
	for _, c := range []struct {
		badges        []uint64
		ids           []int
		longest, many int
	}{
		{[]uint64{1<<63 + 1, 3, 0}, []int{63, 9, 0}, 4, 137561},
		{[]uint64{5, 6}, []int{0, 63}, 5, 402234},
	} {
		count := 0
		eachRow(2*len(c.badges)+4*len(c.ids)+1, c.longest, func(row []int) {
			rowHolds(t, row, c.badges, c.ids)
			count++
		})
		if count != c.many {
			t.Errorf("%v: %d rows", c.ids, count)
		}
	}
}
