package kernel

import (
	"slices"
	"testing"

	"donjon/api"
	"donjon/thread"
)

// noticed is a world with three threads 5 to 7, an Endpoint 10 at the address
// 3, and a Notice 11: with the badges 1, 2 and 2^28 - 1 at 4, 5 and 6.
func noticed(t *testing.T) *world {
	t.Helper()
	w := newWorld(t)
	for n := 5; n <= 7; n++ {
		w.thread(n)
	}
	w.make(10, api.Endpoint, 0, 3)
	w.create(11, api.Notice, 0)
	for i, badge := range []uint64{1, 2, 1<<28 - 1} {
		w.plant(4+i, with(api.Notice, 11, 3, badge))
	}
	return w
}

// 24.4

func TestYield(t *testing.T) {
	w := newWorld(t)
	for n := 5; n <= 7; n++ {
		w.thread(n)
	}
	w.threadAt(8, 1, 0)
	w.yields(8, 8) // the only one of its level
	w.call(8, Invoke, regs{0: 2, 7: w.plant(0, full(api.Thread, 8))})
	w.state(8, thread.Inactive, 0)
	for _, c := range [][2]int{{5, 6}, {6, 7}, {7, 5}, {5, 6}} {
		w.yields(c[0], c[1])
	}
}

// yields asks that a Yield tells OK, and who runs then.
func (w *world) yields(n, next int) {
	w.t.Helper()
	w.call(n, Yield, regs{0: 9, 1: 8})
	w.holds(n, 0, 8, 0, 0, 0, 0, 0, 0)
	w.state(n, thread.Ready, 0)
	if now, ok := w.k.Current(); !ok || now != next {
		w.t.Fatalf("behind %d comes %d (%t), not %d", n, now, ok, next)
	}
}

func TestSignalPutsWordsTogether(t *testing.T) {
	w := noticed(t)
	w.toldOK(5, Signal, regs{0: 9, 7: 5}, 11)
	w.waiting(11, 2)
	w.toldOK(6, Signal, regs{0: 9, 7: 4}, 11)
	w.waiting(11, 3)
	w.toldOK(6, Signal, regs{7: 4}, 11)
	w.waiting(11, 3)
	w.toldOK(6, Signal, regs{7: 6}, 11)
	w.waiting(11, 1<<28-1)
}

// toldOK asks that a call tells OK, and changes no more than what is
// told of one object by Waiting.
func (w *world) toldOK(n, number int, r regs, object int) {
	w.t.Helper()
	w.load(n, r)
	w.turn(n)
	before := w.of(n)
	shotBefore := shot(w.k)
	w.call(n, number, nil)
	before.Pc++
	before.Regs[0] = 0
	if got := w.of(n); got != before {
		w.t.Fatalf("%d: %+v, not %+v", n, got, before)
	}
	w.sameBut(shotBefore, "thread "+digits(n)+" ", "waiting "+digits(object)+" ", "word ")
}

func TestWaitAndPollTakeTheWord(t *testing.T) {
	for _, number := range []int{Wait, Poll} {
		w := noticed(t)
		w.call(5, Signal, regs{7: 4})
		w.call(5, Signal, regs{7: 5})
		w.call(6, number, regs{0: 9, 1: 1, 2: 2, 3: 3, 4: 4, 5: 5, 6: 6, 7: 4})
		w.holds(6, 0, 1, 2, 3, 4, 3, 6, 4)
		w.state(6, thread.Ready, 0)
		w.waiting(11, 0)
		w.ready(6, 7, 5)
	}
}

func TestWaitWaits(t *testing.T) {
	w := noticed(t)
	w.call(6, Wait, regs{0: 9, 5: 8, 7: 4})
	w.holds(6, 9, 0, 0, 0, 0, 8, 0, 4)
	w.state(6, thread.Waiting, 11)
	w.call(5, Wait, regs{7: 4})
	w.waiting(11, 0, 6, 5)
	w.ready(7)
}

func TestPollDoesNotWait(t *testing.T) {
	w := noticed(t)
	w.refusesCall(6, Poll, api.ErrNone, regs{0: 9, 5: 8, 7: 4})
	w.call(5, Wait, regs{7: 4})
	w.refusesCall(6, Poll, api.ErrNone, regs{0: 9, 5: 8, 7: 4})
	w.waiting(11, 0, 5)
}

func TestSignalWakesTheFirst(t *testing.T) {
	w := noticed(t)
	w.call(6, Wait, regs{0: 9, 1: 1, 5: 8, 7: 4})
	w.call(5, Wait, regs{7: 4})
	w.signals(7, 6, regs{7: 5})
	w.holds(6, 0, 1, 0, 0, 0, 2, 0, 4)
	w.waiting(11, 0, 5)
	w.ready(7, 6)
	w.call(7, Signal, regs{7: 6})
	w.has(5, regs{0: 0, 5: 1<<28 - 1})
	w.waiting(11, 0)
	w.ready(7, 6, 5)
	w.call(7, Signal, regs{7: 6})
	w.waiting(11, 1<<28-1)
}

// signals asks that a Signal tells OK, and changes no other thread than
// the one that it wakes.
func (w *world) signals(n, wakes int, r regs) {
	w.t.Helper()
	w.load(n, r)
	w.turn(n)
	before := shot(w.k)
	w.call(n, Signal, nil)
	w.has(n, regs{0: 0})
	w.state(wakes, thread.Ready, 0)
	w.sameBut(before, "thread "+digits(n)+" ", "thread "+digits(wakes)+" ", "waiting ", "word ")
}

// TestSignalOfTheBadgeNought wakes who waits, and is no word else.
func TestSignalOfTheBadgeNought(t *testing.T) {
	w := noticed(t)
	w.plant(8, with(api.Notice, 11, 3, 0))
	w.call(6, Wait, regs{0: 9, 5: 8, 7: 4})
	w.call(7, Signal, regs{7: 8})
	w.has(6, regs{0: 0, 5: 0})
	w.state(6, thread.Ready, 0)
	w.call(7, Signal, regs{7: 8})
	w.waiting(11, 0)
	w.refusesCall(6, Poll, api.ErrNone, regs{7: 4})
}

func TestSignalWakesWhoIsBoundAndReceives(t *testing.T) {
	w := noticed(t)
	w.ok(w.k.Bind(11, 6))
	w.call(5, Recv, regs{7: 3})
	w.call(6, Recv, regs{0: 9, 1: 1, 5: 8, 7: 3})
	w.waiting(10, 2, 5, 6)
	w.signals(7, 6, regs{7: 5})
	w.holds(6, 0, 1, 0, 0, 0, 2, 0, 3)
	w.waiting(10, 2, 5) // it receives no longer
	w.waiting(11, 0)
	w.ready(7, 6)
	// The next message goes to who still receives.
	w.call(7, Send, regs{0: info(4, 0, false), 7: 3})
	w.has(5, regs{0: info(4, 0, false)})
	w.waiting(10, 0)
}

// TestSignalTellsWhoIsBoundAllOfTheWord: also what came while it did not receive.
func TestSignalTellsWhoIsBoundAllOfTheWord(t *testing.T) {
	w := noticed(t)
	w.call(6, Recv, regs{7: 3})
	w.call(7, Signal, regs{7: 5})
	w.waiting(11, 2)
	w.ok(w.k.Bind(11, 6)) // it is told nothing by that
	w.state(6, thread.Receiving, 10)
	w.call(7, Signal, regs{7: 4})
	w.has(6, regs{0: 0, 5: 3})
	w.waiting(11, 0)
	w.waiting(10, 0)
}

// TestSignalOfWhoIsBoundInOtherStates: it is woken nowhere but where it receives.
func TestSignalOfWhoIsBoundInOtherStates(t *testing.T) {
	for state := range 6 {
		w := newWorld(t)
		list := w.inEachState()
		n := list[state]
		w.create(34, api.Notice, 0)
		w.ok(w.k.Bind(34, n))
		at := w.plant(3, with(api.Notice, 34, 2, 5))
		before := w.of(n)
		w.call(26, Signal, regs{7: at})
		if state == thread.Receiving {
			w.has(n, regs{0: 0, 5: 5})
			w.state(n, thread.Ready, 0)
			w.waiting(31, 0)
			w.waiting(34, 0)
			continue
		}
		if got := w.of(n); got != before {
			t.Errorf("state %d: %+v, not %+v", state, got, before)
		}
		w.waiting(34, 5)
	}
}

func TestSignalWakesWhoWaitsAheadOfWhoIsBound(t *testing.T) {
	w := noticed(t)
	w.ok(w.k.Bind(11, 6))
	w.call(6, Recv, regs{7: 3})
	w.call(5, Wait, regs{7: 4})
	w.call(7, Signal, regs{7: 5})
	w.has(5, regs{0: 0, 5: 2})
	w.state(6, thread.Receiving, 10)
	w.waiting(11, 0)
	w.call(7, Signal, regs{7: 4})
	w.has(6, regs{0: 0, 5: 1})
}

func TestWhoIsBoundMayWait(t *testing.T) {
	w := noticed(t)
	w.ok(w.k.Bind(11, 6))
	w.call(6, Wait, regs{7: 4})
	w.call(7, Signal, regs{7: 5})
	w.has(6, regs{0: 0, 5: 2})
	w.call(7, Signal, regs{7: 4})
	w.waiting(11, 1)
	w.call(6, Poll, regs{7: 4})
	w.has(6, regs{0: 0, 5: 1})
}

func TestOtherCalls(t *testing.T) {
	for _, number := range []int{12, 13, 16, 255, 256, 2048, 4095} {
		w := noticed(t)
		w.refusesCall(5, number, api.ErrMethod, regs{0: 0, 7: 4})
	}
}

func TestCallNumbers(t *testing.T) {
	if got := []int{Send, NBSend, Call, Recv, NBRecv, Reply, ReplyRecv, Yield, Signal, Wait, Poll, Invoke}; !slices.Equal(got, []int{0, 1, 2, 3, 4, 5, 6, 7, 8, 9, 10, 11}) {
		t.Errorf("%v", got)
	}
}
