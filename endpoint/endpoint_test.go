package endpoint

import (
	"slices"
	"testing"

	"donjon/api"
)

// The tests go both ways: side 1 sends, side 2 receives, and 3 less a side is
// the other one.
func eachSide(see func(side int)) {
	see(1)
	see(2)
}

// call is a Send (side 1) or a Recv (side 2).
func call(p *Endpoint, side, id int, wait bool) (int, bool, api.Errno) {
	if side == 1 {
		return p.Send(id, wait)
	}
	return p.Recv(id, wait)
}

func wantState(t *testing.T, p *Endpoint, state int, ids ...int) {
	t.Helper()
	if s, l := p.State(); s != state || !slices.Equal(l, ids) {
		t.Fatalf("State: %d, %v; not %d, %v", s, l, state, ids)
	}
}

func wantCall(t *testing.T, p *Endpoint, side, id int, wait bool, other int, is bool, want api.Errno) {
	t.Helper()
	if who, ok, err := call(p, side, id, wait); who != other || ok != is || err != want {
		t.Fatalf("side %d, %d, %v: %d, %v, error %d; not %d, %v, error %d", side, id, wait, who, ok, err, other, is, want)
	}
}

// 18.1

func TestStatesAreNumbers(t *testing.T) {
	if Idle != 0 || Senders != 1 || Receivers != 2 {
		t.Errorf("%d, %d, %d", Idle, Senders, Receivers)
	}
}

func TestNewIsIdle(t *testing.T) {
	p := New()
	wantState(t, p, Idle)
	if ids := p.Clear(); len(ids) != 0 {
		t.Errorf("Clear: %v", ids)
	}
	for id := -1; id <= 64; id++ {
		if p.Cancel(id) {
			t.Errorf("Cancel(%d): true", id)
		}
	}
	wantState(t, p, Idle)
}

func TestTheChaptersExample(t *testing.T) {
	p := New()
	wantCall(t, p, 1, 1, true, 0, false, api.OK)
	wantState(t, p, Senders, 1)
	wantCall(t, p, 1, 2, true, 0, false, api.OK)
	wantState(t, p, Senders, 1, 2)
	wantCall(t, p, 2, 3, true, 1, true, api.OK)
	wantState(t, p, Senders, 2)
	wantCall(t, p, 2, 4, true, 2, true, api.OK)
	wantState(t, p, Idle)
	wantCall(t, p, 2, 5, false, 0, false, api.OK)
	wantState(t, p, Idle)
}

func TestTheExampleTheOtherWayRound(t *testing.T) {
	p := New()
	wantCall(t, p, 2, 1, true, 0, false, api.OK)
	wantState(t, p, Receivers, 1)
	wantCall(t, p, 2, 2, true, 0, false, api.OK)
	wantState(t, p, Receivers, 1, 2)
	wantCall(t, p, 1, 3, true, 1, true, api.OK)
	wantState(t, p, Receivers, 2)
	wantCall(t, p, 1, 4, true, 2, true, api.OK)
	wantState(t, p, Idle)
	wantCall(t, p, 1, 5, false, 0, false, api.OK)
	wantState(t, p, Idle)
}

func TestEachIDWaitsAndIsMet(t *testing.T) {
	eachSide(func(side int) {
		for id := range 64 {
			other := (id + 1) % 64
			for _, wait := range []bool{false, true} {
				p := New()
				wantCall(t, p, side, id, true, 0, false, api.OK)
				wantState(t, p, side, id)
				wantCall(t, p, 3-side, other, wait, id, true, api.OK)
				wantState(t, p, Idle)
			}
		}
	})
}

// That 0 was met, and that nobody was, are told apart by the bool alone.
func TestTheThreadNoughtIsMet(t *testing.T) {
	eachSide(func(side int) {
		p := New()
		wantCall(t, p, side, 0, true, 0, false, api.OK)
		wantCall(t, p, 3-side, 63, true, 0, true, api.OK)
		wantCall(t, p, 3-side, 63, false, 0, false, api.OK)
		wantState(t, p, Idle)
	})
}

// Whoever meets somebody doesn't wait, even if it may.
func TestWhoMeetsDoesNotWait(t *testing.T) {
	eachSide(func(side int) {
		for _, wait := range []bool{false, true} {
			w := newWaits(t, side, 5, 0, 63)
			w.come(3-side, 9, wait)
			w.is(side, 0, 63)
			w.come(3-side, 9, wait)
			w.is(side, 63)
			w.come(3-side, 9, wait)
			w.is(Idle)
			w.cancel(9)
			w.come(3-side, 9, true)
			w.is(3-side, 9)
		}
	})
}

func TestWithoutWaitNothingHappens(t *testing.T) {
	all := shuffled(1)
	eachSide(func(side int) {
		for _, many := range []int{0, 1, 2, 31, 62, 63} {
			w := newWaits(t, side, all[:many]...)
			for _, id := range all[many:] {
				wantCall(t, w.p, side, id, false, 0, false, api.OK)
				w.same()
			}
			w.emptied()
		}
	})
}

func TestWhoWaitsStandsBehindTheOthers(t *testing.T) {
	all := shuffled(2)
	eachSide(func(side int) {
		w := newMet(t)
		for k, id := range all {
			w.come(side, id, true)
			w.is(side, all[:k+1]...)
		}
	})
}

func TestAllThatWaitAreMetInOrder(t *testing.T) {
	all := shuffled(3)
	eachSide(func(side int) {
		for _, many := range []int{1, 2, 3, 32, 62, 63} {
			w := newWaits(t, side, all[:many]...)
			for k := range many {
				wantCall(t, w.p, 3-side, all[63], k%2 == 0, all[k], true, api.OK)
				state := side
				if k == many-1 {
					state = Idle
				}
				wantState(t, w.p, state, all[k+1:many]...)
			}
		}
	})
}

func TestNoThreadIsErrRange(t *testing.T) {
	all := shuffled(4)
	for _, there := range [][]int{{}, {0}, {63}, {3, 0, 63, 62}, all[:63], all} {
		eachSide(func(side int) {
			w := newWaits(t, side, there...)
			for _, id := range noIDs() {
				eachSide(func(comes int) {
					wantCall(t, w.p, comes, id, true, 0, false, api.ErrRange)
					wantCall(t, w.p, comes, id, false, 0, false, api.ErrRange)
				})
				w.same()
			}
			w.emptied()
		})
	}
}

// Of whichever side it comes: also where somebody else waits whom it could
// meet.
func TestWhoWaitsHereIsErrTwice(t *testing.T) {
	all := shuffled(5)
	eachSide(func(side int) {
		for _, many := range []int{1, 2, 3, 8, 63, 64} {
			w := newWaits(t, side, all[:many]...)
			for _, id := range all[:many] {
				eachSide(func(comes int) {
					wantCall(t, w.p, comes, id, true, 0, false, api.ErrTwice)
					wantCall(t, w.p, comes, id, false, 0, false, api.ErrTwice)
				})
				w.same()
			}
			w.emptied()
		}
	})
}

// Whoever does not wait any longer is refused no longer.
func TestWhoWaitsNoLongerMayComeAgain(t *testing.T) {
	leaves := []func(w *met, side int){
		func(w *met, side int) { w.come(3-side, 40, true) },
		func(w *met, side int) { w.cancel(7) },
		func(w *met, side int) { w.clear() },
	}
	eachSide(func(side int) {
		for _, leave := range leaves {
			eachSide(func(comes int) {
				w := newWaits(t, side, 7)
				leave(w, side)
				w.is(Idle)
				w.come(comes, 7, false)
				w.is(Idle)
				w.come(comes, 7, true)
				w.is(comes, 7)
			})
		}
	})
}

func TestWhoComesAgainIsBehindAll(t *testing.T) {
	eachSide(func(side int) {
		w := newWaits(t, side, 1, 2, 3)
		w.come(3-side, 9, true) // meets 1
		w.come(side, 1, true)
		w.is(side, 2, 3, 1)
		w.cancel(3)
		w.come(side, 3, true)
		w.is(side, 2, 1, 3)
		w.come(side, 2, true) // it waits: it stays where it is
		w.is(side, 2, 1, 3)
		w.cancel(3)
		w.come(side, 3, true) // the last one comes again as the last one
		w.is(side, 2, 1, 3)
		w.clear()
		w.come(side, 3, true)
		w.come(side, 2, true)
		w.is(side, 3, 2)
		w.emptied()
	})
}

// The endpoint turns: who sends and who receives wait one behind the other.
func TestSidesTakeTurns(t *testing.T) {
	w := newMet(t)
	for k := range 200 {
		a, b, side := k%64, (k*7+1)%64, 1+k%2
		if a == b {
			b = (b + 1) % 64
		}
		w.come(side, a, true)
		w.is(side, a)
		w.come(3-side, b, k%3 == 0)
		w.is(Idle)
	}
}

// 18.2

func TestCancelOfTheFirstAMiddleAndTheLastOne(t *testing.T) {
	eachSide(func(side int) {
		for _, c := range []struct {
			id   int
			left []int
		}{
			{7, []int{0, 63, 2, 5}},
			{0, []int{7, 63, 2, 5}},
			{63, []int{7, 0, 2, 5}},
			{2, []int{7, 0, 63, 5}},
			{5, []int{7, 0, 63, 2}},
		} {
			w := newWaits(t, side, 7, 0, 63, 2, 5)
			if !w.p.Cancel(c.id) || w.p.Cancel(c.id) {
				t.Errorf("side %d: Cancel(%d)", side, c.id)
			}
			wantState(t, w.p, side, c.left...)
			for _, id := range c.left {
				wantCall(t, w.p, 3-side, 40, true, id, true, api.OK)
			}
			wantState(t, w.p, Idle)
		}
	})
}

func TestCancelOfEachOfAll(t *testing.T) {
	all := shuffled(6)
	eachSide(func(side int) {
		for at, id := range all {
			w := newWaits(t, side, all...)
			w.cancel(id)
			w.is(side, slices.Concat(all[:at], all[at+1:])...)
			w.cancel(id)
			w.come(3-side, id, true)
			w.come(side, id, true)
			w.emptied()
		}
	})
}

func TestCancelOfWhoDoesNotWait(t *testing.T) {
	all := shuffled(7)
	eachSide(func(side int) {
		for _, many := range []int{0, 1, 2, 32, 63, 64} {
			w := newWaits(t, side, all[:many]...)
			for _, id := range append(noIDs(), all[many:]...) {
				if w.p.Cancel(id) {
					t.Fatalf("%v: Cancel(%d): true", all[:many], id)
				}
				w.same()
			}
			w.emptied()
		}
	})
}

// Idle just if nobody waits: behind the last one that is cancelled, too, and
// then either side may wait.
func TestCancelOfAll(t *testing.T) {
	all := shuffled(8)
	eachSide(func(side int) {
		for _, many := range []int{1, 2, 64} {
			eachSide(func(next int) {
				w := newWaits(t, side, all[:many]...)
				for k := range many {
					w.is(side, all[k:many]...)
					w.cancel(all[k])
				}
				w.is(Idle)
				w.come(next, 12, true)
				w.is(next, 12)
			})
			w := newWaits(t, side, all[:many]...)
			for k := range many {
				w.cancel(all[many-1-k])
			}
			w.is(Idle)
		}
	})
}

func TestClearIsAllThatWaited(t *testing.T) {
	all := shuffled(9)
	eachSide(func(side int) {
		for many := range 65 {
			p := newWaits(t, side, all[:many]...).p
			if ids := p.Clear(); !slices.Equal(ids, all[:many]) {
				t.Fatalf("side %d: %v, not %v", side, ids, all[:many])
			}
			wantState(t, p, Idle)
			for range 2 {
				if ids := p.Clear(); len(ids) != 0 {
					t.Fatalf("side %d: once more: %v", side, ids)
				}
				wantState(t, p, Idle)
			}
			for id := range 64 {
				if p.Cancel(id) {
					t.Fatalf("side %d: %d still waits", side, id)
				}
				wantCall(t, p, 3-side, id, false, 0, false, api.OK)
				wantCall(t, p, side, id, false, 0, false, api.OK)
			}
			for k := range many {
				wantCall(t, p, 3-side, all[k], true, 0, false, api.OK)
				wantState(t, p, 3-side, all[:k+1]...)
			}
		}
	})
}

func TestStateTellsWithoutChanging(t *testing.T) {
	all := shuffled(10)
	eachSide(func(side int) {
		for _, many := range []int{1, 2, 63, 64} {
			p := newWaits(t, side, all[:many]...).p
			for range 5 {
				wantState(t, p, side, all[:many]...)
			}
		}
	})
}

// What is handed out

// laters are calls behind which a list that was handed out must be as it was.
func laters(all []int, many, side int) []func(p *Endpoint) {
	last := all[max(many, 1)-1]
	return []func(p *Endpoint){
		func(p *Endpoint) { call(p, 3-side, all[63], true) },
		func(p *Endpoint) { call(p, side, all[63], true) },
		func(p *Endpoint) { p.Cancel(all[0]) },
		func(p *Endpoint) { p.Cancel(all[many/2]) },
		func(p *Endpoint) { p.Cancel(last) },
		func(p *Endpoint) { p.Cancel(all[0]); call(p, side, all[0], true) },
		func(p *Endpoint) { p.Clear(); call(p, side, all[63], true) },
		func(p *Endpoint) {
			p.Clear()
			for id := range 64 {
				call(p, 3-side, id, true)
			}
		},
		func(p *Endpoint) {
			for id := range 64 {
				p.Cancel(id)
			}
			for id := range 64 {
				call(p, side, id, true)
			}
		},
		func(p *Endpoint) { // lists are asked for again, and hold others
			p.Clear()
			for k := range 64 {
				call(p, side, all[63-k], true)
			}
			p.State()
			p.Clear()
		},
	}
}

func TestListsAreNotChangedByLaterCalls(t *testing.T) {
	all := shuffled(11)
	eachSide(func(side int) {
		for many := range 65 {
			for k, later := range laters(all, many, side) {
				p := newWaits(t, side, all[:many]...).p
				_, list := p.State()
				later(p)
				if !slices.Equal(list, all[:many]) {
					t.Fatalf("State's, %d: %v, not %v", k, list, all[:many])
				}
				p = newWaits(t, side, all[:many]...).p
				list = p.Clear()
				later(p)
				if !slices.Equal(list, all[:many]) {
					t.Fatalf("Clear's, %d: %v, not %v", k, list, all[:many])
				}
			}
		}
	})
}

func TestChangingAListChangesNothing(t *testing.T) {
	all := shuffled(12)
	eachSide(func(side int) {
		for many := 1; many <= 64; many++ {
			w := newWaits(t, side, all[:many]...)
			_, first := w.p.State()
			_, second := w.p.State()
			scribble(first)
			_ = append(first[:0], 79)
			if !slices.Equal(second, all[:many]) {
				t.Fatalf("two lists share: %v, not %v", second, all[:many])
			}
			w.is(side, all[:many]...)
			w.cancel(all[many/2])
			scribble(second)
			w.same()
			w.come(side, all[many/2], true)
			scribble(first)
			w.same()
			w.emptied()
			scribble(second)
			w.same()
		}
	})
}

func TestChangingWhatClearToldChangesNothing(t *testing.T) {
	all := shuffled(13)
	eachSide(func(side int) {
		for many := 1; many <= 64; many++ {
			w := newWaits(t, side, all[:many]...)
			_, state := w.p.State()
			w.want.clear()
			list := w.p.Clear()
			scribble(list)
			if !slices.Equal(state, all[:many]) {
				t.Fatalf("State and Clear share: %v, not %v", state, all[:many])
			}
			w.is(Idle)
			for _, id := range all[:many] {
				w.come(3-side, id, true)
				scribble(list)
			}
			w.is(3-side, all[:many]...)
			w.emptied()
		}
	})
}

func TestEndpointsShareNothing(t *testing.T) {
	a, b := newMet(t), newMet(t)
	n := &numbers{last: 14}
	for range 800 {
		for _, w := range []*met{a, b} {
			drawn(w, n, 64)
		}
		a.same()
	}
	newMet(t).is(Idle)
}

// Many calls

// drawn is one call, mostly with one of so many ids, at times with none.
func drawn(w *met, n *numbers, ids int) {
	w.t.Helper()
	id := n.below(ids+4) - 2
	switch k := n.below(40); {
	case k < 17:
		w.send(id, n.below(4) > 0)
	case k < 34:
		w.recv(id, n.below(4) > 0)
	case k < 39:
		w.cancel(id)
	default:
		w.clear()
	}
}

func TestDrawnCalls(t *testing.T) {
	for seed := range uint64(64) {
		n := &numbers{last: seed}
		w := newMet(t)
		for range 400 {
			drawn(w, n, 1+int(seed))
		}
		w.emptied()
	}
}

// Stretches of calls that mostly send, and of such that mostly receive, so
// that many wait.
func TestDrawnCallsOfWhichMostAreOfOneSide(t *testing.T) {
	most := [3]int{}
	for seed := range uint64(24) {
		n := &numbers{last: 100 + seed}
		w := newMet(t)
		for k := range 600 {
			side := 1 + k/150%2
			switch c := n.below(30); {
			case c < 24:
				w.come(side, n.below(64), n.below(5) > 0)
			case c < 28:
				w.come(3-side, n.below(64), n.bool())
			default:
				w.cancel(n.below(64))
			}
			state, ids := w.p.State()
			most[state] = max(most[state], len(ids))
		}
		w.emptied()
	}
	if most[Senders] < 20 || most[Receivers] < 20 {
		t.Errorf("at most %v waited", most)
	}
}

// eachRow hands on every row of at most so many calls, each told by its
// number.
func eachRow(calls, longest int, see func(row []int)) {
	var longer func(row []int)
	longer = func(row []int) {
		see(row)
		if len(row) == longest {
			return
		}
		for c := range calls {
			longer(append(row[:len(row):len(row)], c))
		}
	}
	longer(nil)
}

// rowHolds makes a row of calls: with each id five, and a Clear.
func rowHolds(t *testing.T, row, ids []int) {
	p, want := New(), newTold()
	for _, c := range row {
		if c == 5*len(ids) {
			if l, is := p.Clear(), want.clear(); !slices.Equal(l, is) {
				t.Fatalf("%v: %v, not %v", row, l, is)
			}
			continue
		}
		id, kind := ids[c/5], c%5
		if kind == 4 {
			if ok := p.Cancel(id); ok != want.cancel(id) {
				t.Fatalf("%v: %v", row, ok)
			}
			continue
		}
		side, wait := 1+kind/2, kind%2 == 0
		other, ok, err := call(p, side, id, wait)
		if first, is, e := want.come(id, wait, side); other != first || ok != is || err != e {
			t.Fatalf("%v: %d, %v, error %d; not %d, %v, error %d", row, other, ok, err, first, is, e)
		}
	}
	state, list := want.state()
	if s, l := p.State(); s != state || !slices.Equal(l, list) {
		t.Fatalf("%v: %d, %v; not %d, %v", row, s, l, state, list)
	}
}

// Each row of at most four calls with three ids, and of at most five with two.
func TestEachShortRow(t *testing.T) {
	for _, c := range []struct {
		ids           []int
		longest, many int
	}{
		{[]int{63, 9, 0}, 4, 69905},
		{[]int{0, 63}, 5, 177156},
	} {
		count := 0
		eachRow(5*len(c.ids)+1, c.longest, func(row []int) {
			rowHolds(t, row, c.ids)
			count++
		})
		if count != c.many {
			t.Errorf("%v: %d rows", c.ids, count)
		}
	}
}
