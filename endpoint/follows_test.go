package endpoint

import (
	"slices"
	"testing"

	"donjon/api"
)

// 18.3. Nothing here is held against the model: what follows is asked of the
// answers alone.

// watch is what was seen of an endpoint: who was let wait as the how-manieth,
// on which side, and whether it left.
type watch struct {
	t     *testing.T
	p     *Endpoint
	came  map[int]int // who waits, and when it came
	sides map[int]int // and what for
	count int
	last  int // when the one that was met last had come
	seen  struct{ met, left, refused, alone int }
}

func newWatch(t *testing.T) *watch {
	return &watch{t: t, p: New(), came: map[int]int{}, sides: map[int]int{}}
}

func (w *watch) leave(id int) {
	delete(w.came, id)
	delete(w.sides, id)
}

// come sends (side 1) or receives (side 2), and looks whom it met.
func (w *watch) come(side, id int, wait bool) {
	w.t.Helper()
	other, ok, err := call(w.p, side, id, wait)
	switch {
	case err != api.OK:
		w.seen.refused++
	case ok:
		w.meets(side, other)
	case wait:
		w.count++
		w.came[id], w.sides[id] = w.count, side
	default:
		w.seen.alone++
	}
}

// meets looks whether the one that is met waited for that, was not met
// already, and was the first one of all that wait.
func (w *watch) meets(side, other int) {
	w.t.Helper()
	if w.sides[other] != 3-side {
		w.t.Fatalf("side %d met %d, which waits for %d", side, other, w.sides[other])
	}
	if w.came[other] <= w.last {
		w.t.Fatalf("%d came ahead of who was met already", other)
	}
	for id, came := range w.came {
		if came < w.came[other] {
			w.t.Fatalf("%d was met ahead of %d", other, id)
		}
	}
	w.last = w.came[other]
	w.leave(other)
	w.seen.met++
}

func (w *watch) cancel(id int) {
	w.t.Helper()
	_, is := w.came[id]
	if ok := w.p.Cancel(id); ok != is {
		w.t.Fatalf("Cancel(%d): %v", id, ok)
	}
	if is {
		w.leave(id)
		w.seen.left++
	}
}

func (w *watch) clear() {
	w.t.Helper()
	ids := w.p.Clear()
	if len(ids) != len(w.came) {
		w.t.Fatalf("Clear: %v, where %d waited", ids, len(w.came))
	}
	for _, id := range ids {
		if w.came[id] == 0 {
			w.t.Fatalf("Clear: %v, where %d did not wait", ids, id)
		}
		w.leave(id)
		w.seen.left++
	}
}

// look holds that all that wait are of one side, each there once, in the
// order in which they came, and nobody else.
func (w *watch) look() {
	w.t.Helper()
	state, ids := w.p.State()
	if (state == Idle) != (len(ids) == 0) || len(ids) != len(w.came) {
		w.t.Fatalf("state %d: %v, where %d wait", state, ids, len(w.came))
	}
	last := 0
	for _, id := range ids {
		if w.sides[id] != state {
			w.t.Fatalf("state %d: %v, where %d waits for %d", state, ids, id, w.sides[id])
		}
		if w.came[id] <= last {
			w.t.Fatalf("%v: %d came ahead of the one ahead of it", ids, id)
		}
		last = w.came[id]
	}
}

// Whatever is called.
func TestEachIsMetOnceInOrder(t *testing.T) {
	var met, left, refused, alone, both int
	for seed := range uint64(120) {
		n, w := &numbers{last: 1000 + seed}, newWatch(t)
		states := map[int]int{}
		for k := range 600 {
			id := n.below(1+int(seed)%64+4) - 2
			side := 1 + n.below(2)
			if n.bool() { // so that at times many of one side come
				side = 1 + k/60%2
			}
			switch c := n.below(50); {
			case c < 42:
				w.come(side, id, n.below(4) > 0)
			case c < 49:
				w.cancel(id)
			default:
				w.clear()
			}
			w.look()
			state, _ := w.p.State()
			states[state]++
		}
		if len(states) == 3 {
			both++
		}
		met, left = met+w.seen.met, left+w.seen.left
		refused, alone = refused+w.seen.refused, alone+w.seen.alone
	}
	if met < 5000 || left < 2000 || refused < 2000 || alone < 2000 || both < 100 {
		t.Errorf("%d met, %d left, %d refused, %d alone, %d of both sides", met, left, refused, alone, both)
	}
}

// All that waited are met once by as many of the other side, and then nobody
// is there; whoever left between is not met.
func TestWhoLeftIsNotMet(t *testing.T) {
	all := shuffled(16)
	eachSide(func(side int) {
		for many := 1; many <= 63; many++ {
			p := New()
			for _, id := range all[:many] {
				call(p, side, id, true)
			}
			var want, got []int
			for k, id := range all[:many] {
				if k%3 == many%3 {
					p.Cancel(id)
				} else {
					want = append(want, id)
				}
			}
			for {
				other, ok, err := call(p, 3-side, all[63], false)
				if err != api.OK {
					t.Fatalf("%d: error %d", many, err)
				}
				if !ok {
					break
				}
				got = append(got, other)
				if len(got) > many {
					t.Fatalf("%d waited, and more are met: %v", many, got)
				}
			}
			if !slices.Equal(got, want) {
				t.Fatalf("%v were met, not %v", got, want)
			}
		}
	})
}

// Whoever is refused waits no second time: it is met once.
func TestWhoIsRefusedIsMetOnce(t *testing.T) {
	eachSide(func(side int) {
		p := New()
		for range 3 {
			for _, id := range []int{4, 0, 63} {
				call(p, side, id, true)
				call(p, 3-side, id, true)
			}
		}
		for _, id := range []int{4, 0, 63} {
			wantCall(t, p, 3-side, 20, false, id, true, api.OK)
		}
		wantCall(t, p, 3-side, 20, false, 0, false, api.OK)
		wantState(t, p, Idle)
	})
}

// Whoever sends and whoever receives never both wait, also where those that
// come could do so all at once.
func TestNeverDoBothSidesWait(t *testing.T) {
	for rows := range 1 << 12 {
		p := New()
		waits := [3]int{}
		for k := range 12 {
			side := 1 + rows>>k&1
			if _, ok, err := call(p, side, k, true); err != api.OK {
				t.Fatalf("%b: %d: error %d", rows, k, err)
			} else if ok {
				waits[3-side]--
			} else {
				waits[side]++
			}
			state, ids := p.State()
			if waits[1] < 0 || waits[2] < 0 || waits[1] > 0 && waits[2] > 0 {
				t.Fatalf("%b: %d wait to send, and %d to receive", rows, waits[1], waits[2])
			}
			if len(ids) != waits[1]+waits[2] || waits[state] != len(ids) {
				t.Fatalf("%b: state %d, %v; but %v", rows, state, ids, waits)
			}
		}
	}
}
