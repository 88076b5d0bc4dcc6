package endpoint

import (
	"cmp"
	"fmt"
	"math"
	"slices"
	"testing"

	"donjon/api"
)

// place is what somebody waits for (1: to send, 2: to receive), and who came
// how late: all that ever waited are counted.
type place struct{ side, came int }

// told is who waits by the chapter's words: nobody stands in a list, each is
// sorted anew by when it came.
type told struct {
	at    map[int]place
	count int
}

func newTold() *told { return &told{at: map[int]place{}} }

func isThread(id int) bool {
	for k := range 64 {
		if id == k {
			return true
		}
	}
	return false
}

func (m *told) list(side int) []int {
	ids := []int{}
	for id, p := range m.at {
		if p.side == side {
			ids = append(ids, id)
		}
	}
	slices.SortFunc(ids, func(a, b int) int { return cmp.Compare(m.at[a].came, m.at[b].came) })
	return ids
}

func (m *told) come(id int, wait bool, side int) (int, bool, api.Errno) {
	if !isThread(id) {
		return 0, false, api.ErrRange
	}
	if _, is := m.at[id]; is {
		return 0, false, api.ErrTwice
	}
	if others := m.list(3 - side); len(others) > 0 {
		delete(m.at, others[0])
		return others[0], true, api.OK
	}
	if wait {
		m.count++
		m.at[id] = place{side, m.count}
	}
	return 0, false, api.OK
}

func (m *told) cancel(id int) bool {
	_, is := m.at[id]
	delete(m.at, id)
	return is
}

func (m *told) clear() []int {
	_, ids := m.state()
	m.at = map[int]place{}
	return ids
}

func (m *told) state() (int, []int) {
	if ids := m.list(1); len(ids) > 0 {
		return 1, ids
	}
	if ids := m.list(2); len(ids) > 0 {
		return 2, ids
	}
	return 0, nil
}

// met is an endpoint, held against what is told of it at each call.
type met struct {
	t    *testing.T
	p    *Endpoint
	want *told
	did  []string
}

func newMet(t *testing.T) *met {
	t.Helper()
	w := &met{t: t, p: New(), want: newTold()}
	w.same()
	return w
}

// newWaits is an endpoint at which threads wait (side 1: to send, 2: to
// receive).
func newWaits(t *testing.T, side int, ids ...int) *met {
	t.Helper()
	w := newMet(t)
	for _, id := range ids {
		w.come(side, id, true)
	}
	if len(ids) == 0 {
		side = 0
	}
	w.is(side, ids...)
	return w
}

func (w *met) do(call string, args ...any) { w.did = append(w.did, fmt.Sprintf(call, args...)) }

// come is a Send (side 1) or a Recv (side 2).
func (w *met) come(side, id int, wait bool) {
	w.t.Helper()
	if side == 1 {
		w.send(id, wait)
	} else {
		w.recv(id, wait)
	}
}

func (w *met) send(id int, wait bool) {
	w.t.Helper()
	w.do("Send(%d, %v)", id, wait)
	other, ok, err := w.p.Send(id, wait)
	w.came(1, id, wait, other, ok, err)
}

func (w *met) recv(id int, wait bool) {
	w.t.Helper()
	w.do("Recv(%d, %v)", id, wait)
	other, ok, err := w.p.Recv(id, wait)
	w.came(2, id, wait, other, ok, err)
}

func (w *met) came(side, id int, wait bool, other int, ok bool, err api.Errno) {
	w.t.Helper()
	first, is, want := w.want.come(id, wait, side)
	if other != first || ok != is || err != want {
		w.t.Fatalf("%v: %d, %v, error %d; not %d, %v, error %d", w.did, other, ok, err, first, is, want)
	}
	w.same()
}

func (w *met) cancel(id int) {
	w.t.Helper()
	w.do("Cancel(%d)", id)
	want := w.want.cancel(id)
	if ok := w.p.Cancel(id); ok != want {
		w.t.Fatalf("%v: %v", w.did, ok)
	}
	w.same()
}

func (w *met) clear() {
	w.t.Helper()
	w.do("Clear()")
	want := w.want.clear()
	if ids := w.p.Clear(); !slices.Equal(ids, want) {
		w.t.Fatalf("%v: %v, not %v", w.did, ids, want)
	}
	w.is(0)
}

// same asks twice, because telling changes nothing.
func (w *met) same() {
	w.t.Helper()
	state, ids := w.want.state()
	for range 2 {
		if s, l := w.p.State(); s != state || !slices.Equal(l, ids) {
			w.t.Fatalf("%v: %d, %v; not %d, %v", w.did, s, l, state, ids)
		}
	}
}

// is holds what is told against numbers that a test writes out.
func (w *met) is(state int, ids ...int) {
	w.t.Helper()
	w.same()
	if s, l := w.p.State(); s != state || !slices.Equal(l, ids) {
		w.t.Fatalf("%v: %d, %v; not %d, %v", w.did, s, l, state, ids)
	}
}

// emptied lets a thread that doesn't wait meet all that do, if there is such
// a thread; else one is cancelled first.
func (w *met) emptied() {
	w.t.Helper()
	state, ids := w.want.state()
	if len(ids) == 64 {
		w.cancel(ids[0])
		ids = ids[1:]
	}
	who := 0
	for slices.Contains(ids, who) {
		who++
	}
	for range ids {
		w.come(3-state, who, true)
	}
	w.is(0)
}

// noIDs are below and above the ids, at the ends of the type, and such as are
// an id if their high bits are lost.
func noIDs() []int {
	l := []int{-1, -2, -3, -31, -32, -62, -63, 64, 65, 66, 67, 100, math.MinInt, math.MaxInt, math.MaxInt - 1}
	for k := 6; k < 63; k++ {
		for _, near := range []int{0, 3, 62, 63} {
			l = append(l, 1<<k+near, -1<<k+near)
		}
	}
	return l
}

// numbers are drawn by a rule, the same ones each time.
type numbers struct{ last uint64 }

func (n *numbers) below(m int) int {
	n.last = n.last*6364136223846793005 + 1442695040888963407
	return int((n.last >> 33) % uint64(m))
}

func (n *numbers) bool() bool { return n.below(2) == 0 }

// shuffled is all 64 ids in an order of their own.
func shuffled(seed uint64) []int {
	n := &numbers{last: seed}
	l := make([]int, 64)
	for k := range l {
		l[k] = k
	}
	for k := 63; k > 0; k-- {
		j := n.below(k + 1)
		l[k], l[j] = l[j], l[k]
	}
	return l
}

// scribble writes over a list that was handed out, and over the room behind
// its end.
func scribble(l []int) {
	l = l[:cap(l)]
	for k := range l {
		l[k] = 77
	}
	_ = append(l, 78)
}
