package notice

import (
	"cmp"
	"fmt"
	"math"
	"slices"
	"testing"

	"donjon/api"
)

// told is a notice by the chapter's words, kept otherwise than the layer keeps
// it: the word bit by bit, who waits by when it came, and who is bound in a
// list of at most one.
type told struct {
	set   map[int]bool
	came  map[int]int
	count int
	binds []int
}

func newTold() *told { return &told{set: map[int]bool{}, came: map[int]int{}} }

func isThread(id int) bool {
	for k := range 64 {
		if id == k {
			return true
		}
	}
	return false
}

func (m *told) signal(badge uint64, bound bool) (int, uint64, bool) {
	if ids := m.list(); len(ids) > 0 {
		delete(m.came, ids[0])
		return ids[0], badge, true
	}
	for k := range 64 {
		if badge>>k%2 == 1 {
			m.set[k] = true
		}
	}
	if bound && len(m.binds) > 0 {
		w := m.word()
		m.set = map[int]bool{}
		return m.binds[0], w, true
	}
	return 0, 0, false
}

func (m *told) wait(id int, wait bool) (uint64, bool, api.Errno) {
	if !isThread(id) {
		return 0, false, api.ErrRange
	}
	if _, is := m.came[id]; is {
		return 0, false, api.ErrTwice
	}
	if w := m.word(); len(m.set) > 0 {
		m.set = map[int]bool{}
		return w, true, api.OK
	}
	if wait {
		m.count++
		m.came[id] = m.count
	}
	return 0, false, api.OK
}

func (m *told) cancel(id int) bool {
	_, is := m.came[id]
	delete(m.came, id)
	return is
}

func (m *told) bind(id int) api.Errno {
	if !isThread(id) {
		return api.ErrRange
	}
	if len(m.binds) > 0 {
		return api.ErrTwice
	}
	m.binds = []int{id}
	return api.OK
}

func (m *told) bound() (int, bool) {
	for _, id := range m.binds {
		return id, true
	}
	return 0, false
}

func (m *told) unbind() (int, bool) {
	id, is := m.bound()
	m.binds = nil
	return id, is
}

func (m *told) word() uint64 {
	w := uint64(0)
	for k := range m.set {
		w += 1 << k
	}
	return w
}

func (m *told) list() []int {
	ids := []int{}
	for id := range m.came {
		ids = append(ids, id)
	}
	slices.SortFunc(ids, func(a, b int) int { return cmp.Compare(m.came[a], m.came[b]) })
	return ids
}

// held is a notice, held against what is told of it at each call.
type held struct {
	t    *testing.T
	n    *Notice
	want *told
	did  []string
}

func newHeld(t *testing.T) *held {
	t.Helper()
	h := &held{t: t, n: New(), want: newTold()}
	h.same()
	return h
}

// newWaits is a notice for which threads wait.
func newWaits(t *testing.T, ids ...int) *held {
	t.Helper()
	h := newHeld(t)
	for _, id := range ids {
		h.wait(id, true)
	}
	h.is(0, ids...)
	return h
}

// newWord is a notice of which nobody was told yet.
func newWord(t *testing.T, word uint64) *held {
	t.Helper()
	h := newHeld(t)
	h.signal(word, false)
	h.is(word)
	return h
}

func (h *held) do(call string, args ...any) { h.did = append(h.did, fmt.Sprintf(call, args...)) }

func (h *held) signal(badge uint64, bound bool) {
	h.t.Helper()
	h.do("Signal(%#x, %v)", badge, bound)
	id, word, ok := h.n.Signal(badge, bound)
	if i, w, is := h.want.signal(badge, bound); id != i || word != w || ok != is {
		h.t.Fatalf("%v: %d, %#x, %v; not %d, %#x, %v", h.did, id, word, ok, i, w, is)
	}
	h.same()
}

func (h *held) wait(id int, wait bool) {
	h.t.Helper()
	h.do("Wait(%d, %v)", id, wait)
	word, ok, err := h.n.Wait(id, wait)
	if w, is, e := h.want.wait(id, wait); word != w || ok != is || err != e {
		h.t.Fatalf("%v: %#x, %v, error %d; not %#x, %v, error %d", h.did, word, ok, err, w, is, e)
	}
	h.same()
}

func (h *held) cancel(id int) {
	h.t.Helper()
	h.do("Cancel(%d)", id)
	if ok := h.n.Cancel(id); ok != h.want.cancel(id) {
		h.t.Fatalf("%v: %v", h.did, ok)
	}
	h.same()
}

func (h *held) bind(id int) {
	h.t.Helper()
	h.do("Bind(%d)", id)
	err := h.n.Bind(id)
	if e := h.want.bind(id); err != e {
		h.t.Fatalf("%v: error %d, not %d", h.did, err, e)
	}
	h.same()
}

func (h *held) unbind() {
	h.t.Helper()
	h.do("Unbind()")
	id, ok := h.n.Unbind()
	if i, is := h.want.unbind(); id != i || ok != is {
		h.t.Fatalf("%v: %d, %v; not %d, %v", h.did, id, ok, i, is)
	}
	h.same()
}

// same asks twice, because telling changes nothing.
func (h *held) same() {
	h.t.Helper()
	word, ids := h.want.word(), h.want.list()
	bound, is := h.want.bound()
	for range 2 {
		if w, l := h.n.State(); w != word || !slices.Equal(l, ids) {
			h.t.Fatalf("%v: %#x, %v; not %#x, %v", h.did, w, l, word, ids)
		}
		if b, ok := h.n.Bound(); b != bound || ok != is {
			h.t.Fatalf("%v: bound: %d, %v; not %d, %v", h.did, b, ok, bound, is)
		}
	}
}

// is holds what is told against numbers that a test writes out.
func (h *held) is(word uint64, ids ...int) {
	h.t.Helper()
	h.same()
	wantState(h.t, h.n, word, ids...)
}

// emptied wakes all that wait, or takes the word, and unbinds, so that what is
// kept shows itself.
func (h *held) emptied() {
	h.t.Helper()
	for k := range h.want.list() {
		h.signal(uint64(k)*3, k%2 == 0)
	}
	h.signal(1<<63, true)
	h.wait(5, false)
	h.is(0)
	h.unbind()
	h.unbind()
	h.signal(1, true)
	h.wait(5, false)
	h.is(0)
}

func wantState(t *testing.T, n *Notice, word uint64, ids ...int) {
	t.Helper()
	if w, l := n.State(); w != word || !slices.Equal(l, ids) {
		t.Fatalf("State: %#x, %v; not %#x, %v", w, l, word, ids)
	}
}

func wantSignal(t *testing.T, n *Notice, badge uint64, bound bool, id int, word uint64, is bool) {
	t.Helper()
	if i, w, ok := n.Signal(badge, bound); i != id || w != word || ok != is {
		t.Fatalf("Signal(%#x, %v): %d, %#x, %v; not %d, %#x, %v", badge, bound, i, w, ok, id, word, is)
	}
}

func wantWait(t *testing.T, n *Notice, id int, wait bool, word uint64, is bool, want api.Errno) {
	t.Helper()
	if w, ok, err := n.Wait(id, wait); w != word || ok != is || err != want {
		t.Fatalf("Wait(%d, %v): %#x, %v, error %d; not %#x, %v, error %d", id, wait, w, ok, err, word, is, want)
	}
}

func wantBind(t *testing.T, n *Notice, id int, want api.Errno) {
	t.Helper()
	if err := n.Bind(id); err != want {
		t.Fatalf("Bind(%d): error %d, not %d", id, err, want)
	}
}

func wantBound(t *testing.T, n *Notice, id int, is bool) {
	t.Helper()
	if i, ok := n.Bound(); i != id || ok != is {
		t.Fatalf("Bound: %d, %v; not %d, %v", i, ok, id, is)
	}
}

func wantUnbind(t *testing.T, n *Notice, id int, is bool) {
	t.Helper()
	if i, ok := n.Unbind(); i != id || ok != is {
		t.Fatalf("Unbind: %d, %v; not %d, %v", i, ok, id, is)
	}
}

// noIDs are below and above the ids, at the ends of the type, and such as are
// an id if their high bits are lost.
func noIDs() []int {
	l := []int{-1, -2, -3, -31, -32, -62, -63, 64, 65, 66, 67, 100, math.MinInt, math.MaxInt, math.MaxInt - 1}
	for k := 6; k < 63; k++ {
		for _, near := range []int{0, 3, 62, 63} {
			l = append(l, 1<<k+near, -1<<k+near)
		}
	}
	return l
}

// badges are none, each bit by itself, all, and some that share bits.
func badges() []uint64 {
	l := []uint64{0, 3, 5, 6, math.MaxUint64, math.MaxUint64 - 1, math.MaxInt64, 1<<63 + 1, 0xaaaaaaaaaaaaaaaa, 0x5555555555555555}
	for k := range 64 {
		l = append(l, 1<<k)
	}
	return l
}

// numbers are drawn by a rule, the same ones each time.
type numbers struct{ last uint64 }

func (n *numbers) below(m int) int {
	n.last = n.last*6364136223846793005 + 1442695040888963407
	return int((n.last >> 33) % uint64(m))
}

func (n *numbers) bool() bool { return n.below(2) == 0 }

// badge is of few bits mostly, so that it shows which ones are where; at times
// it is none, or all.
func (n *numbers) badge() uint64 {
	switch k := n.below(12); {
	case k < 8:
		return 1<<n.below(64) | 1<<n.below(64)
	case k < 10:
		return 1 << n.below(3)
	case k < 11:
		return 0
	default:
		return math.MaxUint64 >> n.below(2)
	}
}

// shuffled is all 64 ids in an order of their own.
func shuffled(seed uint64) []int {
	n := &numbers{last: seed}
	l := make([]int, 64)
	for k := range l {
		l[k] = k
	}
	for k := 63; k > 0; k-- {
		j := n.below(k + 1)
		l[k], l[j] = l[j], l[k]
	}
	return l
}

// scribble writes over a list that was handed out, and over the room behind
// its end.
func scribble(l []int) {
	l = l[:cap(l)]
	for k := range l {
		l[k] = 77
	}
	_ = append(l, 78)
}
