package irq

import (
	"math"
	"testing"

	"donjon/api"
)

// told is the lines by the chapter's words, kept otherwise than the layer keeps
// them: when each of the things last happened to a line, told by a count of all
// that happened; what a line is at is found anew each time.
type told struct {
	count                int
	raised, taken, acked [8]int
	owner                map[int]int
}

func newTold() *told { return &told{owner: map[int]int{}} }

func oneOf(n, many int) bool {
	for k := range many {
		if n == k {
			return true
		}
	}
	return false
}

func (m *told) later() int {
	m.count++
	return m.count
}

func (m *told) isPending(n int) bool { return m.raised[n] > m.taken[n] }

func (m *told) isMasked(n int) bool {
	_, owned := m.owner[n]
	return !owned || m.taken[n] > m.acked[n]
}

func (m *told) own(n, domain int) api.Errno {
	if !oneOf(n, 8) || !oneOf(domain, 4) {
		return api.ErrRange
	}
	if _, is := m.owner[n]; is {
		return api.ErrTwice
	}
	m.owner[n] = domain
	return api.OK
}

func (m *told) raise(n int) api.Errno {
	if !oneOf(n, 8) {
		return api.ErrRange
	}
	m.raised[n] = m.later()
	return api.OK
}

// next goes from the last line to the first one, and keeps the one it saw last.
func (m *told) next(domain int) (int, bool) {
	least, is := 0, false
	for n := 7; n >= 0; n-- {
		owner, owned := m.owner[n]
		if owned && owner == domain && m.isPending(n) && !m.isMasked(n) {
			least, is = n, true
		}
	}
	if is {
		m.taken[least] = m.later()
	}
	return least, is
}

func (m *told) ack(n int) api.Errno {
	if !oneOf(n, 8) {
		return api.ErrRange
	}
	if _, owned := m.owner[n]; !owned || !m.isMasked(n) {
		return api.ErrState
	}
	m.acked[n] = m.later()
	return api.OK
}

// word is the sum of what the lines of which that is so stand for.
func word(is func(n int) bool) uint64 {
	w, worth := uint64(0), uint64(1)
	for n := range 8 {
		if is(n) {
			w += worth
		}
		worth *= 2
	}
	return w
}

// call is one that was made, for what a failing test tells.
type call struct {
	name string
	args [2]int
}

// held is an Irq, held against what is told of it at each call.
type held struct {
	t    *testing.T
	q    *Irq
	want *told
	did  []call
}

func newHeld(t *testing.T) *held {
	t.Helper()
	h := &held{t: t, q: made(t), want: newTold()}
	h.same()
	return h
}

func made(t *testing.T) *Irq {
	t.Helper()
	q := New()
	if q == nil {
		t.Fatal("New: none")
	}
	return q
}

func (h *held) do(name string, a, b int) { h.did = append(h.did, call{name, [2]int{a, b}}) }

func (h *held) own(n, domain int) {
	h.t.Helper()
	h.do("Own", n, domain)
	want := h.want.own(n, domain)
	if err := h.q.Own(n, domain); err != want {
		h.t.Fatalf("%v: error %d, not %d", h.did, err, want)
	}
	h.same()
}

func (h *held) raise(n int) {
	h.t.Helper()
	h.do("Raise", n, 0)
	want := h.want.raise(n)
	if err := h.q.Raise(n); err != want {
		h.t.Fatalf("%v: error %d, not %d", h.did, err, want)
	}
	h.same()
}

func (h *held) next(domain int) {
	h.t.Helper()
	h.do("Next", domain, 0)
	least, is := h.want.next(domain)
	if n, ok := h.q.Next(domain); n != least || ok != is {
		h.t.Fatalf("%v: %d, %v; not %d, %v", h.did, n, ok, least, is)
	}
	h.same()
}

func (h *held) ack(n int) {
	h.t.Helper()
	h.do("Ack", n, 0)
	want := h.want.ack(n)
	if err := h.q.Ack(n); err != want {
		h.t.Fatalf("%v: error %d, not %d", h.did, err, want)
	}
	h.same()
}

// same asks twice, because telling changes nothing.
func (h *held) same() {
	h.t.Helper()
	pending, masked := word(h.want.isPending), word(h.want.isMasked)
	for range 2 {
		if w := h.q.Pending(); w != pending {
			h.t.Fatalf("%v: Pending is %#x, not %#x", h.did, w, pending)
		}
		if w := h.q.Masked(); w != masked {
			h.t.Fatalf("%v: Masked is %#x, not %#x", h.did, w, masked)
		}
		for n := -1; n <= 8; n++ {
			owner, is := h.want.owner[n]
			if d, ok := h.q.Owner(n); d != owner || ok != is {
				h.t.Fatalf("%v: Owner(%d) is %d, %v; not %d, %v", h.did, n, d, ok, owner, is)
			}
		}
	}
}

// emptied lets each domain take all that it may, and once more behind an Ack of
// all; then each line is owned, and taken as often as it may be. So what is
// kept of a line shows itself.
func (h *held) emptied() {
	h.t.Helper()
	h.takeAll()
	h.ackAll()
	h.takeAll()
	for n := range 8 {
		h.own(n, n%4)
	}
	h.takeAll()
	h.ackAll()
	h.takeAll()
	for n := range 8 {
		h.raise(n)
	}
	h.takeAll()
}

func (h *held) takeAll() {
	h.t.Helper()
	for domain := range 4 {
		for range 9 {
			h.next(domain)
		}
	}
}

func (h *held) ackAll() {
	h.t.Helper()
	for n := range 8 {
		h.ack(n)
	}
}

// is holds both words against those that a test writes out.
func (h *held) is(pending, masked uint64) {
	h.t.Helper()
	h.same()
	wantWords(h.t, h.q, pending, masked)
}

// state is what a line is at.
type state struct {
	owner           int // -1: nobody
	masked, pending bool
}

// eachState hands on all that there are: a line that nobody owns is masked.
func eachState(see func(s state)) {
	for _, pending := range []bool{false, true} {
		see(state{-1, true, pending})
		for domain := range 4 {
			see(state{domain, false, pending})
			see(state{domain, true, pending})
		}
	}
}

func (n *numbers) state() state {
	owner := n.below(5) - 1
	return state{owner, owner < 0 || n.below(2) == 0, n.below(2) == 0}
}

// brought is lines that are at these states. On the way to it nothing is
// looked at; at its end all is.
func brought(t *testing.T, states [8]state) *held {
	t.Helper()
	h := &held{t: t, q: made(t), want: newTold()}
	for n, s := range states {
		if s.owner < 0 {
			continue
		}
		h.do("Own", n, s.owner)
		h.q.Own(n, s.owner)
		h.want.own(n, s.owner)
		if s.masked {
			// No other line is pending yet, so that this one is taken.
			h.do("Raise and Next", n, s.owner)
			h.q.Raise(n)
			h.q.Next(s.owner)
			h.want.raise(n)
			h.want.next(s.owner)
		}
	}
	for n, s := range states {
		if s.pending {
			h.do("Raise", n, 0)
			h.q.Raise(n)
			h.want.raise(n)
		}
	}
	h.same()
	return h
}

// eachCall hands on all whose numbers are within the bounds, or beside them.
func eachCall(see func(do func(h *held))) {
	for n := -1; n <= 8; n++ {
		see(func(h *held) { h.raise(n) })
		see(func(h *held) { h.ack(n) })
		for domain := -1; domain <= 4; domain++ {
			see(func(h *held) { h.own(n, domain) })
		}
	}
	for domain := -1; domain <= 4; domain++ {
		see(func(h *held) { h.next(domain) })
	}
}

func wantOwn(t *testing.T, q *Irq, n, domain int, want api.Errno) {
	t.Helper()
	if err := q.Own(n, domain); err != want {
		t.Fatalf("Own(%d, %d): error %d, not %d", n, domain, err, want)
	}
}

func wantRaise(t *testing.T, q *Irq, n int, want api.Errno) {
	t.Helper()
	if err := q.Raise(n); err != want {
		t.Fatalf("Raise(%d): error %d, not %d", n, err, want)
	}
}

func wantNext(t *testing.T, q *Irq, domain, n int) {
	t.Helper()
	if k, ok := q.Next(domain); k != n || !ok {
		t.Fatalf("Next(%d): %d, %v; not %d, true", domain, k, ok, n)
	}
}

func wantNone(t *testing.T, q *Irq, domain int) {
	t.Helper()
	if k, ok := q.Next(domain); k != 0 || ok {
		t.Fatalf("Next(%d): %d, %v; not 0, false", domain, k, ok)
	}
}

func wantAck(t *testing.T, q *Irq, n int, want api.Errno) {
	t.Helper()
	if err := q.Ack(n); err != want {
		t.Fatalf("Ack(%d): error %d, not %d", n, err, want)
	}
}

func wantWords(t *testing.T, q *Irq, pending, masked uint64) {
	t.Helper()
	if w := q.Pending(); w != pending {
		t.Fatalf("Pending: %#x, not %#x", w, pending)
	}
	if w := q.Masked(); w != masked {
		t.Fatalf("Masked: %#x, not %#x", w, masked)
	}
}

func wantOwner(t *testing.T, q *Irq, n, domain int, is bool) {
	t.Helper()
	if d, ok := q.Owner(n); d != domain || ok != is {
		t.Fatalf("Owner(%d): %d, %v; not %d, %v", n, d, ok, domain, is)
	}
}

// far is numbers at the ends of the type, and such as are below 2^bits if
// their high bits are lost.
func far(bits int) []int {
	l := []int{math.MinInt, math.MinInt + 1, math.MaxInt - 1, math.MaxInt}
	for k := bits; k < 63; k++ {
		for _, near := range []int{0, 1, 1<<bits - 1} {
			l = append(l, 1<<k+near, -1<<k-near)
		}
	}
	return l
}

// noLines are below and above the lines, near and far; likewise the others.
func noLines() []int { return append(far(3), -1, -2, -3, -7, -8, 8, 9, 10, 15, 16, 63, 64) }

func noDomains() []int { return append(far(2), -1, -2, -3, -4, 4, 5, 6, 7, 8, 63) }

// numbers are drawn by a rule, the same ones each time.
type numbers struct{ last uint64 }

func (n *numbers) below(m int) int {
	n.last = n.last*6364136223846793005 + 1442695040888963407
	return int((n.last >> 33) % uint64(m))
}

// shuffled is all eight lines in an order of their own.
func (n *numbers) shuffled() []int {
	l := []int{0, 1, 2, 3, 4, 5, 6, 7}
	for k := 7; k > 0; k-- {
		j := n.below(k + 1)
		l[k], l[j] = l[j], l[k]
	}
	return l
}

// eachRow hands on every row of that many calls, each told by its number.
func eachRow(calls, long int, see func(row []int)) {
	row := make([]int, long)
	for {
		see(row)
		at := 0
		for at < long && row[at] == calls-1 {
			row[at] = 0
			at++
		}
		if at == long {
			return
		}
		row[at]++
	}
}
