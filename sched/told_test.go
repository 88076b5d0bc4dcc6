package sched

import (
	"fmt"
	"math"
	"slices"
	"testing"

	"donjon/api"
)

// place is where somebody is ready, and how late it came there: all that ever
// came are counted.
type place struct{ domain, level, came int }

// moment is one tick of a schedule: its entry, and how many are left.
type moment struct{ entry, left, domain int }

// told is whose turn it is by the chapter's words: each tick of the schedule
// stands by itself, and those that went by are counted; nobody stands in a
// list, who is ahead is found anew each time.
type told struct {
	moments []moment
	ticks   int
	at      map[int]place
	count   int
}

func newTold(times []Time) *told {
	m := &told{at: map[int]place{}}
	for entry, t := range times {
		for left := t.Ticks; left > 0; left-- {
			m.moments = append(m.moments, moment{entry, left, t.Domain})
		}
	}
	return m
}

func oneOf(n, many int) bool {
	for k := range many {
		if n == k {
			return true
		}
	}
	return false
}

func (m *told) now() moment { return m.moments[m.ticks%len(m.moments)] }

func (m *told) tick() bool {
	last := m.now().left == 1
	m.ticks++
	return last
}

func (m *told) put(id, domain, level int) api.Errno {
	if !oneOf(id, 64) || !oneOf(domain, 4) || !oneOf(level, 8) {
		return api.ErrRange
	}
	if _, is := m.at[id]; is {
		return api.ErrTwice
	}
	m.count++
	m.at[id] = place{domain, level, m.count}
	return api.OK
}

func (m *told) drop(id int) bool {
	_, is := m.at[id]
	delete(m.at, id)
	return is
}

func (m *told) yield(id int) bool {
	p, is := m.at[id]
	if is {
		m.count++
		m.at[id] = place{p.domain, p.level, m.count}
	}
	return is
}

// pick is who is ready in the domain that runs and has nobody ahead.
func (m *told) pick() (int, bool) {
	first, best, is := 0, place{}, false
	for id, p := range m.at {
		if p.domain != m.now().domain {
			continue
		}
		if !is || p.level > best.level || p.level == best.level && p.came < best.came {
			first, best, is = id, p, true
		}
	}
	return first, is
}

// held is a Sched, held against what is told of it at each call.
type held struct {
	t    *testing.T
	s    *Sched
	want *told
	did  []string
}

// newHeld puts ids with their domains and levels.
func newHeld(t *testing.T, times []Time, puts ...[3]int) *held {
	t.Helper()
	h := &held{t: t, s: made(t, times), want: newTold(times)}
	h.same()
	for _, p := range puts {
		h.put(p[0], p[1], p[2])
	}
	return h
}

func made(t *testing.T, times []Time) *Sched {
	t.Helper()
	s, err := New(times)
	if err != api.OK || s == nil {
		t.Fatalf("New(%v): %v, error %d", times, s, err)
	}
	return s
}

func (h *held) do(call string, args ...any) { h.did = append(h.did, fmt.Sprintf(call, args...)) }

func (h *held) put(id, domain, level int) {
	h.t.Helper()
	h.do("Put(%d, %d, %d)", id, domain, level)
	want := h.want.put(id, domain, level)
	if err := h.s.Put(id, domain, level); err != want {
		h.t.Fatalf("%v: error %d, not %d", h.did, err, want)
	}
	h.same()
}

func (h *held) drop(id int) {
	h.t.Helper()
	h.do("Drop(%d)", id)
	want := h.want.drop(id)
	if ok := h.s.Drop(id); ok != want {
		h.t.Fatalf("%v: %v", h.did, ok)
	}
	h.same()
}

func (h *held) yield(id int) {
	h.t.Helper()
	h.do("Yield(%d)", id)
	want := h.want.yield(id)
	if ok := h.s.Yield(id); ok != want {
		h.t.Fatalf("%v: %v", h.did, ok)
	}
	h.same()
}

func (h *held) tick() {
	h.t.Helper()
	h.do("Tick()")
	want := h.want.tick()
	if ok := h.s.Tick(); ok != want {
		h.t.Fatalf("%v: %v", h.did, ok)
	}
	h.same()
}

// refused are Puts that a test names with their error; nothing comes of them.
func (h *held) refused(id, domain, level int, want api.Errno) {
	h.t.Helper()
	if err := h.s.Put(id, domain, level); err != want {
		h.t.Fatalf("%v: Put(%d, %d, %d): error %d, not %d", h.did, id, domain, level, err, want)
	}
}

// same asks twice, because telling changes nothing: who is picked stays.
func (h *held) same() {
	h.t.Helper()
	now := h.want.now()
	first, is := h.want.pick()
	for range 2 {
		if id, ok := h.s.Pick(); id != first || ok != is {
			h.t.Fatalf("%v: Pick is %d, %v; not %d, %v", h.did, id, ok, first, is)
		}
		if entry, left := h.s.Now(); entry != now.entry || left != now.left {
			h.t.Fatalf("%v: Now is %d, %d; not %d, %d", h.did, entry, left, now.entry, now.left)
		}
		if d := h.s.Domain(); d != now.domain {
			h.t.Fatalf("%v: Domain is %d, not %d", h.did, d, now.domain)
		}
	}
}

// there looks who is ready, of all ids: of who is not Drop is false, and who
// is may not be put again. Neither changes anything.
func (h *held) there() {
	h.t.Helper()
	for id := range 64 {
		if _, is := h.want.at[id]; is {
			h.refused(id, id%4, id/8, api.ErrTwice)
		} else if h.s.Drop(id) || h.s.Yield(id) {
			h.t.Fatalf("%v: %d is there", h.did, id)
		}
	}
	h.same()
}

// picks holds who is picked against an id that a test writes out.
func (h *held) picks(id int) {
	h.t.Helper()
	h.same()
	if i, ok := h.s.Pick(); i != id || !ok {
		h.t.Fatalf("%v: Pick is %d, %v; not %d", h.did, i, ok, id)
	}
}

func (h *held) picksNobody() {
	h.t.Helper()
	h.same()
	if i, ok := h.s.Pick(); i != 0 || ok {
		h.t.Fatalf("%v: Pick is %d, %v; not 0, false", h.did, i, ok)
	}
}

// dropsInOrder drops who is picked, until nobody is; these must be they.
func (h *held) dropsInOrder(ids ...int) {
	h.t.Helper()
	for _, id := range ids {
		h.picks(id)
		h.drop(id)
	}
	h.picksNobody()
}

// emptied drops who is picked, domain by domain, for a whole round of the
// schedule, so that the order in which all are kept shows itself; then all of
// those whose domains have no entry.
func (h *held) emptied() {
	h.t.Helper()
	h.there()
	for range h.want.moments {
		for id, is := h.want.pick(); is; id, is = h.want.pick() {
			h.drop(id)
		}
		h.tick()
	}
	for id := range 64 {
		h.drop(id)
	}
	h.there()
}

// until lets ticks go by until a domain runs.
func (h *held) until(domain int) {
	h.t.Helper()
	for range h.want.moments {
		if h.want.now().domain == domain {
			return
		}
		h.tick()
	}
	h.t.Fatalf("the domain %d has no entry", domain)
}

// round is a schedule in which each domain has one tick, from this one on.
func round(domain int) []Time {
	times := make([]Time, 4)
	for k := range times {
		times[k] = Time{(domain + k) % 4, 1}
	}
	return times
}

// entries is a schedule of so many, whose domains and ticks are mixed; the
// first one has one tick.
func entries(many int) []Time {
	times := make([]Time, many)
	for k := range times {
		times[k] = Time{(k + many) % 4, 1 + k*3%5}
	}
	return times
}

func wantNoSched(t *testing.T, times []Time) {
	t.Helper()
	if s, err := New(times); s != nil || err != api.ErrRange {
		t.Fatalf("New of %d entries, %v: %v, error %d", len(times), times[:min(len(times), 20)], s, err)
	}
}

// far is numbers at the ends of the type, and such as are below 2^bits if
// their high bits are lost.
func far(bits int) []int {
	l := []int{math.MinInt, math.MinInt + 1, math.MaxInt - 1, math.MaxInt}
	for k := bits; k < 63; k++ {
		for _, near := range []int{0, 1, 1<<bits - 1} {
			l = append(l, 1<<k+near, -1<<k-near)
		}
	}
	return l
}

// noIDs are below and above the ids, near and far; likewise the others.
func noIDs() []int { return append(far(6), -1, -2, -3, -63, -64, 64, 65, 66, 100) }

func noDomains() []int { return append(far(2), -1, -2, -3, -4, 4, 5, 6, 7, 63) }

func noLevels() []int { return append(far(3), -1, -2, -7, -8, 8, 9, 10, 63) }

func noTicks() []int { return append(far(10), 0, -1, -2, -1000, 1001, 1002, 1023, 1024, 2000) }

// numbers are drawn by a rule, the same ones each time.
type numbers struct{ last uint64 }

func (n *numbers) below(m int) int {
	n.last = n.last*6364136223846793005 + 1442695040888963407
	return int((n.last >> 33) % uint64(m))
}

// times is a schedule of at most that many entries, each of at most that many
// ticks.
func (n *numbers) times(most, ticks int) []Time {
	times := make([]Time, 1+n.below(most))
	for k := range times {
		times[k] = Time{n.below(4), 1 + n.below(ticks)}
	}
	return times
}

// shuffled is all 64 ids in an order of their own.
func shuffled(seed uint64) []int {
	n := &numbers{last: seed}
	l := make([]int, 64)
	for k := range l {
		l[k] = k
	}
	for k := 63; k > 0; k-- {
		j := n.below(k + 1)
		l[k], l[j] = l[j], l[k]
	}
	return l
}

// eachRow hands on every row of at most so many calls, each told by its
// number.
func eachRow(calls, longest int, see func(row []int)) {
	rows := [][]int{nil}
	for len(rows) > 0 {
		row := rows[len(rows)-1]
		rows = rows[:len(rows)-1]
		see(row)
		if len(row) == longest {
			continue
		}
		for c := range calls {
			rows = append(rows, append(slices.Clone(row), c))
		}
	}
}
