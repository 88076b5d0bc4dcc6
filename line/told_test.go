package line

import (
	"cmp"
	"fmt"
	"math"
	"slices"
	"testing"

	"donjon/api"
)

// place is at which level somebody is, and who came how late: all that ever
// came are counted.
type place struct{ level, came int }

// told is who is there by the chapter's words: nobody stands in a list, each
// is sorted anew by when it came. A Line's ids are all at one level.
type told struct {
	at    map[int]place
	count int
}

func newTold() *told { return &told{at: map[int]place{}} }

func oneOf(n, many int) bool {
	for k := range many {
		if n == k {
			return true
		}
	}
	return false
}

func (m *told) put(id, level int) api.Errno {
	if !oneOf(id, 64) || !oneOf(level, 8) {
		return api.ErrRange
	}
	if _, is := m.at[id]; is {
		return api.ErrTwice
	}
	m.count++
	m.at[id] = place{level, m.count}
	return api.OK
}

func (m *told) drop(id int) bool {
	_, is := m.at[id]
	delete(m.at, id)
	return is
}

func (m *told) list(level int) []int {
	ids := []int{}
	for id, p := range m.at {
		if p.level == level {
			ids = append(ids, id)
		}
	}
	slices.SortFunc(ids, func(a, b int) int { return cmp.Compare(m.at[a].came, m.at[b].came) })
	return ids
}

// all is who is there, the higher level first.
func (m *told) all() []int {
	ids := []int{}
	for _, level := range []int{7, 6, 5, 4, 3, 2, 1, 0} {
		ids = append(ids, m.list(level)...)
	}
	return ids
}

func (m *told) first() (int, bool) {
	ids := m.all()
	if len(ids) == 0 {
		return 0, false
	}
	return ids[0], true
}

// levels is a sum: the lowest level is 1, and each higher one twice as much.
func (m *told) levels() uint64 {
	sum := uint64(0)
	for level, worth := range []uint64{1, 2, 4, 8, 16, 32, 64, 128} {
		if len(m.list(level)) > 0 {
			sum += worth
		}
	}
	return sum
}

// waiting is a Line, held against what is told of it at each call.
type waiting struct {
	t    *testing.T
	l    *Line
	want *told
	did  []string
}

func newWaiting(t *testing.T, ids ...int) *waiting {
	t.Helper()
	w := &waiting{t: t, l: New(), want: newTold()}
	w.same()
	for _, id := range ids {
		w.push(id)
	}
	return w
}

func (w *waiting) do(call string, args ...any) { w.did = append(w.did, fmt.Sprintf(call, args...)) }

func (w *waiting) push(id int) {
	w.t.Helper()
	w.do("Push(%d)", id)
	want := w.want.put(id, 0)
	if err := w.l.Push(id); err != want {
		w.t.Fatalf("%v: error %d, not %d", w.did, err, want)
	}
	w.same()
}

func (w *waiting) pop() {
	w.t.Helper()
	w.do("Pop()")
	want, is := w.want.first()
	w.want.drop(want)
	if id, ok := w.l.Pop(); id != want || ok != is {
		w.t.Fatalf("%v: %d, %v; not %d, %v", w.did, id, ok, want, is)
	}
	w.same()
}

func (w *waiting) remove(id int) {
	w.t.Helper()
	w.do("Remove(%d)", id)
	want := w.want.drop(id)
	if ok := w.l.Remove(id); ok != want {
		w.t.Fatalf("%v: %v", w.did, ok)
	}
	w.same()
}

// same asks twice, because telling changes nothing.
func (w *waiting) same() {
	w.t.Helper()
	want := w.want.list(0)
	for range 2 {
		if l := w.l.List(); !slices.Equal(l, want) {
			w.t.Fatalf("%v: %v, not %v", w.did, l, want)
		}
	}
}

// is holds what is told against a list that a test writes out.
func (w *waiting) is(ids ...int) {
	w.t.Helper()
	w.same()
	if l := w.l.List(); !slices.Equal(l, ids) {
		w.t.Fatalf("%v: %v, not %v", w.did, l, ids)
	}
}

// emptied pops all that is there, and once more.
func (w *waiting) emptied() {
	w.t.Helper()
	for range len(w.want.at) + 1 {
		w.pop()
	}
	w.is()
}

// turns is a Ready, held against what is told of it at each call.
type turns struct {
	t    *testing.T
	r    *Ready
	want *told
	did  []string
}

// newTurns puts ids with their levels.
func newTurns(t *testing.T, puts ...[2]int) *turns {
	t.Helper()
	w := &turns{t: t, r: NewReady(), want: newTold()}
	w.same()
	for _, p := range puts {
		w.put(p[0], p[1])
	}
	return w
}

func (w *turns) do(call string, args ...any) { w.did = append(w.did, fmt.Sprintf(call, args...)) }

func (w *turns) put(id, level int) {
	w.t.Helper()
	w.do("Put(%d, %d)", id, level)
	want := w.want.put(id, level)
	if err := w.r.Put(id, level); err != want {
		w.t.Fatalf("%v: error %d, not %d", w.did, err, want)
	}
	w.same()
}

func (w *turns) drop(id int) {
	w.t.Helper()
	w.do("Drop(%d)", id)
	want := w.want.drop(id)
	if ok := w.r.Drop(id); ok != want {
		w.t.Fatalf("%v: %v", w.did, ok)
	}
	w.same()
}

// same asks twice, because telling changes nothing: who is next stays.
func (w *turns) same() {
	w.t.Helper()
	first, is := w.want.first()
	levels := w.want.levels()
	for range 2 {
		if id, ok := w.r.Next(); id != first || ok != is {
			w.t.Fatalf("%v: Next is %d, %v; not %d, %v", w.did, id, ok, first, is)
		}
		if l := w.r.Levels(); l != levels {
			w.t.Fatalf("%v: Levels is %d, not %d", w.did, l, levels)
		}
		for level := -1; level <= 8; level++ {
			if l, want := w.r.List(level), w.want.list(level); !slices.Equal(l, want) {
				w.t.Fatalf("%v: List(%d) is %v, not %v", w.did, level, l, want)
			}
		}
	}
}

// is holds what is told against numbers that a test writes out; somebody is
// next.
func (w *turns) is(next int, levels uint64) {
	w.t.Helper()
	w.same()
	if id, ok := w.r.Next(); id != next || !ok {
		w.t.Fatalf("%v: Next is %d, %v; not %d", w.did, id, ok, next)
	}
	if l := w.r.Levels(); l != levels {
		w.t.Fatalf("%v: Levels is %d, not %d", w.did, l, levels)
	}
}

func (w *turns) has(level int, ids ...int) {
	w.t.Helper()
	if l := w.r.List(level); !slices.Equal(l, ids) {
		w.t.Fatalf("%v: List(%d) is %v, not %v", w.did, level, l, ids)
	}
}

func (w *turns) isEmpty() {
	w.t.Helper()
	w.same()
	if id, ok := w.r.Next(); id != 0 || ok {
		w.t.Fatalf("%v: Next is %d, %v", w.did, id, ok)
	}
	if l := w.r.Levels(); l != 0 {
		w.t.Fatalf("%v: Levels is %d", w.did, l)
	}
}

// emptied drops who is next until there is none.
func (w *turns) emptied() {
	w.t.Helper()
	for _, id := range w.want.all() {
		if next, ok := w.r.Next(); next != id || !ok {
			w.t.Fatalf("%v: Next is %d, %v; not %d", w.did, next, ok, id)
		}
		w.drop(id)
	}
	w.isEmpty()
}

// noIDs are below and above the ids, at the ends of the type, and such as are
// an id if their high bits are lost.
func noIDs() []int {
	l := []int{-1, -2, -3, -31, -32, -62, -63, 64, 65, 66, 67, 100, math.MinInt, math.MaxInt, math.MaxInt - 1}
	for k := 6; k < 63; k++ {
		for _, near := range []int{0, 3, 62, 63} {
			l = append(l, 1<<k+near, -1<<k+near)
		}
	}
	return l
}

// noLevels are the same of the levels.
func noLevels() []int {
	l := []int{-1, -2, -3, -6, -7, 8, 9, 10, 63, 64, math.MinInt, math.MaxInt, math.MaxInt - 1}
	for k := 3; k < 63; k++ {
		for _, near := range []int{0, 1, 5, 7} {
			l = append(l, 1<<k+near, -1<<k+near)
		}
	}
	return l
}

// numbers are drawn by a rule, the same ones each time.
type numbers struct{ last uint64 }

func (n *numbers) below(m int) int {
	n.last = n.last*6364136223846793005 + 1442695040888963407
	return int((n.last >> 33) % uint64(m))
}

// upTo is the numbers from 0 on, that many.
func upTo(many int) []int {
	l := make([]int, many)
	for k := range l {
		l[k] = k
	}
	return l
}

// shuffled is all 64 ids in another order.
func shuffled(n *numbers) []int {
	l := upTo(64)
	for k := 63; k > 0; k-- {
		j := n.below(k + 1)
		l[k], l[j] = l[j], l[k]
	}
	return l
}

// scribble writes over a list that was handed out, and over the room behind
// its end.
func scribble(l []int) {
	l = l[:cap(l)]
	for k := range l {
		l[k] = 77
	}
	_ = append(l, 78)
}
