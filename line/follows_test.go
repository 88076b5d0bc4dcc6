package line

import (
	"testing"

	"donjon/api"
)

// 17.3

// arrivals counts up all that came, and tells who came as the how-manieth.
type arrivals struct {
	t     *testing.T
	came  map[int]int
	count int
}

func newArrivals(t *testing.T) *arrivals { return &arrivals{t: t, came: map[int]int{}} }

func (a *arrivals) come(id int) {
	a.count++
	a.came[id] = a.count
}

// inOrder looks whether each of a list came behind the one ahead of it; seen
// is who was there already, so that nobody is there twice.
func (a *arrivals) inOrder(ids []int, seen map[int]int) {
	a.t.Helper()
	last := 0
	for _, id := range ids {
		if seen[id] > 0 {
			a.t.Fatalf("%d is there twice", id)
		}
		seen[id]++
		if a.came[id] <= last {
			a.t.Fatalf("%v: %d came ahead of the one ahead of it", ids, id)
		}
		last = a.came[id]
	}
}

// numberOf is also no id at times, so that some calls are refused.
func numberOf(n *numbers, many int) int { return n.below(many+4) - 2 }

// Who was pushed is popped in that order, whatever was called between; and who
// was removed is not.
func TestWhoCameFirstOfALineComesFirst(t *testing.T) {
	popped, removed, refused := 0, 0, 0
	for seed := range uint64(100) {
		n, a, l := &numbers{last: seed}, newArrivals(t), New()
		last := 0
		for range 1000 {
			id := numberOf(n, 1+int(seed)%64)
			switch n.below(4) {
			case 0, 1:
				if l.Push(id) == api.OK {
					a.come(id)
				} else {
					refused++
				}
			case 2:
				if first, ok := l.Pop(); ok {
					if a.came[first] <= last {
						t.Fatalf("%d came ahead of who was popped already", first)
					}
					last = a.came[first]
					popped++
				}
			default:
				if l.Remove(id) {
					removed++
				}
			}
			a.inOrder(l.List(), map[int]int{})
		}
	}
	if popped < 1000 || removed < 1000 || refused < 1000 {
		t.Errorf("%d popped, %d removed, %d refused", popped, removed, refused)
	}
}

// wantNextIsFirst looks whether nobody who is there is of a higher level than
// who is next, or came ahead of it at the same one.
func wantNextIsFirst(t *testing.T, r *Ready, a *arrivals) {
	t.Helper()
	next, ok := r.Next()
	if !ok {
		if r.Levels() != 0 {
			t.Fatalf("nobody is next, of the levels %d", r.Levels())
		}
		return
	}
	for level := 7; level >= 0; level-- {
		ids := r.List(level)
		for _, id := range ids {
			if a.came[id] < a.came[next] {
				t.Fatalf("%d is next, and %d of the level %d came ahead of it", next, id, level)
			}
		}
		if len(ids) > 0 {
			return
		}
	}
	t.Fatalf("%d is next, and nobody is there", next)
}

func TestWhoCameFirstOfALevelComesFirst(t *testing.T) {
	put, dropped, refused := 0, 0, 0
	for seed := range uint64(100) {
		n, a, r := &numbers{last: seed}, newArrivals(t), NewReady()
		for range 600 {
			id := numberOf(n, 1+int(seed)%64)
			switch n.below(5) {
			case 0, 1, 2:
				if r.Put(id, numberOf(n, 8)) == api.OK {
					a.come(id)
					put++
				} else {
					refused++
				}
			case 3:
				id, _ = r.Next()
				fallthrough
			default:
				if r.Drop(id) {
					dropped++
				}
			}
			seen := map[int]int{}
			for level := range 8 {
				a.inOrder(r.List(level), seen)
			}
			wantNextIsFirst(t, r, a)
		}
	}
	if put < 1000 || dropped < 1000 || refused < 1000 {
		t.Errorf("%d put, %d dropped, %d refused", put, dropped, refused)
	}
}

// Whoever was taken out once is there no longer: it was not there twice.
func TestWhoIsTakenOutIsThereNoLonger(t *testing.T) {
	n, l, r := &numbers{last: 15}, New(), NewReady()
	for range 20000 {
		id, level := n.below(64), n.below(8)
		l.Push(id)
		l.Push(id)
		r.Put(id, level)
		r.Put(id, n.below(8))
		if n.below(2) == 0 {
			continue
		}
		if !l.Remove(id) || l.Remove(id) || !r.Drop(id) || r.Drop(id) {
			t.Fatalf("%d was there twice, or not at all", id)
		}
	}
}
