package line

import (
	"slices"
	"testing"

	"donjon/api"
)

// 17.1

func TestNewIsWithoutIDs(t *testing.T) {
	l := New()
	if ids := l.List(); len(ids) != 0 {
		t.Errorf("List: %v", ids)
	}
	if id, ok := l.Pop(); id != 0 || ok {
		t.Errorf("Pop: %d, %v", id, ok)
	}
	for id := -1; id <= 64; id++ {
		if l.Remove(id) {
			t.Errorf("Remove(%d): true", id)
		}
	}
}

func TestPushPutsBehindAll(t *testing.T) {
	l := New()
	var want []int
	for _, id := range []int{5, 0, 63, 1, 62, 4, 6} {
		if err := l.Push(id); err != api.OK {
			t.Fatalf("Push(%d): error %d", id, err)
		}
		want = append(want, id)
		if ids := l.List(); !slices.Equal(ids, want) {
			t.Fatalf("Push(%d): %v, not %v", id, ids, want)
		}
	}
	for _, id := range want {
		if first, ok := l.Pop(); first != id || !ok {
			t.Errorf("Pop: %d, %v; not %d", first, ok, id)
		}
	}
	for range 3 {
		if first, ok := l.Pop(); first != 0 || ok {
			t.Errorf("Pop of none: %d, %v", first, ok)
		}
	}
}

func TestPushOfEachID(t *testing.T) {
	for id := range 64 {
		w := newWaiting(t, id)
		w.is(id)
		w.push(id)
		w.pop()
		w.is()
		w.pop()
		w.push(id)
		w.remove(id)
		w.remove(id)
		w.is()
	}
}

// Of 0 who was there, and that nobody was, are told apart by the bool alone.
func TestPopOfTheIDNought(t *testing.T) {
	l := New()
	l.Push(0)
	if id, ok := l.Pop(); id != 0 || !ok {
		t.Errorf("%d, %v", id, ok)
	}
	if id, ok := l.Pop(); id != 0 || ok {
		t.Errorf("once more: %d, %v", id, ok)
	}
}

func TestPushOfNoIDIsErrRange(t *testing.T) {
	all := shuffled(&numbers{last: 1})
	for _, there := range [][]int{{}, {0}, {63}, {3, 0, 63, 62}, all[:63], all} {
		w := newWaiting(t, there...)
		for _, id := range noIDs() {
			if err := w.l.Push(id); err != api.ErrRange {
				t.Fatalf("%v: Push(%d): error %d", there, id, err)
			}
			w.is(there...)
		}
		w.emptied()
	}
}

func TestPushOfWhoIsThereIsErrTwice(t *testing.T) {
	all := shuffled(&numbers{last: 2})
	for _, many := range []int{1, 2, 3, 8, 63, 64} {
		there := all[:many]
		w := newWaiting(t, there...)
		for _, id := range there {
			if err := w.l.Push(id); err != api.ErrTwice {
				t.Fatalf("%v: Push(%d): error %d", there, id, err)
			}
			w.is(there...)
		}
		w.emptied()
	}
}

func TestRemoveOfWhoIsNotThere(t *testing.T) {
	all := shuffled(&numbers{last: 3})
	for _, many := range []int{0, 1, 2, 32, 63, 64} {
		w := newWaiting(t, all[:many]...)
		for _, id := range append(noIDs(), all[many:]...) {
			if w.l.Remove(id) {
				t.Fatalf("%v: Remove(%d): true", all[:many], id)
			}
			w.is(all[:many]...)
		}
		w.emptied()
	}
}

func TestRemoveOfTheFirstAMiddleAndTheLastOne(t *testing.T) {
	for _, c := range []struct {
		id   int
		left []int
	}{
		{7, []int{0, 63, 2, 5}},
		{0, []int{7, 63, 2, 5}},
		{63, []int{7, 0, 2, 5}},
		{2, []int{7, 0, 63, 5}},
		{5, []int{7, 0, 63, 2}},
	} {
		l := New()
		for _, id := range []int{7, 0, 63, 2, 5} {
			l.Push(id)
		}
		if !l.Remove(c.id) || l.Remove(c.id) {
			t.Errorf("Remove(%d)", c.id)
		}
		if ids := l.List(); !slices.Equal(ids, c.left) {
			t.Errorf("Remove(%d): %v, not %v", c.id, ids, c.left)
		}
		for _, id := range c.left {
			if first, ok := l.Pop(); first != id || !ok {
				t.Errorf("Remove(%d), Pop: %d, %v; not %d", c.id, first, ok, id)
			}
		}
	}
}

func TestRemoveOfEachOfAll(t *testing.T) {
	all := shuffled(&numbers{last: 4})
	for at, id := range all {
		w := newWaiting(t, all...)
		w.remove(id)
		w.is(slices.Concat(all[:at], all[at+1:])...)
		w.push(id)
		w.is(slices.Concat(all[:at], all[at+1:], []int{id})...)
		w.emptied()
	}
}

func TestLineOfAllThatIsEmptiedFromEitherEnd(t *testing.T) {
	all := shuffled(&numbers{last: 5})
	w := newWaiting(t, all...)
	for k := range 64 {
		w.is(all[:64-k]...)
		w.remove(all[63-k])
	}
	w.is()
	for _, id := range all {
		w.push(id)
	}
	for k := range 64 {
		w.is(all[k:]...)
		w.pop()
	}
	w.is()
}

func TestWhoComesAgainIsBehindAll(t *testing.T) {
	w := newWaiting(t, 1, 2, 3)
	w.pop()
	w.push(1)
	w.is(2, 3, 1)
	w.remove(3)
	w.push(3)
	w.is(2, 1, 3)
	w.push(2) // it is there: it stays where it is
	w.is(2, 1, 3)
	w.remove(3)
	w.push(3)
	w.is(2, 1, 3)
	w.emptied()
	w.push(3)
	w.is(3)
}

// Round and round: the line is as long as it was, however many came.
func TestLineGoesRound(t *testing.T) {
	for many := 1; many <= 64; many++ {
		w := newWaiting(t, upTo(many)...)
		for k := range 2*many + 3 {
			first := k % many
			if id, ok := w.l.Pop(); id != first || !ok {
				t.Fatalf("%d of %d: %d, %v", k, many, id, ok)
			}
			if err := w.l.Push(first); err != api.OK {
				t.Fatalf("%d of %d: error %d", k, many, err)
			}
		}
		if l := w.l.List(); len(l) != many {
			t.Fatalf("of %d: %v", many, l)
		}
	}
}

// eachRow hands on every row of at most so many calls, each told by its
// number.
func eachRow(calls, longest int, see func(row []int)) {
	var longer func(row []int)
	longer = func(row []int) {
		see(row)
		if len(row) == longest {
			return
		}
		for c := range calls {
			longer(append(row[:len(row):len(row)], c))
		}
	}
	longer(nil)
}

// Each row of at most six calls with three ids.
func TestEachShortRowOfALine(t *testing.T) {
	ids := []int{0, 9, 63}
	count := 0
	eachRow(7, 6, func(row []int) {
		l, want := New(), newTold()
		for _, c := range row {
			switch {
			case c < 3:
				if err := l.Push(ids[c]); err != want.put(ids[c], 0) {
					t.Fatalf("%v: error %d", row, err)
				}
			case c < 6:
				if ok := l.Remove(ids[c-3]); ok != want.drop(ids[c-3]) {
					t.Fatalf("%v: %v", row, ok)
				}
			default:
				first, is := want.first()
				want.drop(first)
				if id, ok := l.Pop(); id != first || ok != is {
					t.Fatalf("%v: %d, %v", row, id, ok)
				}
			}
		}
		if ids := l.List(); !slices.Equal(ids, want.list(0)) {
			t.Fatalf("%v: %v, not %v", row, ids, want.list(0))
		}
		count++
	})
	if count != 137257 {
		t.Errorf("%d rows", count)
	}
}

func TestDrawnCallsOfALine(t *testing.T) {
	for seed := range uint64(40) {
		n := &numbers{last: seed}
		w := newWaiting(t)
		more := 3 + n.below(6) // of ten calls so many push, so that lines grow long, or stay short
		for range 500 {
			id := n.below(70) - 3
			switch {
			case n.below(10) < more:
				w.push(id)
			case n.below(2) == 0:
				w.pop()
			default:
				w.remove(id)
			}
		}
		w.emptied()
	}
}

// 17.1: what List hands out

func TestALinesListIsNotChangedByLaterCalls(t *testing.T) {
	all := shuffled(&numbers{last: 6})
	for many := range 65 {
		there := all[:many]
		for _, later := range []func(l *Line){
			func(l *Line) { l.Pop() },
			func(l *Line) { l.Remove(all[many/2]) },
			func(l *Line) { l.Remove(all[max(many, 1)-1]) },
			func(l *Line) { l.Push(all[min(many, 63)]) },
			func(l *Line) { l.Pop(); l.Push(all[0]) },
			func(l *Line) {
				for range 64 {
					l.Pop()
				}
				for id := range 64 {
					l.Push(id)
				}
			},
		} {
			w := newWaiting(t, there...)
			list := w.l.List()
			later(w.l)
			if !slices.Equal(list, there) {
				t.Fatalf("%v, not %v", list, there)
			}
		}
	}
}

func TestChangingALinesListChangesNothing(t *testing.T) {
	all := shuffled(&numbers{last: 7})
	for many := range 65 {
		w := newWaiting(t, all[:many]...)
		first, second := w.l.List(), w.l.List()
		scribble(first)
		_ = append(first[:0], 79)
		if !slices.Equal(second, all[:many]) {
			t.Fatalf("two lists share: %v, not %v", second, all[:many])
		}
		w.is(all[:many]...)
		w.remove(all[many/2])
		scribble(w.l.List())
		w.push(all[many/2])
		scribble(second)
		scribble(w.l.List())
		w.emptied()
		scribble(w.l.List())
		w.push(3)
		w.is(3)
	}
}

func TestLinesShareNothing(t *testing.T) {
	a, b := newWaiting(t), newWaiting(t)
	n := &numbers{last: 8}
	for range 500 {
		for _, w := range []*waiting{a, b} {
			switch id := n.below(64); n.below(3) {
			case 0:
				w.pop()
			case 1:
				w.push(id)
				w.push((id + 1) % 64)
			default:
				w.remove(id)
			}
		}
		a.same()
	}
	newWaiting(t).is()
}
