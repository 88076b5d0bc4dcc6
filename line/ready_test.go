package line

import (
	"slices"
	"testing"

	"donjon/api"
)

// 17.2

func TestTheChaptersExample(t *testing.T) {
	r := NewReady()
	for k, err := range []api.Errno{r.Put(3, 1), r.Put(4, 5), r.Put(5, 5)} {
		if err != api.OK {
			t.Errorf("%d: error %d", k, err)
		}
	}
	if id, ok := r.Next(); id != 4 || !ok || r.Levels() != 34 {
		t.Errorf("Next %d, %v, Levels %d", id, ok, r.Levels())
	}
	if !r.Drop(4) {
		t.Error("Drop(4): false")
	}
	if id, ok := r.Next(); id != 5 || !ok || r.Levels() != 34 {
		t.Errorf("Next %d, %v, Levels %d", id, ok, r.Levels())
	}
	if !r.Drop(5) {
		t.Error("Drop(5): false")
	}
	if id, ok := r.Next(); id != 3 || !ok || r.Levels() != 2 {
		t.Errorf("Next %d, %v, Levels %d", id, ok, r.Levels())
	}
}

func TestNewReadyIsWithoutIDs(t *testing.T) {
	r := NewReady()
	if id, ok := r.Next(); id != 0 || ok {
		t.Errorf("Next: %d, %v", id, ok)
	}
	if l := r.Levels(); l != 0 {
		t.Errorf("Levels: %d", l)
	}
	for level := -1; level <= 8; level++ {
		if ids := r.List(level); len(ids) != 0 {
			t.Errorf("List(%d): %v", level, ids)
		}
	}
	for id := -1; id <= 64; id++ {
		if r.Drop(id) {
			t.Errorf("Drop(%d): true", id)
		}
	}
}

func TestPutOfEachIDAtEachLevel(t *testing.T) {
	for level, bit := range []uint64{1, 2, 4, 8, 16, 32, 64, 128} {
		for id := range 64 {
			w := newTurns(t, [2]int{id, level})
			w.is(id, bit)
			w.has(level, id)
			w.drop(id)
			w.drop(id)
			w.isEmpty()
			w.put(id, 7-level)
			w.is(id, 128/bit)
		}
	}
}

// Of 0 who is next, and that nobody is, are told apart by the bool alone.
func TestNextOfTheIDNought(t *testing.T) {
	w := newTurns(t, [2]int{0, 0})
	for range 3 {
		if id, ok := w.r.Next(); id != 0 || !ok {
			t.Errorf("%d, %v", id, ok)
		}
	}
	w.has(0, 0)
	w.drop(0)
	w.isEmpty()
}

func TestPutPutsBehindThoseOfTheLevel(t *testing.T) {
	w := newTurns(t, [2]int{9, 3}, [2]int{63, 0}, [2]int{2, 3}, [2]int{0, 0}, [2]int{5, 3}, [2]int{1, 7}, [2]int{62, 0})
	w.has(0, 63, 0, 62)
	w.has(3, 9, 2, 5)
	w.has(7, 1)
	for _, level := range []int{1, 2, 4, 5, 6} {
		w.has(level)
	}
	w.is(1, 137)
	w.drop(1)
	w.is(9, 9)
	w.drop(2)
	w.is(9, 9)
	w.drop(9)
	w.is(5, 9)
	w.drop(5)
	w.is(63, 1)
	w.drop(63)
	w.is(0, 1)
	w.drop(0)
	w.is(62, 1)
	w.drop(62)
	w.isEmpty()
}

func TestNextStays(t *testing.T) {
	w := newTurns(t, [2]int{6, 2}, [2]int{7, 2})
	for range 100 {
		if id, ok := w.r.Next(); id != 6 || !ok {
			t.Fatalf("%d, %v", id, ok)
		}
	}
	w.has(2, 6, 7)
	if err := w.r.Put(6, 2); err != api.ErrTwice {
		t.Errorf("error %d", err)
	}
}

// Who comes at a higher level is next at once, however late.
func TestTheHigherLevelIsAhead(t *testing.T) {
	for low := range 8 {
		for high := low + 1; high < 8; high++ {
			up := newTurns(t, [2]int{10, low}, [2]int{20, high})
			up.is(20, 1<<low+1<<high)
			up.drop(20)
			up.is(10, 1<<low)
			down := newTurns(t, [2]int{10, high}, [2]int{20, low})
			down.is(10, 1<<low+1<<high)
			down.drop(20)
			down.is(10, 1<<high)
		}
	}
}

// Every word of eight bits is told by Levels of who is there, by one at a
// level and by several.
func TestLevelsOfEachWord(t *testing.T) {
	for word := range 256 {
		w := newTurns(t)
		highest := -1
		for level := range 8 {
			if word/(1<<level)%2 == 0 {
				continue
			}
			highest = level
			w.put(level*3, level)
			w.put(63-level*3, level)
			w.drop(level * 3)
		}
		if highest < 0 {
			w.isEmpty()
			continue
		}
		w.is(63-highest*3, uint64(word))
		w.emptied()
	}
}

func TestAllEightLevels(t *testing.T) {
	w := newTurns(t)
	for level := range 8 {
		w.put(8*level, level)
		w.put(8*level+7, level)
	}
	left := uint64(255)
	for level := 7; level >= 0; level-- {
		w.is(8*level, left)
		w.has(level, 8*level, 8*level+7)
		w.drop(8 * level)
		w.is(8*level+7, left)
		w.drop(8*level + 7)
		left /= 2
	}
	w.isEmpty()
}

func TestAllAtOneLevel(t *testing.T) {
	for level := range 8 {
		all := shuffled(&numbers{last: uint64(level)})
		w := newTurns(t)
		for k, id := range all {
			w.put(id, level)
			w.has(level, all[:k+1]...)
		}
		w.is(all[0], 1<<level)
		w.emptied()
	}
}

func TestPutOfNoIDIsErrRange(t *testing.T) {
	for _, puts := range [][][2]int{{}, {{0, 0}}, {{63, 7}}, {{3, 1}, {0, 7}, {63, 0}}} {
		w := newTurns(t, puts...)
		for _, id := range noIDs() {
			for level := range 8 {
				if err := w.r.Put(id, level); err != api.ErrRange {
					t.Fatalf("Put(%d, %d): error %d", id, level, err)
				}
			}
			w.same()
		}
		w.emptied()
	}
}

// Who is there is ErrRange, too, at a level that is none.
func TestPutAtNoLevelIsErrRange(t *testing.T) {
	for _, puts := range [][][2]int{{}, {{0, 0}}, {{63, 7}}, {{3, 1}, {0, 7}, {63, 0}}} {
		w := newTurns(t, puts...)
		for _, level := range noLevels() {
			for _, id := range []int{0, 1, 3, 62, 63} {
				if err := w.r.Put(id, level); err != api.ErrRange {
					t.Fatalf("Put(%d, %d): error %d", id, level, err)
				}
			}
			w.same()
		}
		w.emptied()
	}
}

func TestPutOfNeitherIsErrRange(t *testing.T) {
	w := newTurns(t, [2]int{3, 1}, [2]int{0, 7}, [2]int{63, 0})
	for _, id := range noIDs() {
		for _, level := range noLevels() {
			if err := w.r.Put(id, level); err != api.ErrRange {
				t.Fatalf("Put(%d, %d): error %d", id, level, err)
			}
		}
		w.same()
	}
}

func TestPutOfWhoIsThereIsErrTwice(t *testing.T) {
	all := shuffled(&numbers{last: 9})
	for _, many := range []int{1, 2, 3, 9, 64} {
		w := newTurns(t)
		for k, id := range all[:many] {
			w.put(id, k%8)
		}
		for _, id := range all[:many] {
			for level := range 8 { // its own level is one of them
				if err := w.r.Put(id, level); err != api.ErrTwice {
					t.Fatalf("Put(%d, %d): error %d", id, level, err)
				}
			}
			w.same()
		}
		w.emptied()
	}
}

func TestDropOfWhoIsNotThere(t *testing.T) {
	all := shuffled(&numbers{last: 10})
	for _, many := range []int{0, 1, 2, 32, 63, 64} {
		w := newTurns(t)
		for k, id := range all[:many] {
			w.put(id, k%8)
		}
		for _, id := range append(noIDs(), all[many:]...) {
			if w.r.Drop(id) {
				t.Fatalf("Drop(%d): true", id)
			}
			w.same()
		}
		w.emptied()
	}
}

func TestDropOfTheFirstAMiddleAndTheLastOne(t *testing.T) {
	for level := range 8 {
		for _, c := range []struct {
			id   int
			left []int
		}{
			{7, []int{0, 63, 2, 5}},
			{0, []int{7, 63, 2, 5}},
			{63, []int{7, 0, 2, 5}},
			{2, []int{7, 0, 63, 5}},
			{5, []int{7, 0, 63, 2}},
		} {
			w := newTurns(t, [2]int{40, (level + 1) % 8}, [2]int{41, (level + 7) % 8})
			for _, id := range []int{7, 0, 63, 2, 5} {
				w.put(id, level)
			}
			if !w.r.Drop(c.id) || w.r.Drop(c.id) {
				t.Errorf("Drop(%d)", c.id)
			}
			w.want.drop(c.id)
			w.has(level, c.left...)
			w.has((level+1)%8, 40)
			w.has((level+7)%8, 41)
			w.emptied()
		}
	}
}

func TestDropOfEachOfAll(t *testing.T) {
	all := shuffled(&numbers{last: 11})
	for k, id := range all {
		w := newTurns(t)
		for at, other := range all {
			w.put(other, at%8)
		}
		w.drop(id)
		w.put(id, (k+1)%8)
		if l := w.r.List((k + 1) % 8); len(l) != 9 || l[8] != id {
			t.Fatalf("%d is back: %v", id, l)
		}
		w.emptied()
	}
}

func TestWhoComesAgainIsBehindThoseOfTheLevel(t *testing.T) {
	w := newTurns(t, [2]int{1, 4}, [2]int{2, 4}, [2]int{3, 4}, [2]int{8, 6})
	w.drop(1)
	w.put(1, 4)
	w.has(4, 2, 3, 1)
	w.drop(3)
	w.put(3, 6) // another level
	w.has(4, 2, 1)
	w.has(6, 8, 3)
	w.is(8, 80)
	w.drop(8)
	w.put(8, 4)
	w.has(4, 2, 1, 8)
	w.is(3, 80)
	w.put(2, 6) // it is there: it stays where it is
	w.has(4, 2, 1, 8)
	w.drop(8) // the last one
	w.put(8, 4)
	w.has(4, 2, 1, 8)
	w.drop(3)
	w.is(2, 16)
	w.emptied()
	w.put(3, 0)
	w.is(3, 1)
}

// Those of one level have their turns one behind another.
func TestReadyGoesRound(t *testing.T) {
	for many := 1; many <= 64; many++ {
		r := NewReady()
		for id := range many {
			r.Put(id, 5)
		}
		for k := range 2*many + 3 {
			id, ok := r.Next()
			if id != k%many || !ok {
				t.Fatalf("%d of %d: %d, %v", k, many, id, ok)
			}
			if !r.Drop(id) || r.Put(id, 5) != api.OK {
				t.Fatalf("%d of %d: %d is not put again", k, many, id)
			}
		}
	}
}

func TestListOfNoLevelIsNothing(t *testing.T) {
	w := newTurns(t)
	for id := range 64 {
		w.put(id, id%8)
	}
	for _, level := range noLevels() {
		if l := w.r.List(level); len(l) != 0 {
			t.Errorf("List(%d): %v", level, l)
		}
	}
	w.emptied()
}

// Each row of at most five calls with three ids and three levels.
func TestEachShortRowOfAReady(t *testing.T) {
	ids, levels := []int{0, 9, 63}, []int{0, 3, 7}
	count := 0
	eachRow(12, 5, func(row []int) {
		w := &turns{t: t, r: NewReady(), want: newTold()}
		for _, c := range row {
			if c < 9 {
				id, level := ids[c%3], levels[c/3]
				if err := w.r.Put(id, level); err != w.want.put(id, level) {
					t.Fatalf("%v: error %d", row, err)
				}
			} else if ok := w.r.Drop(ids[c-9]); ok != w.want.drop(ids[c-9]) {
				t.Fatalf("%v: %v", row, ok)
			}
		}
		first, is := w.want.first()
		if id, ok := w.r.Next(); id != first || ok != is || w.r.Levels() != w.want.levels() {
			t.Fatalf("%v: Next %d, %v, Levels %d", row, id, ok, w.r.Levels())
		}
		for _, level := range levels {
			if l := w.r.List(level); !slices.Equal(l, w.want.list(level)) {
				t.Fatalf("%v: List(%d): %v", row, level, l)
			}
		}
		count++
	})
	if count != 271453 {
		t.Errorf("%d rows", count)
	}
}

func TestDrawnCallsOfAReady(t *testing.T) {
	for seed := range uint64(40) {
		n := &numbers{last: seed}
		w := newTurns(t)
		more := 3 + n.below(6)
		for range 300 {
			id, level := n.below(70)-3, n.below(10)-1
			switch {
			case n.below(10) < more:
				w.put(id, level)
			case n.below(2) == 0:
				next, _ := w.want.first()
				w.drop(next)
			default:
				w.drop(id)
			}
		}
		w.emptied()
	}
}

// 17.2: what List hands out

func TestAReadysListIsNotChangedByLaterCalls(t *testing.T) {
	all := shuffled(&numbers{last: 12})
	for many := range 65 {
		there := all[:many]
		for _, later := range []func(r *Ready){
			func(r *Ready) { r.Drop(all[0]) },
			func(r *Ready) { r.Drop(all[many/2]) },
			func(r *Ready) { r.Drop(all[max(many, 1)-1]) },
			func(r *Ready) { r.Put(all[min(many, 63)], 5) },
			func(r *Ready) { r.Drop(all[0]); r.Put(all[0], 5) },
			func(r *Ready) {
				for _, id := range there {
					r.Drop(id)
				}
				for id := range 64 {
					r.Put(id, 5)
				}
			},
		} {
			r := NewReady()
			for _, id := range there {
				r.Put(id, 5)
			}
			list := r.List(5)
			later(r)
			if !slices.Equal(list, there) {
				t.Fatalf("%v, not %v", list, there)
			}
		}
	}
}

func TestChangingAReadysListChangesNothing(t *testing.T) {
	all := shuffled(&numbers{last: 13})
	for many := range 65 {
		w := newTurns(t)
		for k, id := range all[:many] {
			w.put(id, k%3)
		}
		for level := range 8 {
			first, second := w.r.List(level), w.r.List(level)
			want := slices.Clone(second)
			scribble(first)
			_ = append(first[:0], 79)
			if !slices.Equal(second, want) {
				t.Fatalf("two lists share: %v, not %v", second, want)
			}
			w.same()
			scribble(second)
		}
		w.drop(all[many/2])
		for level := -1; level <= 8; level++ {
			scribble(w.r.List(level))
		}
		w.put(all[many/2], 1)
		w.emptied()
		for level := range 8 {
			scribble(w.r.List(level))
			w.put(level, level)
		}
		w.is(7, 255)
	}
}

func TestReadysShareNothing(t *testing.T) {
	a, b := newTurns(t), newTurns(t)
	n := &numbers{last: 14}
	for range 300 {
		for _, w := range []*turns{a, b} {
			if id, level := n.below(64), n.below(8); n.below(3) == 0 {
				w.drop(id)
			} else {
				w.put(id, level)
			}
		}
		a.same()
	}
	newTurns(t).isEmpty()
}
