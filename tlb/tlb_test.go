package tlb

import (
	"testing"

	"donjon/api"
	"donjon/pte"
)

// eight keeps eight entries of several spaces; the same pages are among them
// in more than one.
func eight(t *testing.T) (*world, []spot) {
	t.Helper()
	w := newWorld(t, 64)
	l := []spot{{3, 7}, {0, 0}, {7, 3}, {63, 255}, {3, 8}, {5, 7}, {0, 255}, {63, 0}}
	for i, s := range l {
		w.fill(s.space, s.page, at(16*i))
	}
	w.wantSpots(l...)
	return w, l
}

// 14.1

func TestNewKeepsNone(t *testing.T) {
	w := newWorld(t, 64)
	w.whole()
	w.drop(0, 0)
	w.flush(0)
	w.wantSpots()
	w.fill(0, 0, at(16))
	newWorld(t, 64).whole() // another one has nothing of it
	w.whole()
}

func TestExampleOfTheChapter(t *testing.T) {
	w := newWorld(t, 64)
	for page := range 9 {
		w.fill(1, page, at(16))
	}
	w.wantSpots(spot{1, 1}, spot{1, 2}, spot{1, 3}, spot{1, 4}, spot{1, 5}, spot{1, 6}, spot{1, 7}, spot{1, 8})
	w.fill(1, 1, at(16))
	w.fill(1, 9, at(16))
	w.wantSpots(spot{1, 1}, spot{1, 3}, spot{1, 4}, spot{1, 5}, spot{1, 6}, spot{1, 7}, spot{1, 8}, spot{1, 9})
	w.whole()
}

func TestGetIsWhatWasFilledIn(t *testing.T) {
	for _, space := range []int{0, 1, 31, 62, 63} {
		for _, page := range []int{0, 1, 15, 16, 128, 254, 255} {
			for _, place := range []int{0, 16, 1 << 15, 1<<16 - 32, 1<<16 - 16} {
				w := newWorld(t, 64) // most of these pages are not in its memory
				w.fill(space, page, at(place))
				w.wantSpots(spot{space, page})
				w.fill(space, page, writable(place))
				w.wantSpots(spot{space, page})
			}
		}
	}
}

func TestEachSpaceAndEachPage(t *testing.T) {
	w := newWorld(t, 64)
	for space := range 64 {
		w.fill(space, 255-space, at(16*space))
	}
	for page := range 256 {
		w.fill(page%64, page, writable(16*page))
	}
	w.whole()
}

// Entries of the same pages, and such as have the same sum: none is another
// one's.
func TestSamePagesOfSeveralSpaces(t *testing.T) {
	w := newWorld(t, 64)
	l := []spot{{1, 2}, {2, 1}, {0, 3}, {3, 0}, {0, 255}, {1, 0}, {63, 2}, {2, 2}}
	for i, s := range l {
		w.fill(s.space, s.page, writable(16*i))
	}
	w.wantSpots(l...)
	w.whole()
	w.drop(1, 2)
	w.wantSpots(spot{2, 1}, spot{0, 3}, spot{3, 0}, spot{0, 255}, spot{1, 0}, spot{63, 2}, spot{2, 2})
	w.fill(2, 2, at(4096))
	w.flush(0)
	w.wantSpots(spot{2, 1}, spot{3, 0}, spot{1, 0}, spot{63, 2}, spot{2, 2})
	w.whole()
	w.drain()
}

// Of eight each one is filled in once more, as another entry and as the same
// one: none goes, and it is the youngest.
func TestFillOnceMore(t *testing.T) {
	for i := range 8 {
		for _, e := range []pte.Entry{at(16 * i), writable(16 * i), at(1<<16 - 16)} {
			w, l := eight(t)
			w.fill(l[i].space, l[i].page, e)
			w.wantSpots(l...)
			if got, _ := w.x.Get(l[i].space, l[i].page); got != e {
				t.Errorf("it is %+v, not %+v", got, e)
			}
			w.drain()
		}
	}
}

func TestFillOnceMoreOfFewer(t *testing.T) {
	for n := 1; n < 8; n++ {
		w := newWorld(t, 64)
		for page := range n {
			w.fill(9, page, at(16*page))
		}
		for range 20 {
			w.fill(9, 0, writable(32))
		}
		if w.x.Len() != n {
			t.Errorf("Len: %d, not %d", w.x.Len(), n)
		}
		w.drain()
	}
}

func TestNinthLetsTheEldestGo(t *testing.T) {
	w, l := eight(t)
	for i, s := range []spot{{3, 9}, {62, 254}, {0, 1}, {7, 7}, {8, 3}, {63, 7}, {5, 0}, {1, 255}} {
		w.fill(s.space, s.page, writable(256+16*i))
		if _, ok := w.x.Get(l[i].space, l[i].page); ok {
			t.Errorf("%v is kept, though it was the eldest", l[i])
		}
		l = append(l, s)
		w.wantSpots(l[i+1:]...)
	}
	w.whole()
	for i := range 100 {
		w.fill(i*7%64, i*11%256, at(16*i))
	}
	w.whole()
}

// An entry that went may come again, as the youngest.
func TestWhatWentComesAgain(t *testing.T) {
	w, l := eight(t)
	for range 3 {
		for _, s := range append([]spot{{40, 40}}, l...) {
			w.fill(s.space, s.page, at(32))
		}
	}
	w.drain()
}

// It counts when an entry was filled in, not when it was asked for.
func TestAskingMakesNoneYounger(t *testing.T) {
	w, l := eight(t)
	for range 3 {
		w.x.Get(l[0].space, l[0].page)
		w.wantTo(l[0].space, 0, 16*l[0].page+5, false, 5, api.OK)
		w.askAgrees(l[0].space, 0)
	}
	w.fill(40, 40, at(16))
	if _, ok := w.x.Get(l[0].space, l[0].page); ok {
		t.Error("the eldest is kept")
	}
	w.drain()
}

func TestDropAmongOthers(t *testing.T) {
	for i, s := range []spot{{3, 7}, {0, 0}, {7, 3}, {63, 255}, {3, 8}, {5, 7}, {0, 255}, {63, 0}} {
		w, l := eight(t)
		w.drop(s.space, s.page)
		w.wantSpots(append(append([]spot{}, l[:i]...), l[i+1:]...)...)
		w.drop(s.space, s.page) // once more: nothing
		w.whole()
		w.fill(40, 40, at(16)) // there is room again
		if w.x.Len() != 8 {
			t.Errorf("Len: %d, not 8", w.x.Len())
		}
		w.drain()
	}
}

func TestDropOfWhatIsNotKept(t *testing.T) {
	w, l := eight(t)
	for space := range 64 {
		for page := range 256 {
			if _, ok := w.kept[spot{space, page}]; !ok {
				w.x.Drop(space, page)
			}
		}
	}
	w.wantSpots(l...)
	w.drain()
}

func TestDropAll(t *testing.T) {
	w, l := eight(t)
	for i := range l {
		s := l[(i*3+2)%8]
		w.drop(s.space, s.page)
		w.fill(s.space, s.page, at(48)) // it can be filled in again at once
		w.drop(s.space, s.page)
	}
	w.wantSpots()
	w.whole()
	w.drain()
}

func TestFlushAmongOthers(t *testing.T) {
	left := map[int][]spot{
		0:  {{3, 7}, {7, 3}, {63, 255}, {3, 8}, {5, 7}, {63, 0}},
		3:  {{0, 0}, {7, 3}, {63, 255}, {5, 7}, {0, 255}, {63, 0}},
		5:  {{3, 7}, {0, 0}, {7, 3}, {63, 255}, {3, 8}, {0, 255}, {63, 0}},
		7:  {{3, 7}, {0, 0}, {63, 255}, {3, 8}, {5, 7}, {0, 255}, {63, 0}},
		63: {{3, 7}, {0, 0}, {7, 3}, {3, 8}, {5, 7}, {0, 255}},
	}
	for space := range 64 {
		w, l := eight(t)
		want, ok := left[space]
		if !ok {
			want = l
		}
		w.flush(space)
		w.wantSpots(want...)
		w.flush(space) // once more: nothing
		w.wantSpots(want...)
		w.drain()
	}
}

func TestFlushOfAFullSpace(t *testing.T) {
	for _, space := range []int{0, 20, 63} {
		w := newWorld(t, 64)
		for page := range 8 {
			w.fill(space, 32*page, at(16*page))
		}
		w.flush(space)
		w.wantSpots()
		w.whole()
		for page := range 9 {
			w.fill(space, page, at(16*page))
		}
		w.drain()
	}
}

func TestFillOfNoNumberIsErrRange(t *testing.T) {
	for _, n := range []int{0, 7, 8} {
		w := newWorld(t, 64)
		for page := range n {
			w.fill(0, page, at(16*page))
		}
		for _, s := range noSpots() {
			w.wantFill(s.space, s.page, writable(16), api.ErrRange)
		}
		w.whole()
		w.drain()
	}
}

// Also what Pack has ErrAlign for is ErrField here; an entry that is kept for
// that page stays, as old as it is.
func TestFillOfNoEntryIsErrField(t *testing.T) {
	w, l := eight(t)
	for _, e := range noEntries() {
		for _, s := range append([]spot{{40, 40}}, l...) {
			w.wantFill(s.space, s.page, e, api.ErrField)
		}
	}
	w.drain()
}

func TestFillOfNoEntryAmongFewer(t *testing.T) {
	w := newWorld(t, 64)
	for _, e := range noEntries() {
		w.wantFill(5, 5, e, api.ErrField)
	}
	w.fill(5, 5, at(16))
	for _, e := range noEntries() {
		w.wantFill(5, 5, e, api.ErrField)
		w.wantFill(0, 0, e, api.ErrField)
	}
	w.wantSpots(spot{5, 5})
}

func TestOrderOfFillsErrors(t *testing.T) {
	w, _ := eight(t)
	for _, e := range noEntries() {
		for _, s := range []spot{{-1, 0}, {64, 255}, {0, -1}, {63, 256}, {-1, -1}, {64, 256}} {
			w.wantFill(s.space, s.page, e, api.ErrRange)
		}
	}
	w.drain()
}

func TestDropAndFlushOfNoNumber(t *testing.T) {
	w, l := eight(t)
	for _, s := range noSpots() {
		w.drop(s.space, s.page)
	}
	for _, space := range noSpaces() {
		w.flush(space)
	}
	w.wantSpots(l...)
	w.whole()
	w.drain()
}

// A page that is none is not the next space's, or the last one's.
func TestNoPageIsNotAnotherSpaces(t *testing.T) {
	w := newWorld(t, 64)
	w.fill(1, 0, at(16))
	w.fill(1, 255, at(32))
	for _, s := range []spot{{0, 256}, {2, -256}, {0, 511}, {2, -1}, {65, 0}, {-63, 0}, {1, 256}, {1, -256}, {1, 511}, {1, -1}} {
		w.wantKept(s)
		w.drop(s.space, s.page)
	}
	w.wantSpots(spot{1, 0}, spot{1, 255})
}

// What Get hands out is the asker's own.
func TestAnswersAreNew(t *testing.T) {
	w := newWorld(t, 64)
	e := writable(32)
	w.fill(1, 1, e)
	e.At = 48
	w.same()
	got, _ := w.x.Get(1, 1)
	got.At, got.Write = 16, false
	w.same()
}
