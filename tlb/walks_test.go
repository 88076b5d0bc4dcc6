package tlb

import (
	"math"
	"testing"

	"donjon/api"
	"donjon/pte"
	"donjon/walk"
)

// two is a memory with two directories, at 0 and at 16. Both map the page 5
// (to be written: at 80 and at 96), the page 16 (to be read alone: at 112 and
// at 128); the first one alone maps the pages 0 and 255.
func two(t *testing.T) *world {
	t.Helper()
	w := newWorld(t, 256)
	w.lay(0, 32, 5*16, 80, true)
	w.lay(0, 48, 16*16, 112, false)
	w.lay(0, 32, 0, 144, true)
	w.lay(0, 64, 255*16, 160, true)
	w.lay(16, 176, 5*16, 96, true)
	w.lay(16, 192, 16*16, 128, false)
	return w
}

// full is a memory of which the directory at 0 maps each page, and the one at
// 16 each one to another place; every third page is to be read alone.
func full(t *testing.T) *world {
	t.Helper()
	w := newWorld(t, 1<<16)
	for page := range 256 {
		x := page / 16
		w.lay(0, 32+16*x, 16*page, 1024+32*page, page%3 != 0)
		w.lay(16, 512+16*x, 16*page, 1<<16-16-32*page, page%3 != 1)
	}
	return w
}

// 14.2

func TestToWalksAndThenFindsWhatIsKept(t *testing.T) {
	for _, first := range []bool{false, true} {
		for _, second := range []bool{false, true} {
			w := two(t)
			w.wantTo(1, 0, 85, first, 85, api.OK)
			w.wantSpots(spot{1, 5})
			if e, ok := w.x.Get(1, 5); !ok || e != writable(80) {
				t.Errorf("Get(1, 5): %+v, %v", e, ok)
			}
			w.put(32+5, 0) // a walk would not find it any more
			for z := range 16 {
				w.wantTo(1, 0, 80+z, second, 80+z, api.OK)
			}
			w.wantSpots(spot{1, 5})
			w.wantTo(2, 0, 85, second, 0, api.ErrFault) // another space does not find it
		}
	}
}

// The same address in spaces of their own directories.
func TestToOfSeveralSpaces(t *testing.T) {
	w := two(t)
	for range 2 {
		w.wantTo(0, 0, 85, true, 85, api.OK)
		w.wantTo(63, 16, 85, true, 101, api.OK)
		w.wantTo(0, 0, 257, false, 113, api.OK)
		w.wantTo(63, 16, 257, false, 129, api.OK)
		w.wantSpots(spot{0, 5}, spot{63, 5}, spot{0, 16}, spot{63, 16})
	}
	w.wantTo(63, 0, 85, true, 101, api.OK) // what is kept counts, whatever the directory
	w.flush(63)
	w.wantTo(63, 0, 85, true, 85, api.OK)
}

func TestToAtTheEnds(t *testing.T) {
	w := two(t)
	for _, space := range []int{0, 63} {
		for range 2 {
			w.wantTo(space, 0, 0, true, 144, api.OK)
			w.wantTo(space, 0, 15, false, 159, api.OK)
			w.wantTo(space, 0, 4080, false, 160, api.OK)
			w.wantTo(space, 0, 4095, true, 175, api.OK)
		}
	}
	w.wantSpots(spot{0, 0}, spot{0, 255}, spot{63, 0}, spot{63, 255})
	w.whole()
}

func TestToOfEachAddress(t *testing.T) {
	w := full(t)
	for a := range 4096 {
		page := a / 16
		for space, place := range []int{1024 + 32*page, 1<<16 - 16 - 32*page} {
			at, err := w.x.To(w.m, space, 16*space, a, false)
			if at != place+a%16 || err != api.OK {
				t.Fatalf("To(%d, %d): %d, error %d", space, a, at, err)
			}
			at, err = w.x.To(w.m, space, 16*space, a, true)
			if mayNot := page%3 == space; mayNot && (at != 0 || err != api.ErrRights) || !mayNot && (at != place+a%16 || err != api.OK) {
				t.Fatalf("To(%d, %d) to be written: %d, error %d", space, a, at, err)
			}
		}
	}
	w.wantSpots(spot{0, 252}, spot{1, 252}, spot{0, 253}, spot{1, 253}, spot{0, 254}, spot{1, 254}, spot{0, 255}, spot{1, 255})
}

// The ninth page that is walked to lets the eldest go.
func TestToLetsTheEldestGo(t *testing.T) {
	w, want := full(t), []spot{}
	for page := range 8 {
		w.wantTo(4, 0, 16*page, false, 1024+32*page, api.OK)
		want = append(want, spot{4, page})
	}
	w.wantTo(4, 0, 5, false, 1029, api.OK) // it is kept, and none the younger
	w.wantTo(4, 0, 8*16, false, 1024+8*32, api.OK)
	w.wantSpots(append(want[1:], spot{4, 8})...)
	w.drain()
}

func TestToOfNoNumberIsErrRange(t *testing.T) {
	w := two(t)
	w.fill(5, 5, writable(80))
	for _, write := range []bool{false, true} {
		for _, dir := range []int{0, 8, -16, 224, 4096} { // one that maps, none at all, and one that maps nothing
			for _, space := range noSpaces() {
				w.wantTo(space, dir, 85, write, 0, api.ErrRange)
			}
			for _, a := range noAddresses() {
				w.wantTo(5, dir, a, write, 0, api.ErrRange)
				w.wantTo(0, dir, a, write, 0, api.ErrRange)
			}
			w.wantTo(-1, dir, -1, write, 0, api.ErrRange)
			w.wantTo(64, dir, 4096, write, 0, api.ErrRange)
		}
	}
	w.whole()
}

// Where an entry is kept it is ErrRange nonetheless, if the numbers are none.
func TestToOfNoNumberAheadOfErrRights(t *testing.T) {
	w := two(t)
	w.fill(0, 0, at(16))
	w.fill(63, 255, at(32))
	w.wantTo(0, 0, -1, true, 0, api.ErrRange)
	w.wantTo(-1, 0, 0, true, 0, api.ErrRange)
	w.wantTo(63, 0, 4096, true, 0, api.ErrRange)
	w.wantTo(64, 0, 4095, true, 0, api.ErrRange)
	w.wantTo(0, 0, 0, true, 0, api.ErrRights)
	w.wantTo(63, 0, 4095, true, 0, api.ErrRights)
}

// A walk's error is To's, and nothing is filled in, and none goes for it.
func TestErrorOfAWalk(t *testing.T) {
	for _, n := range []int{0, 7, 8} {
		w := two(t)
		w.put(4, 33|2)   // Write in the directory
		w.put(6, 1<<15)  // no entry
		w.put(32+6, 257) // a page that is not there
		for page := range n {
			w.fill(2, page, at(16*page))
		}
		for _, write := range []bool{false, true} {
			for _, dir := range []int{math.MinInt, -16, -1, 1, 8, 15, 17, 248, 256, 4096, math.MaxInt} {
				w.wantTo(1, dir, 85, write, 0, api.ErrAlign)
			}
			for _, a := range []int{1 * 16, 6 * 16, 6*16 + 15, 17 * 16, 3 * 256, 4*256 + 5*16, 6 * 256, 4079} {
				w.wantTo(1, 0, a, write, 0, api.ErrFault)
			}
			w.wantTo(1, 224, 85, write, 0, api.ErrFault)
		}
		w.drain()
	}
}

// That an entry is not Write is told only after the walk: it is filled in.
func TestErrRightsBehindAWalk(t *testing.T) {
	w := two(t)
	w.wantTo(1, 0, 261, true, 0, api.ErrRights)
	w.wantSpots(spot{1, 16})
	if e, ok := w.x.Get(1, 16); !ok || e != at(112) {
		t.Errorf("Get(1, 16): %+v, %v", e, ok)
	}
	w.put(48, 0) // a walk would be a fault
	w.wantTo(1, 0, 261, true, 0, api.ErrRights)
	w.wantTo(1, 0, 261, false, 117, api.OK)
	w.wantSpots(spot{1, 16})
}

func TestErrRightsBehindAWalkLetsTheEldestGo(t *testing.T) {
	w := two(t)
	for page := range 8 {
		w.fill(2, page, at(16*page))
	}
	w.wantTo(1, 0, 261, true, 0, api.ErrRights)
	w.wantSpots(spot{2, 1}, spot{2, 2}, spot{2, 3}, spot{2, 4}, spot{2, 5}, spot{2, 6}, spot{2, 7}, spot{1, 16})
	w.wantTo(1, 0, 261, true, 0, api.ErrRights) // now it is kept, and none goes
	w.drain()
}

// What is kept counts, not what the tables say by now: in all that it says.
func TestToGoesByWhatIsKept(t *testing.T) {
	w := two(t)
	w.fill(1, 5, at(96))
	w.fill(1, 16, writable(128))
	w.fill(1, 7, at(1<<16-16)) // behind the memory's end
	w.fill(1, 255, at(0))
	w.wantTo(1, 0, 85, true, 0, api.ErrRights) // the table says Write
	w.wantTo(1, 0, 85, false, 101, api.OK)     // and another page
	w.wantTo(1, 0, 261, true, 133, api.OK)     // the table does not say Write
	w.wantTo(1, 0, 7*16+15, false, 1<<16-1, api.OK)
	w.wantTo(1, 0, 4095, false, 15, api.OK)
	for _, dir := range []int{math.MinInt, -16, 1, 8, 256, math.MaxInt} { // no directory is needed
		w.wantTo(1, dir, 85, false, 101, api.OK)
		w.wantTo(1, dir, 261, true, 133, api.OK)
		w.wantTo(1, dir, 261-16, true, 0, api.ErrAlign)
	}
	w.wantSpots(spot{1, 5}, spot{1, 16}, spot{1, 7}, spot{1, 255})
}

func TestAgreesWhereNoneIsKept(t *testing.T) {
	w := two(t)
	w.fill(1, 5, at(16)) // wrong, but of one space alone
	for space := range 64 {
		for _, dir := range []int{0, 16, 8, -16, 224, 256, math.MinInt, math.MaxInt} {
			w.wantAgrees(space, dir, space != 1)
		}
	}
	for _, space := range noSpaces() {
		w.wantAgrees(space, 0, true)
		w.wantAgrees(space, 8, true)
	}
}

func TestAgreesInAllOfTheEntry(t *testing.T) {
	for _, c := range []struct {
		page int
		e    pte.Entry
		want bool
	}{
		{5, writable(80), true}, {5, at(80), false}, {5, writable(96), false}, {5, writable(64), false},
		{16, at(112), true}, {16, writable(112), false}, {16, at(128), false},
		{0, writable(144), true}, {0, at(144), false}, {0, writable(80), false},
		{255, writable(160), true}, {255, writable(176), false}, {255, at(0), false},
		{1, at(80), false}, {1, at(0), false}, {7, at(0), false}, {254, writable(160), false}, {32, at(0), false},
	} {
		w := two(t)
		w.fill(1, c.page, c.e)
		w.wantAgrees(1, 0, c.want)
		w.wantAgrees(2, 0, true)
		w.wantAgrees(1, 8, false)
		w.wantAgrees(1, 224, false)
		w.wantAgrees(1, 256, false)
	}
}

// One that is wrong among others that are right is told, wherever it stands.
func TestAgreesOfEach(t *testing.T) {
	for n := 1; n <= 8; n++ {
		for wrong := range n {
			w := full(t)
			for i := range n {
				page := 37 * i % 256
				w.fill(3, page, pte.Entry{Valid: true, Write: page%3 != 0, At: 1024 + 32*page})
			}
			w.wantAgrees(3, 0, true)
			w.wantAgrees(3, 16, false)
			page := 37 * wrong % 256
			was := w.words[32+page]
			w.put(32+page, was+32)
			w.wantAgrees(3, 0, false)
			w.put(32+page, was)
			w.wantAgrees(3, 0, true)
		}
	}
}

func TestAgreesOfOneSpaceAmongOthers(t *testing.T) {
	w := two(t)
	for _, space := range []int{0, 1, 63} {
		w.wantTo(space, 0, 85, true, 85, api.OK)
		w.wantTo(space, 0, 4095, true, 175, api.OK)
	}
	w.fill(1, 255, at(0))
	w.wantAgrees(0, 0, true)
	w.wantAgrees(1, 0, false)
	w.wantAgrees(63, 0, true)
	w.wantTo(2, 16, 85, true, 101, api.OK)
	w.wantAgrees(2, 16, true) // by its own directory
	w.wantAgrees(2, 0, false)
	w.wantAgrees(0, 16, false)
}

// 14.3

// asWithout is a To of a space that agrees: it answers what walk.To does, and
// agrees behind it.
func (w *world) asWithout(space, dir, a int, write bool) {
	w.Helper()
	w.wantAgrees(space, dir, true)
	at, err := walk.To(w.m, dir, a, write)
	w.wantTo(space, dir, a, write, at, err)
	w.wantAgrees(space, dir, true)
}

func TestAsWithout(t *testing.T) {
	w := two(t)
	for _, write := range []bool{false, true, false} {
		for page := range 256 {
			w.asWithout(0, 0, 16*page+3, write)
			w.asWithout(63, 16, 16*page+3, write)
		}
		for _, a := range noAddresses() {
			w.asWithout(0, 0, a, write)
		}
		for _, dir := range []int{math.MinInt, -16, 8, 256, math.MaxInt} {
			w.asWithout(7, dir, 85, write)
		}
	}
}

// All pages of two spaces, in turns, so that entries go and are walked to
// again.
func TestAsWithoutInTurns(t *testing.T) {
	w, n := full(t), numbers(14)
	for range 1500 {
		space := n.below(2)
		a, write := n.below(4096), n.odds(2)
		if n.odds(2) {
			a = n.below(96)
		}
		w.asWithout(space, 16*space, a, write)
		w.wantAgrees(1-space, 16-16*space, true)
	}
}

// Each way in which what an entry was made of changes: words of two's
// directory and tables, of the page 5.
func changes() []struct {
	at   int
	word uint64
} {
	return []struct {
		at   int
		word uint64
	}{
		{32 + 5, 97},                     // another page, not Write
		{32 + 5, 99},                     // another page
		{32 + 5, 81},                     // not Write any more
		{32 + 5, 0},                      // none
		{32 + 5, 82},                     // no entry
		{32 + 5, 1<<16 - 16 + 3},         // a page that is not there
		{32 + 5, math.MaxUint64 - 80},    // no entry
		{0, 49},                          // another table, without that page
		{0, 177},                         // another table, with another page there
		{0, 0},                           // no table
		{0, 35},                          // Write in the directory
		{0, 257},                         // a table that is not there
		{0, 1<<40 + 33}, {32 + 5, 2 + 5}, // no entries
	}
}

// As long as the elder entry is kept it is found, and nothing agrees; behind
// Drop of the page, or Flush of the space, it is as without again.
func TestWhatChangesIsDropped(t *testing.T) {
	for _, c := range changes() {
		for _, flush := range []bool{false, true} {
			w := two(t)
			w.wantTo(1, 0, 85, true, 85, api.OK)
			w.wantTo(2, 16, 85, true, 101, api.OK)
			w.wantTo(1, 0, 261, false, 117, api.OK)
			w.wantAgrees(1, 0, true)
			w.put(c.at, c.word)
			w.wantAgrees(1, 0, false)
			w.wantTo(1, 0, 85, true, 85, api.OK)
			w.wantTo(1, 0, 80, false, 80, api.OK)
			w.wantAgrees(1, 0, false) // To does not mend it
			w.wantAgrees(2, 16, true)
			if flush {
				w.flush(1)
				w.wantSpots(spot{2, 5})
			} else {
				w.drop(1, 5)
				w.wantSpots(spot{2, 5}, spot{1, 16})
			}
			for _, a := range []int{85, 261, 0, 80} {
				w.asWithout(1, 0, a, false)
				w.asWithout(1, 0, a, true)
			}
		}
	}
}

// Drop of another page, or Flush of another space, does not help; what was
// changed back agrees by itself.
func TestWhatChangesStaysElse(t *testing.T) {
	for _, c := range changes() {
		w := two(t)
		w.wantTo(1, 0, 85, true, 85, api.OK)
		was := w.words[c.at]
		w.put(c.at, c.word)
		for _, s := range []spot{{1, 4}, {1, 6}, {1, 80}, {1, 85}, {0, 5}, {2, 5}, {5, 1}} {
			w.drop(s.space, s.page)
		}
		for _, space := range []int{0, 2, 5, 63, -1, 64} {
			w.flush(space)
		}
		w.wantAgrees(1, 0, false)
		w.wantTo(1, 0, 85, true, 85, api.OK)
		w.put(c.at, was)
		w.asWithout(1, 0, 85, true)
	}
}

// Of a directory's word all pages of its table are made: each is dropped, or
// the space is flushed.
func TestWhatChangesOfATable(t *testing.T) {
	for _, flush := range []bool{false, true} {
		w := two(t)
		w.wantTo(1, 0, 85, true, 85, api.OK)
		w.wantTo(1, 0, 5, true, 149, api.OK)
		w.wantTo(1, 0, 4095, true, 175, api.OK)
		w.put(0, 0)
		if flush {
			w.flush(1)
		} else {
			w.drop(1, 5)
			w.wantAgrees(1, 0, false)
			w.drop(1, 0)
			w.wantSpots(spot{1, 255})
		}
		for _, a := range []int{85, 5, 4095} {
			w.asWithout(1, 0, a, true)
		}
	}
}

// What is not kept does not have to be dropped: the next walk finds it.
func TestWhatIsLaidInLater(t *testing.T) {
	w := two(t)
	w.asWithout(1, 0, 22, false) // a fault, of which nothing is kept
	w.lay(0, 32, 22, 208, false)
	w.asWithout(1, 0, 22, false)
	w.wantTo(1, 0, 22, false, 214, api.OK)
	w.wantTo(1, 0, 22, true, 0, api.ErrRights)
}

// All of it at once

// anyWord is an entry's word that leads on, or nearly one.
func anyWord(n *numbers, size int) uint64 {
	place := uint64(16 * n.below(size/16+1))
	switch n.below(10) {
	case 0:
		return uint64(n.below(200))
	case 1:
		return place + 1 + 1<<(16+n.below(48))
	case 2, 3, 4:
		return place + 3
	}
	return place + 1
}

func anyEntry(n *numbers) pte.Entry {
	if n.odds(4) {
		l := noEntries()
		return l[n.below(len(l))]
	}
	return pte.Entry{Valid: true, Write: n.odds(2), At: 16 * n.below(12)}
}

// any is a call of any kind; its numbers are few, so that they meet.
func (w *world) any(n *numbers) string {
	w.Helper()
	space, dir, page := []int{0, 1, 2, 63, -1, 64}[n.below(6)], 16*n.below(3), []int{0, 1, 2, 16, 17, 18, 255, 254, 239, -1, 256}[n.below(11)]
	if n.odds(9) {
		dir = []int{8, -16, 1 << 16, math.MinInt}[n.below(4)]
	}
	switch n.below(24) {
	case 0, 1, 2:
		e := anyEntry(n)
		want := api.OK
		if _, err := pte.Pack(e); err != api.OK || !e.Valid {
			want = api.ErrField
		}
		if space < 0 || space > 63 || page < 0 || page > 255 {
			want = api.ErrRange
		}
		w.wantFill(space, page, e, want)
		return "Fill: " + want.Error()
	case 3:
		w.drop(space, page)
		return "Drop"
	case 4:
		if n.odds(3) {
			w.flush(space)
			return "Flush"
		}
	case 5, 6:
		w.put(n.below(len(w.words)), anyWord(n, len(w.words)))
	case 7, 8, 9, 10:
		if w.askAgrees(space, dir) {
			return "Agrees"
		}
		return "Agrees not"
	default:
		agreed := w.agrees(space, dir)
		a, write := 16*page+n.below(16), n.odds(2)
		walked, walkedErr := walk.To(w.m, dir, a, write)
		at, err := w.askTo(space, dir, a, write)
		if agreed && space >= 0 && space < 64 {
			if at != walked || err != walkedErr {
				w.Errorf("To(%d, %d, %d, %v): %d, error %d; a walk: %d, error %d", space, dir, a, write, at, err, walked, walkedErr)
			}
			w.wantAgrees(space, dir, true)
		}
		return "To: " + err.Error()
	}
	return "other"
}

// Memories of any words, of which directories, tables and pages are one
// another's; and calls of any kind, each held against what must be kept then.
func TestCallsOfAnyKind(t *testing.T) {
	n, seen := numbers(14), map[string]int{}
	for range 60 {
		size := 64 + n.below(120)
		w := newWorld(t, size)
		for at := range size {
			w.put(at, anyWord(&n, size))
		}
		for range 500 {
			seen[w.any(&n)]++
		}
		w.whole()
		w.drain()
	}
	for _, what := range []string{"Fill: error 0", "Fill: error 1", "Fill: error 10", "Drop", "Flush", "Agrees", "Agrees not",
		"To: error 0", "To: error 1", "To: error 5", "To: error 9", "To: error 12"} {
		if seen[what] < 200 {
			t.Errorf("%s came %d times", what, seen[what])
		}
	}
	if len(seen) != 13 {
		t.Errorf("what came: %v", seen)
	}
}
