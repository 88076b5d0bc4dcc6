package space

import (
	"math"
	"testing"

	"donjon/api"
	"donjon/pte"
	"donjon/walk"
)

func TestExampleOfTheChapter(t *testing.T) {
	w := newWorld(t, 64)
	w.wantTable(0, 0, 16, api.OK)
	w.wantWord(0, 17)
	w.wantMap(0, 32, 48, true, api.OK)
	w.wantWord(16+2, 51)
	w.wantList(0, Mapping{Page: 2, At: 48, Write: true})
}

// What each call refuses first

func TestNoAddressIsErrRange(t *testing.T) {
	w := newWorld(t, 64)
	w.put(0, 17)
	w.put(2, 17)
	w.put(15, 17)
	w.put(16, 51)
	w.put(16+3, 51)
	w.put(16+15, 49)
	for _, a := range noAddresses() {
		w.wantEach(calls(0, a, 32), api.ErrRange)
	}
}

func TestNoDirectoryIsErrAlign(t *testing.T) {
	for _, size := range []int{64, 65, 79, 80} {
		for _, word := range []uint64{0, 1} {
			w := newWorld(t, size)
			for at := range size {
				w.put(at, word) // nothing is there, or all is mapped from every place
			}
			for _, dir := range noStretches(size) {
				for _, a := range []int{0, 565, 4095} {
					w.wantEach(calls(dir, a, 16), api.ErrAlign)
				}
				w.wantNoList(dir)
			}
		}
	}
}

func TestNoTableAndNoFrameIsErrAlign(t *testing.T) {
	for _, size := range []int{64, 65, 79, 80} {
		w := newWorld(t, size)
		w.put(1, 17)
		w.put(15, 17)
		for _, other := range noStretches(size) {
			for _, a := range []int{0, 565, 3839} {
				w.wantTable(0, a, other, api.ErrAlign)
			}
			for _, a := range []int{256, 256 + 53, 4095} {
				w.wantMap(0, a, other, false, api.ErrAlign)
				w.wantMap(0, a, other, true, api.ErrAlign)
			}
		}
	}
}

func TestNoStretchInTheGreatestMemory(t *testing.T) {
	w := newWorld(t, 1<<16)
	w.put(15, 17)
	for i, at := range noStretches(1 << 16) {
		c := calls(at, 4095, 16)[i%8]
		if err := c.on(w.m); err != api.ErrAlign {
			t.Errorf("%+v: error %d", c, err)
		}
		if l, err := List(w.m, at); len(l) != 0 || err != api.ErrAlign {
			t.Errorf("List(%d): %v, error %d", at, l, err)
		}
		if err := Table(w.m, 0, 0, at); err != api.ErrAlign {
			t.Errorf("Table of %d: error %d", at, err)
		}
		if err := Map(w.m, 0, 4095, at, true); err != api.ErrAlign {
			t.Errorf("Map of %d: error %d", at, err)
		}
	}
	w.same()
}

// Directory, table and frame at both ends of the memory, and one past it.
func TestStretchesAtBothEnds(t *testing.T) {
	for _, size := range sizes() {
		end := last(size)
		for _, l := range [][3]int{{0, 16, end}, {16, 0, end}, {16, end, 0}, {end, 16, 0}, {end, 0, 16}, {0, end, 16}, {0, 0, 0}, {end, end, end}} {
			dir, table, frame := l[0], l[1], l[2]
			w := newWorld(t, size)
			w.wantTable(dir, 4095, table, api.OK)
			w.wantWord(dir+15, uint64(table)+1)
			w.wantMap(dir, 15*256+3*16+5, frame, true, api.OK)
			w.wantWord(table+3, uint64(frame)+3)
			w.wantRemap(dir, 15*256+3*16, false, api.OK)
			w.wantWord(table+3, uint64(frame)+1)
			w.wantUnmap(dir, 15*256+3*16+15, api.OK)
			w.wantUntable(dir, 15*256, api.OK)
			w.wantList(dir)
		}
		w := newWorld(t, size)
		w.wantTable(0, 4095, 16, api.OK)
		w.wantEach(calls(end+16, 4095, 16), api.ErrAlign)
		w.wantNoList(end + 16)
		w.wantTable(0, 0, end+16, api.ErrAlign)
		w.wantMap(0, 4095, end+16, false, api.ErrAlign)
	}
}

// 15.1

func TestTableAtEachAddress(t *testing.T) {
	w := newWorld(t, 79)
	w.litter(32)
	for a := range 4096 {
		w.wantTable(16, a, 48, api.OK)
		w.wantWord(16+a/256, 49)
		w.wantTable(16, a, 32, api.ErrTwice)
		w.wantTable(16, a-a%256, 48, api.ErrTwice)
		w.wantTable(16, a-a%256+255, 48, api.ErrTwice)
		w.wantUntable(16, 4095-a, api.ErrNone)
		w.wantUntable(16, a, api.OK)
		w.wantWord(16+a/256, 0)
		w.wantUntable(16, a, api.ErrNone)
	}
}

func TestSeveralTablesInOneDirectory(t *testing.T) {
	w := newWorld(t, 1024)
	w.litter(32)
	for i := range 16 {
		x := i * 7 % 16 // not in their order
		w.wantTable(16, 256*x+i, 1008-32*x, api.OK)
	}
	for x := range 16 {
		w.wantWord(16+x, 1009-32*uint64(x))
		w.wantTable(16, 256*x, 0, api.ErrTwice)
	}
	for i := range 16 {
		x := i * 5 % 16
		w.wantUntable(16, 256*x+255, api.OK)
		w.wantUntable(16, 256*x, api.ErrNone)
	}
}

// What is in a table is no matter when it is laid in, or taken out.
func TestTableWithWordsInIt(t *testing.T) {
	w := newWorld(t, 64)
	w.litter(16)
	w.put(16+3, 49)
	w.wantTable(0, 565, 16, api.OK)
	w.wantList(0, Mapping{Page: 35, At: 48})
	w.wantUntable(0, 565, api.OK)
	w.wantList(0)
	w.wantTable(0, 0, 16, api.OK)
	w.wantList(0, Mapping{Page: 3, At: 48})
}

// Whatever the word is, if it is not 0: a table's, a page's, one's that leads
// out of the memory, or no entry's.
func TestTableWhereAWordIs(t *testing.T) {
	for _, x := range []int{0, 2, 15} {
		for _, word := range append(noEntries(), 1, 3, 17, 19, 33, 35, 49, 51, 65, 67, 1<<16-15, 1<<16-13) {
			w := newWorld(t, 64)
			w.put(x, word)
			w.wantTable(0, 256*x+5, 32, api.ErrTwice)
			w.wantWord(x, word)
			w.wantUntable(0, 256*x+5, api.OK)
			w.wantWord(x, 0)
			w.wantUntable(0, 256*x+5, api.ErrNone)
			w.wantTable(0, 256*x+5, 32, api.OK)
			w.wantWord(x, 33)
		}
	}
}

// One table at two places of a directory, and in two directories: each place
// is laid in and taken out by itself.
func TestOneTableAtSeveralPlaces(t *testing.T) {
	w := newWorld(t, 80)
	w.wantTable(0, 0, 32, api.OK)
	w.wantTable(0, 4095, 32, api.OK)
	w.wantTable(16, 565, 32, api.OK)
	w.wantUntable(0, 0, api.OK)
	w.wantWord(0, 0)
	w.wantWord(15, 33)
	w.wantWord(16+2, 33)
	w.wantUntable(16, 565, api.OK)
	w.wantWord(15, 33)
	w.wantUntable(16, 4095, api.ErrNone)
	w.wantUntable(0, 4095, api.OK)
}

// A directory may be its own table, and its own frame.
func TestDirectoryOfItsOwn(t *testing.T) {
	w := newWorld(t, 64)
	w.wantTable(16, 2*256, 16, api.OK)
	w.wantWord(16+2, 17)
	w.wantList(16, Mapping{Page: 34, At: 16})
	w.wantMap(16, 2*256+2*16, 48, true, api.ErrTwice) // the word that leads here itself
	w.wantMap(16, 2*256+3*16, 16, true, api.OK)
	w.wantWord(16+3, 19)
	w.wantList(16, Mapping{Page: 34, At: 16}, Mapping{Page: 35, At: 16, Write: true})
	w.wantRemap(16, 2*256+2*16, true, api.OK) // it is Write now, and leads to no table
	w.wantList(16)
	w.wantEach(pageCalls(16, 2*256+3*16, 48), api.ErrFault)
	w.wantUntable(16, 2*256, api.OK)
	w.wantUntable(16, 3*256, api.OK)
}

// 15.2: the directory's word

func TestNoTableThereIsErrFault(t *testing.T) {
	for _, inTable := range []uint64{0, 1, 3, 2} { // by itself it would be ErrNone, ErrTwice, OK, or ErrFault
		w := newWorld(t, 64)
		for at := range 64 {
			w.put(at, inTable)
		}
		for _, x := range []int{0, 2, 15} {
			for _, word := range append(noEntries(), 0, 3, 19, 35, 51, 65, 67, 81, 1<<15+1, 1<<16-31, 1<<16-15, 1<<16-13) {
				w.put(x, word)
				for _, y := range []int{0, 3, 15} {
					w.wantEach(pageCalls(0, 256*x+16*y+5, 32), api.ErrFault)
				}
			}
		}
	}
}

func TestTableBehindTheEndIsErrFault(t *testing.T) {
	for _, size := range sizes() {
		w := newWorld(t, size)
		for at := range size {
			w.put(at, 33)
		}
		for _, at := range behind(size) {
			w.put(2, uint64(at)+1)
			w.wantEach(pageCalls(0, 2*256, 32), api.ErrFault)
		}
	}
}

func TestTableThatIsTakenOut(t *testing.T) {
	w := newWorld(t, 64)
	w.wantTable(0, 565, 16, api.OK)
	w.wantMap(0, 565, 48, true, api.OK)
	w.wantUntable(0, 512, api.OK)
	w.wantEach(pageCalls(0, 565, 48), api.ErrFault)
	w.wantWord(16+3, 51)
	w.wantTable(0, 767, 16, api.OK)
	w.wantRemap(0, 565, false, api.OK)
	w.wantUnmap(0, 565, api.OK)
}

// 15.2: the table's word

func TestMapAtEachAddress(t *testing.T) {
	w := newWorld(t, 335)
	w.litter(16 + 16*16)
	for x := range 16 {
		w.wantTable(0, 256*x, 16*16-16*x, api.OK)
	}
	for a := range 4096 {
		at := 16*16 - 16*(a/256) + a/16%16
		write := a%3 == 0
		w.wantMap(0, a, 304, write, api.OK)
		w.wantList(0, Mapping{Page: a / 16, At: 304, Write: write})
		w.wantMap(0, a, 304, write, api.ErrTwice)
		w.wantRemap(0, a, !write, api.OK)
		w.wantList(0, Mapping{Page: a / 16, At: 304, Write: !write})
		w.wantRemap(0, 4095-a, write, api.ErrNone)
		w.wantUnmap(0, 4095-a, api.ErrNone)
		w.wantUnmap(0, a, api.OK)
		w.wantWord(at, 0)
		w.wantUnmap(0, a, api.ErrNone)
		w.wantRemap(0, a, write, api.ErrNone)
	}
}

// Addresses of a page are one another's; the next ones are not.
func TestAddressesOfOnePage(t *testing.T) {
	for _, page := range []int{0, 1, 15, 16, 35, 240, 254, 255} {
		w := newWorld(t, 64)
		w.wantTable(0, 16*page, 16, api.OK)
		w.wantMap(0, 16*page+7, 48, true, api.OK)
		for z := range 16 {
			w.wantMap(0, 16*page+z, 32, false, api.ErrTwice)
			w.wantRemap(0, 16*page+z, z%2 == 0, api.OK)
			w.wantList(0, Mapping{Page: page, At: 48, Write: z%2 == 0})
		}
		for _, a := range []int{16*page - 1, 16*page + 16} {
			if err := w.do(call{"Unmap", 0, a, 0, false}); err == api.OK {
				t.Errorf("page %d: Unmap(%d): OK", page, a)
			}
		}
		w.wantUnmap(0, 16*page+15, api.OK)
		w.wantList(0)
	}
}

func TestSeveralPagesInOneTable(t *testing.T) {
	w := newWorld(t, 1024)
	w.litter(32)
	for at := 16; at < 32; at++ {
		w.put(at, 0)
	}
	w.wantTable(0, 7*256, 16, api.OK)
	var want []Mapping
	for y := range 16 {
		want = append(want, Mapping{Page: 7*16 + y, At: 1008 - 32*y, Write: y%3 == 1})
	}
	for i := range 16 {
		l := want[i*11%16] // not in their order
		w.wantMap(0, 16*l.Page+i, l.At, l.Write, api.OK)
	}
	w.wantList(0, want...)
	for y := range 16 {
		want[y].Write = !want[y].Write
		w.wantRemap(0, 16*want[y].Page, want[y].Write, api.OK)
		w.wantList(0, want...)
	}
	for len(want) > 0 {
		w.wantUnmap(0, 16*want[0].Page, api.OK)
		want = want[1:]
		w.wantList(0, want...)
	}
}

// One frame at several pages, with rights of their own.
func TestOneFrameAtSeveralPages(t *testing.T) {
	w := newWorld(t, 64)
	w.wantTable(0, 0, 16, api.OK)
	w.wantMap(0, 0, 48, false, api.OK)
	w.wantMap(0, 16, 48, true, api.OK)
	w.wantMap(0, 240, 48, false, api.OK)
	w.wantRemap(0, 240, true, api.OK)
	w.wantUnmap(0, 16, api.OK)
	w.wantList(0, Mapping{Page: 0, At: 48}, Mapping{Page: 15, At: 48, Write: true})
}

func TestTwoDirectoriesShareATable(t *testing.T) {
	w := newWorld(t, 96)
	w.wantTable(0, 0, 32, api.OK)
	w.wantTable(16, 4095, 32, api.OK)
	w.wantMap(0, 3*16, 64, true, api.OK)
	w.wantMap(16, 3*16+15*256, 80, true, api.ErrTwice)
	w.wantMap(16, 4095, 80, false, api.OK)
	w.wantList(0, Mapping{Page: 3, At: 64, Write: true}, Mapping{Page: 15, At: 80})
	w.wantList(16, Mapping{Page: 243, At: 64, Write: true}, Mapping{Page: 255, At: 80})
	w.wantRemap(16, 3*16+15*256, false, api.OK)
	w.wantList(0, Mapping{Page: 3, At: 64}, Mapping{Page: 15, At: 80})
	w.wantUntable(0, 0, api.OK)
	w.wantList(0)
	w.wantList(16, Mapping{Page: 243, At: 64}, Mapping{Page: 255, At: 80})
	w.wantUnmap(0, 3*16, api.ErrFault)
	w.wantUnmap(16, 3*16+15*256, api.OK)
	w.wantList(16, Mapping{Page: 255, At: 80})
}

// Whatever the word is, if it is not 0; Remap is choosier.
func TestMapWhereAWordIs(t *testing.T) {
	for _, y := range []int{0, 3, 15} {
		for _, write := range []bool{false, true} {
			for _, word := range append(noEntries(), 1, 3, 17, 19, 33, 35, 49, 51, 65, 67, 1<<16-15, 1<<16-13) {
				w := newWorld(t, 64)
				w.put(2, 17)
				w.put(16+y, word)
				w.wantMap(0, 2*256+16*y+5, 32, write, api.ErrTwice)
				w.wantWord(16+y, word)
				w.wantUnmap(0, 2*256+16*y+5, api.OK)
				w.wantWord(16+y, 0)
				w.wantUnmap(0, 2*256+16*y+5, api.ErrNone)
				w.wantRemap(0, 2*256+16*y+5, write, api.ErrNone)
			}
		}
	}
}

func TestRemapOfNoEntryIsErrFault(t *testing.T) {
	w := newWorld(t, 64)
	w.put(2, 17)
	for _, word := range noEntries() {
		w.put(16+3, word)
		w.wantRemap(0, 565, false, api.ErrFault)
		w.wantRemap(0, 565, true, api.ErrFault)
		w.wantWord(16+3, word)
	}
}

// The entry's stretch needn't be there.
func TestRemapOfEachEntry(t *testing.T) {
	w := newWorld(t, 79)
	w.put(2, 17)
	for at := uint64(0); at < 1<<16; at += 16 {
		for _, was := range []uint64{at + 1, at + 3} {
			w.put(16+3, was)
			w.wantRemap(0, 565, false, api.OK)
			w.wantWord(16+3, at+1)
			w.put(16+3, was)
			w.wantRemap(0, 565, true, api.OK)
			w.wantWord(16+3, at+3)
		}
	}
}

func TestMapOfEachFrame(t *testing.T) {
	w := newWorld(t, 1<<16)
	w.put(2, 17)
	for frame := 0; frame < 1<<16; frame += 16 {
		write := frame%3 == 0
		want := pte.Entry{Valid: true, Write: write, At: frame}
		if err := Map(w.m, 0, 565, frame, write); err != api.OK {
			t.Fatalf("Map of %d: error %d", frame, err)
		}
		if e, err := walk.Page(w.m, 0, 565); e != want || err != api.OK {
			t.Fatalf("walk.Page: %+v, error %d; not %+v", e, err, want)
		}
		if err := Unmap(w.m, 0, 565); err != api.OK {
			t.Fatalf("Unmap of %d: error %d", frame, err)
		}
	}
	w.same()
}

// What is mapped can be walked to, and written if Write.
func TestWalksFindWhatIsMapped(t *testing.T) {
	w := newWorld(t, 64)
	w.wantTable(0, 565, 16, api.OK)
	w.wantMap(0, 565, 48, false, api.OK)
	if err := walk.Store(w.m, 0, 565, 9); err != api.ErrRights {
		t.Errorf("Store: error %d", err)
	}
	w.wantRemap(0, 565, true, api.OK)
	if err := walk.Store(w.m, 0, 565, 9); err != api.OK {
		t.Errorf("Store: error %d", err)
	}
	w.words[53] = 9
	w.same()
	w.wantUnmap(0, 565, api.OK)
	if _, err := walk.Load(w.m, 0, 565); err != api.ErrFault {
		t.Errorf("Load: error %d", err)
	}
	w.wantWord(53, 9) // what the frame holds stays
}

// The order of the errors

func TestOrderErrRangeFirst(t *testing.T) {
	w := newWorld(t, 79)
	w.put(15, 17)
	w.put(16+15, 33)
	bad := []int{math.MinInt, -16, -1, 1, 8, 64, 79, 80, math.MaxInt}
	for _, a := range []int{math.MinInt, -1, 4096, math.MaxInt} {
		for _, at := range bad {
			w.wantEach(calls(at, a, 32), api.ErrRange)
			w.wantEach(calls(at, a, at), api.ErrRange)
			w.wantEach(calls(0, a, at), api.ErrRange)
			w.wantEach(calls(16, a, at), api.ErrRange)
		}
		w.wantEach(calls(32, a, 32), api.ErrRange)
	}
}

func TestOrderErrAlignAheadOfWords(t *testing.T) {
	for _, bad := range []int{math.MinInt, -16, -1, 1, 8, 64, 79, 80, math.MaxInt} {
		w := newWorld(t, 79)
		w.put(15, 17)    // here a table is, and in it a page at the place 15
		w.put(16+15, 33) // else nothing
		for _, a := range []int{0, 565, 4080, 4095} {
			w.wantEach(calls(bad, a, 32), api.ErrAlign)
			w.wantEach(calls(bad, a, bad), api.ErrAlign)
		}
		w.wantTable(0, 4095, bad, api.ErrAlign)      // and ErrTwice
		w.wantTable(0, 0, bad, api.ErrAlign)         // else OK
		w.wantMap(0, 0, bad, true, api.ErrAlign)     // and ErrFault
		w.wantMap(0, 4095, bad, true, api.ErrAlign)  // and ErrTwice
		w.wantMap(0, 4064, bad, false, api.ErrAlign) // else OK
	}
}

// Where the directory leads to no table, what its stretch holds is no matter.
func TestOrderErrFaultAheadOfTheTablesWord(t *testing.T) {
	for _, inDirectory := range []uint64{0, 19, 21, 16, 18, 1<<16 + 17} {
		for _, inTable := range []uint64{0, 33, 35, 2} {
			w := newWorld(t, 64)
			w.put(2, inDirectory)
			w.put(16+3, inTable)
			w.wantEach(pageCalls(0, 565, 32), api.ErrFault)
		}
	}
}

// List

func TestListIsRising(t *testing.T) {
	w := newWorld(t, 1024)
	w.litter(320)
	for x, table := range map[int]int{15: 32, 0: 304, 7: 16, 8: 160} { // their order is not that of the pages
		w.wantTable(0, 256*x, table, api.OK)
	}
	w.wantMap(0, 4095, 16, true, api.OK)
	w.wantMap(0, 8*256, 1008, false, api.OK)
	w.wantMap(0, 7*256+255, 512, true, api.OK)
	w.wantMap(0, 7*256, 0, false, api.OK)
	w.wantMap(0, 255, 480, false, api.OK)
	w.wantMap(0, 0, 992, true, api.OK)
	w.wantList(0,
		Mapping{Page: 0, At: 992, Write: true}, Mapping{Page: 15, At: 480},
		Mapping{Page: 112, At: 0}, Mapping{Page: 127, At: 512, Write: true},
		Mapping{Page: 128, At: 1008}, Mapping{Page: 255, At: 16, Write: true})
}

func TestListOfAllPages(t *testing.T) {
	w := newWorld(t, 1<<16)
	var want []Mapping
	for page := range 256 {
		x, y := page/16, page%16
		w.put(16+x, uint64(1024-16*x)+1)
		frame := 1<<16 - 16 - 32*page
		word := uint64(frame) + 1
		if page%3 == 0 {
			word += 2
		}
		w.put(1024-16*x+y, word)
		want = append(want, Mapping{Page: page, At: frame, Write: page%3 == 0})
	}
	w.wantList(16, want...)
	for _, dir := range []int{0, 32, 1<<16 - 16} {
		w.wantList(dir)
	}
}

func TestListOfNothing(t *testing.T) {
	for _, size := range sizes() {
		w := newWorld(t, size)
		w.wantList(0)
		w.wantList(last(size))
		w.litter(0)
		w.wantList(0)
		w.wantList(last(size))
	}
}

// Only those are listed to which a walk leads: the others are passed over.
func TestListPassesOver(t *testing.T) {
	w := newWorld(t, 79)
	w.put(0, 17)
	w.put(1, 19)     // Write
	w.put(2, 16)     // no entry
	w.put(3, 65)     // not all words are there
	w.put(4, 17)     // the same table once more
	w.put(16, 33)    // page 0
	w.put(16+1, 65)  // not all words are there
	w.put(16+2, 34)  // no entry
	w.put(16+3, 67)  // not all words are there
	w.put(16+5, 51)  // page 5
	w.put(16+15, 49) // page 15
	w.wantList(0,
		Mapping{Page: 0, At: 32}, Mapping{Page: 5, At: 48, Write: true}, Mapping{Page: 15, At: 48},
		Mapping{Page: 64, At: 32}, Mapping{Page: 69, At: 48, Write: true}, Mapping{Page: 79, At: 48})
}

func TestListIsNew(t *testing.T) {
	w := newWorld(t, 64)
	w.put(0, 17)
	w.put(16, 51)
	w.put(16+1, 35)
	one, _ := List(w.m, 0)
	two, _ := List(w.m, 0)
	one[0], one[1] = Mapping{Page: 9}, Mapping{Page: 9}
	_ = append(one[:1], Mapping{Page: 8})
	if two[0] != (Mapping{Page: 0, At: 48, Write: true}) || two[1] != (Mapping{Page: 1, At: 32, Write: true}) {
		t.Errorf("another answer became %v", two)
	}
	w.wantList(0, two...)
}
