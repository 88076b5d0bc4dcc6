package walk

import (
	"math"
	"testing"

	"donjon/api"
	"donjon/pte"
)

// small is a space in 64 words: directory at 0, table at 16, page at 32 to be
// written (at the place 3), page at 48 to be read alone (at the place 4); the
// table stands at the directory's place 2.
func small(t *testing.T) world {
	t.Helper()
	w := newWorld(t, 64)
	w.put(2, 17)
	w.put(16+3, 35)
	w.put(16+4, 49)
	return w
}

const (
	written = 2*256 + 3*16 // where small's page at 32 begins
	read    = 2*256 + 4*16 // where the one at 48 does
)

// full is a space in the greatest memory of which each address lies somewhere:
// tables and pages stand there from the highest down, with a gap after each,
// so that no place follows from another one by its number. Every third page
// may not be written.
func full(t *testing.T, dir int) (w world, at [4096]int, write [4096]bool) {
	t.Helper()
	w = newWorld(t, 1<<16)
	next := 1<<16 - 16
	room := func() int {
		if next == dir {
			next -= 32
		}
		next -= 32
		return next + 32
	}
	for x := range 16 {
		table := room()
		w.put(dir+x, uint64(table)+1)
		for y := range 16 {
			page, may := room(), (x+y)%3 != 0
			word := uint64(page) + 1
			if may {
				word += 2
			}
			w.put(table+y, word)
			for z := range 16 {
				a := 256*x + 16*y + z
				at[a], write[a] = page+z, may
			}
		}
	}
	return w, at, write
}

// sizes are the least memory, the greatest one, and such as have fewer than
// 16 words behind the last page.
func sizes() []int {
	return []int{64, 65, 72, 79, 80, 81, 95, 96, 4096, 4100, 1<<16 - 16, 1<<16 - 15, 1<<16 - 1, 1 << 16}
}

// lastPage is where the last 16 words begin at which a page can be.
func lastPage(size int) int { return (size - 16) / 16 * 16 }

// 13.1

func TestExampleOfTheChapter(t *testing.T) {
	w := small(t)
	w.wantPage(0, written+5, pte.Entry{Valid: true, Write: true, At: 32}, api.OK)
	w.wantAt(0, written+5, 37, true)
	w.wantAt(0, read+5, 53, false)
}

func TestPageOfEachAddress(t *testing.T) {
	for _, dir := range []int{0, 16, 32768, 1<<16 - 16} {
		w, at, write := full(t, dir)
		for a := range 4096 {
			w.wantPage(dir, a, pte.Entry{Valid: true, Write: write[a], At: at[a] - a%16}, api.OK)
		}
		w.same()
	}
}

// What lies about an address is not mapped: the one that is found is found by
// its own places alone.
func TestEachPlaceAtItsEnds(t *testing.T) {
	for _, x := range []int{0, 1, 7, 8, 14, 15} {
		for _, y := range []int{0, 1, 7, 8, 14, 15} {
			w := newWorld(t, 64)
			w.put(16+x, 49)
			w.put(48+y, 3)
			for _, z := range []int{0, 1, 7, 8, 14, 15} {
				w.wantAt(16, 256*x+16*y+z, z, true)
			}
			for a := range 4096 {
				if a/16 != 16*x+y {
					w.wantPage(16, a, pte.Entry{}, api.ErrFault)
				}
			}
		}
	}
}

func TestNoAddressIsErrRange(t *testing.T) {
	w := small(t)
	for _, a := range noAddresses() {
		w.wantRefused(0, a, api.ErrRange)
	}
}

func TestNoDirectoryIsErrAlign(t *testing.T) {
	for _, size := range []int{64, 65, 79, 80} {
		w := newWorld(t, size)
		for at := range size {
			w.put(at, 1) // from every place an address would be found
		}
		for _, dir := range noDirectories(size) {
			for _, a := range []int{0, 565, 4095} {
				w.wantRefused(dir, a, api.ErrAlign)
			}
		}
		for dir := 0; dir+16 <= size; dir += 16 {
			w.wantAt(dir, 565, 5, false)
		}
	}
}

func TestNoDirectoryInTheGreatestMemory(t *testing.T) {
	w := newWorld(t, 1<<16)
	for at := range 1 << 16 {
		w.put(at, 1)
	}
	for _, dir := range noDirectories(1 << 16) {
		w.wantPage(dir, 565, pte.Entry{}, api.ErrAlign)
		w.wantStore(dir, 565, 12345, api.ErrAlign)
	}
	w.same()
}

func TestDirectoryAtBothEnds(t *testing.T) {
	for _, size := range sizes() {
		for _, dir := range []int{0, lastPage(size)} {
			w := newWorld(t, size)
			w.put(dir, 17)
			w.put(dir+15, 17)
			w.put(16, 35)
			w.put(16+15, 35)
			for _, a := range []int{0, 5, 15, 240, 255, 3840, 3855, 4080, 4095} {
				w.wantAt(dir, a, 32+a%16, true)
			}
			for _, a := range []int{16, 239, 256, 3839, 3856, 4079} {
				w.wantRefused(dir, a, api.ErrFault)
			}
		}
	}
}

func TestTableAtTheEnd(t *testing.T) {
	for _, size := range sizes() {
		last := lastPage(size)
		w := newWorld(t, size)
		w.put(2, uint64(last)+1)
		w.put(last, 33)
		w.put(last+15, 35)
		w.wantAt(0, 2*256+5, 37, false)
		w.wantAt(0, 2*256+15*16+5, 37, true)
	}
}

func TestPageAtTheEnd(t *testing.T) {
	for _, size := range sizes() {
		last := lastPage(size)
		w := newWorld(t, size)
		w.put(2, 17)
		w.put(16, uint64(last)+1)
		w.put(16+15, uint64(last)+3)
		for _, z := range []int{0, 5, 15} {
			w.wantAt(0, 2*256+z, last+z, false)
			w.wantAt(0, 2*256+15*16+z, last+z, true)
		}
	}
}

// behind are entries' places of which not all 16 words are there: the first
// ones and the last ones, for a memory of that size.
func behind(size int) []int {
	var l []int
	for at := lastPage(size) + 16; at < 1<<16 && len(l) < 4; at += 16 {
		l = append(l, at)
	}
	if size <= 1<<15 {
		l = append(l, 1<<15, 1<<16-32, 1<<16-16)
	}
	return l
}

func TestTableBehindTheEndIsErrFault(t *testing.T) {
	for _, size := range sizes() {
		w := newWorld(t, size)
		for at := range size {
			w.put(at, 33) // what is there of such a table would lead to a page
		}
		for _, at := range behind(size) {
			w.put(2, uint64(at)+1)
			w.wantRefused(0, 2*256+5, api.ErrFault)
			w.wantRefused(0, 2*256+15*16, api.ErrFault)
		}
	}
}

func TestPageBehindTheEndIsErrFault(t *testing.T) {
	for _, size := range sizes() {
		w := newWorld(t, size)
		w.put(2, 17)
		for _, at := range behind(size) {
			for _, word := range []uint64{uint64(at) + 1, uint64(at) + 3} {
				w.put(16, word)
				w.wantRefused(0, 2*256, api.ErrFault)
				w.wantRefused(0, 2*256+15, api.ErrFault)
			}
		}
	}
}

// noEntries are words of no entry, and of the one that is not Valid. Most of
// them would be a page's in a memory of 64 words, if a bit were lost.
func noEntries() []uint64 {
	l := []uint64{0, 2, 4, 8, 12, 16, 18, 32, 34, 48, 50, 5, 7, 9, 11, 13, 15, 21, 23, 25, 29, 37, 39, 43, 47,
		1 << 16, 1<<16 + 1, 1<<16 + 3, 1<<16 + 33, 1 << 63, 1<<63 + 1, math.MaxUint64, math.MaxUint64 - 1, math.MaxUint64 &^ 0xffff, math.MaxUint64&^0xffff + 1}
	for k := 16; k < 64; k++ {
		l = append(l, 1<<k+17, 1<<k+33, 1<<k+35)
	}
	return l
}

func TestNoEntryInTheDirectoryIsErrFault(t *testing.T) {
	w := small(t)
	for _, word := range noEntries() {
		w.put(2, word)
		w.wantRefused(0, written+5, api.ErrFault)
		w.wantRefused(0, read+5, api.ErrFault)
	}
	w.put(2, 17)
	w.wantAt(0, written+5, 37, true)
}

func TestNoEntryInTheTableIsErrFault(t *testing.T) {
	w := small(t)
	for _, word := range noEntries() {
		w.put(16+3, word)
		w.wantRefused(0, written, api.ErrFault)
		w.wantRefused(0, written+15, api.ErrFault)
		w.wantAt(0, read+5, 53, false)
	}
}

// That a directory's entry is Write is refused, whatever is to be done; a
// page's may be.
func TestWriteInTheDirectoryIsErrFault(t *testing.T) {
	w := small(t)
	for _, word := range []uint64{3, 19, 35, 51} {
		w.put(2, word)
		for y := range 16 {
			w.wantRefused(0, 2*256+16*y+5, api.ErrFault)
		}
	}
	w.put(2, 17)
	w.put(16+3, 3)
	w.wantAt(0, written+5, 5, true)
}

// Where two errors could apply it is the one that is named first.
func TestOrderOfPagesErrors(t *testing.T) {
	w := newWorld(t, 79) // nothing is mapped
	for _, dir := range []int{math.MinInt, -16, -1, 1, 8, 72, 79, 80, math.MaxInt} {
		for _, a := range []int{math.MinInt, -1, 4096, math.MaxInt} {
			w.wantRefused(dir, a, api.ErrRange) // and ErrAlign, and ErrFault
		}
		for _, a := range []int{0, 565, 4095} {
			w.wantRefused(dir, a, api.ErrAlign) // and ErrFault
		}
	}
	for _, dir := range []int{0, 16, 48} {
		w.wantRefused(dir, 4096, api.ErrRange) // and ErrFault
		w.wantRefused(dir, 4095, api.ErrFault)
	}
}

// Tables and pages may be one another, and the directory.
func TestTablesOfTheirOwn(t *testing.T) {
	w := newWorld(t, 64)
	w.put(16+2, 17) // the directory is its own table, and its own page
	w.wantAt(16, 2*256+2*16+5, 16+5, false)
	w.put(16+3, 49)
	w.put(48+3, 51) // a table is its own page
	w.wantAt(16, 3*256+3*16+5, 48+5, true)
	w.put(16+4, 49) // one table at two places
	w.wantAt(16, 4*256+3*16+5, 48+5, true)
	w.put(48+4, 33) // one page at two places, with other rights
	w.put(48+5, 35)
	w.wantAt(16, 3*256+4*16+15, 47, false)
	w.wantAt(16, 3*256+5*16+15, 47, true)
}

// 13.2

func TestToOfEachAddress(t *testing.T) {
	w, at, write := full(t, 32)
	for a := range 4096 {
		w.wantTo(32, a, false, at[a], api.OK)
		if write[a] {
			w.wantTo(32, a, true, at[a], api.OK)
		} else {
			w.wantTo(32, a, true, 0, api.ErrRights)
		}
	}
	w.same()
}

func TestLoadOfEachAddress(t *testing.T) {
	w, at, _ := full(t, 32)
	for a := range 4096 {
		w.wantLoad(32, a, w.words[at[a]], api.OK)
	}
	w.same()
}

func TestStoreOfEachAddress(t *testing.T) {
	w, at, write := full(t, 32)
	for a := range 4096 {
		v := math.MaxUint64 - uint64(a)
		if !write[a] {
			w.wantStore(32, a, v, api.ErrRights)
			continue
		}
		w.wantStore(32, a, v, api.OK)
		w.words[at[a]] = v
	}
	w.same()
}

func TestStoreOfAllKindsOfWords(t *testing.T) {
	w := small(t)
	for _, v := range []uint64{0, 1, 2, 3, 17, 35, 1 << 32, 1 << 63, math.MaxInt64, math.MaxUint64} {
		w.wantStore(0, written+5, v, api.OK)
		w.words[37] = v
		w.same()
		w.wantLoad(0, written+5, v, api.OK)
	}
}

// What may not be written may still be read, before and after.
func TestWithoutTheRight(t *testing.T) {
	w := small(t)
	for z := range 16 {
		w.wantTo(0, read+z, true, 0, api.ErrRights)
		w.wantStore(0, read+z, 12345, api.ErrRights)
		w.same()
		w.wantTo(0, read+z, false, 48+z, api.OK)
		w.wantLoad(0, read+z, blank(48+z), api.OK)
	}
}

// Page's errors are named ahead of ErrRights: here the entry is never Write.
func TestOrderOfTosErrors(t *testing.T) {
	w := newWorld(t, 79)
	w.put(2, 17)
	w.put(16+3, 33)
	w.put(16+4, 65) // 15 words are there from 64 on
	w.put(16+5, 32) // not Valid
	w.wantTo(0, written, true, 0, api.ErrRights)
	w.wantRefused(0, read, api.ErrFault)
	w.wantRefused(0, read+16, api.ErrFault)
	w.wantRefused(8, written, api.ErrAlign)
	w.wantRefused(0, written+4096, api.ErrRange)
}

// 13.3

// Each value is stored from one address, and then all are loaded: of the last
// ones, too, nothing was changed by those before.
func TestLoadIsWhatWasStored(t *testing.T) {
	w, at, write := full(t, 32)
	for a := range 4096 {
		if !write[a] {
			continue
		}
		v := uint64(a)*16 + 1 // an entry's word: it must mean nothing here
		w.wantStore(32, a, v, api.OK)
		w.wantLoad(32, a, v, api.OK)
		w.words[at[a]] = v
	}
	w.same()
	for a := range 4096 {
		w.wantLoad(32, a, w.words[at[a]], api.OK)
	}
}

// One page at several addresses: what was stored from one of them is loaded
// from each.
func TestLoadFromEachAddressOfThePage(t *testing.T) {
	w := newWorld(t, 79)
	tables := map[int]int{0: 16, 7: 32, 15: 16} // by the directory's place
	for x, table := range tables {
		w.put(x, uint64(table)+1)
	}
	for _, at := range []int{16, 16 + 9, 32 + 15} {
		w.put(at, 51)
	}
	w.put(32, 49) // to be read alone
	pages := []int{0*256 + 0*16, 0*256 + 9*16, 7*256 + 0*16, 7*256 + 15*16, 15*256 + 0*16, 15*256 + 9*16}
	v := uint64(1000)
	for z := range 16 {
		for _, from := range pages {
			if from == 7*256 {
				w.wantStore(0, from+z, v, api.ErrRights)
				continue
			}
			v++
			w.wantStore(0, from+z, v, api.OK)
			w.words[48+z] = v
			w.same()
			for _, to := range pages {
				w.wantLoad(0, to+z, v, api.OK)
			}
		}
	}
}

// Where the page is one of its own tables, Store is OK, and what comes then
// goes by the tables as they are.
func TestStoreIntoItsOwnTables(t *testing.T) {
	w := newWorld(t, 64)
	w.put(0, 17)
	w.put(16, 19)   // the table, as a page
	w.put(16+1, 3)  // the directory, as a page
	w.put(16+2, 35) // a page
	w.wantAt(0, 2*16+5, 37, true)
	store := func(a, at int, v uint64) {
		t.Helper()
		w.wantStore(0, a, v, api.OK)
		w.words[at] = v
		w.same()
	}
	store(2, 18, 49) // the third page is the one at 48 now, to be read alone
	w.wantAt(0, 2*16+5, 53, false)
	w.wantLoad(0, 2, 49, api.OK)
	store(0, 16, 17) // the table may not be written any more
	w.wantStore(0, 2, 35, api.ErrRights)
	w.wantLoad(0, 0, 17, api.OK)
	store(16, 0, 0) // the directory leads nowhere any more
	for a := range 3 * 16 {
		w.wantRefused(0, a, api.ErrFault)
	}
}

func TestAddressesOfOnePageLieInOneStretch(t *testing.T) {
	w, _, write := full(t, 32)
	seen := map[int]int{}
	for a := range 4096 {
		first, err := To(w.m, 32, a-a%16, false)
		if err != api.OK || first%16 != 0 {
			t.Fatalf("To(%d): %d, error %d", a-a%16, first, err)
		}
		w.wantTo(32, a, false, first+a%16, api.OK)
		if write[a] {
			w.wantTo(32, a, true, first+a%16, api.OK)
		}
		seen[first]++
	}
	if len(seen) != 256 {
		t.Errorf("%d stretches", len(seen))
	}
	for first, n := range seen {
		if n != 16 {
			t.Errorf("%d addresses lie in the stretch from %d on", n, first)
		}
	}
}

// All of it at once

// Memories of any words: most are entries' that lead on, so that directories,
// tables and pages are one another's, and Store changes them on the way.
func TestMemoriesOfAnyWords(t *testing.T) {
	n := numbers(13)
	seen := map[api.Errno]int{}
	for range 300 {
		size := 64 + n.below(80)
		w := newWorld(t, size)
		for at := range size {
			w.put(at, anyWord(&n, size))
		}
		dirs := []int{0, 16, 32, 48, lastPage(size), n.below(size), noDirectories(size)[n.below(40)]}
		for range 400 {
			a := n.below(4096)
			if n.below(50) == 0 {
				a = noAddresses()[n.below(200)]
			}
			seen[w.ask(dirs[n.below(len(dirs))], a, anyWord(&n, size))]++
			w.same()
		}
	}
	for _, err := range []api.Errno{api.OK, api.ErrRange, api.ErrAlign, api.ErrFault, api.ErrRights} {
		if seen[err] < 300 {
			t.Errorf("error %d came %d times", err, seen[err])
		}
	}
	if len(seen) != 5 {
		t.Errorf("errors: %v", seen)
	}
}

// anyWord is an entry's word that leads on, or nearly one, or any word.
func anyWord(n *numbers, size int) uint64 {
	at := 16 * n.below(size/16+1) // the last one may be behind the end
	switch n.below(12) {
	case 0:
		return uint64(n.below(200))
	case 1:
		return uint64(at+1) + 1<<(n.below(48)+16)
	case 2, 3, 4, 5:
		return uint64(at) + 3
	}
	return uint64(at) + 1
}

// Each call walks anew, in the memory that it is given.
func TestNothingIsKept(t *testing.T) {
	w, other := small(t), small(t)
	w.wantAt(0, written+5, 37, true)
	w.put(16+3, 49)
	w.wantAt(0, written+5, 53, false)
	w.put(2, 0)
	w.wantRefused(0, written+5, api.ErrFault)
	other.wantAt(0, written+5, 37, true)
}
