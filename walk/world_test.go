package walk

import (
	"math"
	"slices"
	"testing"

	"donjon/api"
	"donjon/mem"
	"donjon/pte"
)

// world is a memory, and its words as they must be.
type world struct {
	*testing.T
	m     *mem.Mem
	words []uint64
}

// newWorld is a memory in which each word is another one, and none is an
// entry's, so that nothing is mapped, and a wrong word is told from the right
// one.
func newWorld(t *testing.T, size int) world {
	t.Helper()
	m, err := mem.New(size)
	if err != api.OK {
		t.Fatalf("mem.New(%d): error %d", size, err)
	}
	w := world{t, m, make([]uint64, size)}
	for at := range size {
		w.put(at, blank(at))
	}
	return w
}

func blank(at int) uint64 { return 1<<40 + 16*uint64(at) + 1 }

func (w world) put(at int, v uint64) {
	w.Helper()
	if err := w.m.Put(at, v); err != api.OK {
		w.Fatalf("Put(%d, %#x): error %d", at, v, err)
	}
	w.words[at] = v
}

// same holds the memory against its words as they must be.
func (w world) same() {
	w.Helper()
	got, err := w.m.Read(0, len(w.words))
	if err != api.OK || w.m.Size() != len(w.words) {
		w.Fatalf("Read(0, %d): error %d; the size is %d", len(w.words), err, w.m.Size())
	}
	if slices.Equal(got, w.words) {
		return
	}
	for at := range got {
		if got[at] != w.words[at] {
			w.Errorf("word %d is %#x, not %#x", at, got[at], w.words[at])
		}
	}
}

func (w world) wantPage(dir, a int, want pte.Entry, wantErr api.Errno) {
	w.Helper()
	if e, err := Page(w.m, dir, a); e != want || err != wantErr {
		w.Errorf("Page(%d, %d): %+v, error %d; not %+v, error %d", dir, a, e, err, want, wantErr)
	}
}

func (w world) wantTo(dir, a int, write bool, want int, wantErr api.Errno) {
	w.Helper()
	if at, err := To(w.m, dir, a, write); at != want || err != wantErr {
		w.Errorf("To(%d, %d, %v): %d, error %d; not %d, error %d", dir, a, write, at, err, want, wantErr)
	}
}

func (w world) wantLoad(dir, a int, want uint64, wantErr api.Errno) {
	w.Helper()
	if v, err := Load(w.m, dir, a); v != want || err != wantErr {
		w.Errorf("Load(%d, %d): %#x, error %d; not %#x, error %d", dir, a, v, err, want, wantErr)
	}
}

func (w world) wantStore(dir, a int, v uint64, wantErr api.Errno) {
	w.Helper()
	if err := Store(w.m, dir, a, v); err != wantErr {
		w.Errorf("Store(%d, %d, %#x): error %d, not %d", dir, a, v, err, wantErr)
	}
}

// wantRefused is Page's error from each call, and nothing changed.
func (w world) wantRefused(dir, a int, want api.Errno) {
	w.Helper()
	w.wantPage(dir, a, pte.Entry{}, want)
	w.wantTo(dir, a, false, 0, want)
	w.wantTo(dir, a, true, 0, want)
	w.wantLoad(dir, a, 0, want)
	w.wantStore(dir, a, 12345, want)
	w.same()
}

// wantAt is an address that lies there, in all four calls; at the end the
// memory is as it was.
func (w world) wantAt(dir, a, at int, write bool) {
	w.Helper()
	w.wantPage(dir, a, pte.Entry{Valid: true, Write: write, At: at - at%16}, api.OK)
	w.wantTo(dir, a, false, at, api.OK)
	w.wantLoad(dir, a, w.words[at], api.OK)
	if !write {
		w.wantTo(dir, a, true, 0, api.ErrRights)
		w.wantStore(dir, a, 12345, api.ErrRights)
		w.same()
		return
	}
	w.wantTo(dir, a, true, at, api.OK)
	was := w.words[at]
	w.wantStore(dir, a, 12345, api.OK)
	w.words[at] = 12345
	w.same()
	w.put(at, was)
}

// leadsTo is the entry of a word, counted up from the document's words: from
// one page to the next one its word is 16 more. Pages of which not all words
// are there are not counted.
func (w world) leadsTo(word uint64) (pte.Entry, bool) {
	for at := 0; at+16 <= len(w.words); at += 16 {
		switch word {
		case uint64(at) + 1:
			return pte.Entry{Valid: true, At: at}, true
		case uint64(at) + 3:
			return pte.Entry{Valid: true, Write: true, At: at}, true
		}
	}
	return pte.Entry{}, false
}

// page is what Page must answer.
func (w world) page(dir, a int) (pte.Entry, api.Errno) {
	if a < 0 || a > 4095 {
		return pte.Entry{}, api.ErrRange
	}
	if dir < 0 || dir%16 != 0 || dir > len(w.words)-16 {
		return pte.Entry{}, api.ErrAlign
	}
	table, ok := w.leadsTo(w.words[dir+a/256])
	if !ok || table.Write {
		return pte.Entry{}, api.ErrFault
	}
	page, ok := w.leadsTo(w.words[table.At+a/16%16])
	if !ok {
		return pte.Entry{}, api.ErrFault
	}
	return page, api.OK
}

// ask holds each call against what it must answer; with Store the words
// become what they must be then.
func (w world) ask(dir, a int, v uint64) api.Errno {
	w.Helper()
	e, err := w.page(dir, a)
	w.wantPage(dir, a, e, err)
	if err != api.OK {
		w.wantTo(dir, a, false, 0, err)
		w.wantTo(dir, a, true, 0, err)
		w.wantLoad(dir, a, 0, err)
		w.wantStore(dir, a, v, err)
		return err
	}
	at := e.At + a%16
	w.wantTo(dir, a, false, at, api.OK)
	w.wantLoad(dir, a, w.words[at], api.OK)
	if !e.Write {
		w.wantTo(dir, a, true, 0, api.ErrRights)
		w.wantStore(dir, a, v, api.ErrRights)
		return api.ErrRights
	}
	w.wantTo(dir, a, true, at, api.OK)
	w.wantStore(dir, a, v, api.OK)
	w.words[at] = v
	return api.OK
}

// noAddresses are about the bounds, and far out: also such as are an address
// if their high bits are lost, or their sign is.
func noAddresses() []int {
	l := []int{-1, -2, -15, -16, -17, -255, -256, -565, -4095, -4096, -4097,
		4096, 4097, 4111, 4112, 4351, 4352, 4661, 8191, 8192, 1 << 16,
		math.MinInt, math.MinInt + 1, math.MinInt + 565, math.MaxInt, math.MaxInt - 1}
	for k := 13; k < 63; k++ {
		for _, near := range []int{-1, 0, 1, 565, 4095} {
			l = append(l, 1<<k+near, -1<<k-near)
		}
	}
	return l
}

// noDirectories are places at which no directory begins in a memory of so many
// words: no multiples of 16, below 0, and where not 16 words are there.
func noDirectories(size int) []int {
	l := []int{math.MinInt, math.MinInt + 1, math.MinInt + 15, math.MinInt + 16,
		math.MaxInt, math.MaxInt - 1, math.MaxInt - 14, math.MaxInt - 15, math.MaxInt - 16, math.MaxInt - 31}
	for at := -80; at <= size+80; at++ {
		if at < 0 || at%16 != 0 || at+16 > size {
			l = append(l, at)
		}
	}
	for k := 17; k < 63; k++ {
		for _, near := range []int{-16, 0, 1, 16} {
			l = append(l, 1<<k+near, -1<<k-near)
		}
	}
	return l
}

// numbers is a row of numbers that is the same each time.
type numbers uint64

func (n *numbers) below(most int) int {
	*n = *n*6364136223846793005 + 1442695040888963407
	return int(uint64(*n) >> 33 % uint64(most))
}
