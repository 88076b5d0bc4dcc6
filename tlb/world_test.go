package tlb

import (
	"math"
	"slices"
	"testing"

	"donjon/api"
	"donjon/mem"
	"donjon/pte"
	"donjon/walk"
)

// spot is a page of a space, as the tests name it.
type spot struct{ space, page int }

// aged is an entry that must be kept, and the number of the Fill that kept it.
type aged struct {
	e    pte.Entry
	fill int
}

// world is a tlb and a memory, and what must be in them.
type world struct {
	*testing.T
	x     *Tlb
	m     *mem.Mem
	words []uint64
	kept  map[spot]aged
	fills int
	ever  []spot // all that were kept at some time
}

// newWorld keeps none; each word of its memory is another one, and none is an
// entry's, so that nothing is mapped.
func newWorld(t *testing.T, size int) *world {
	t.Helper()
	m, err := mem.New(size)
	if err != api.OK {
		t.Fatalf("mem.New(%d): error %d", size, err)
	}
	w := &world{T: t, x: New(), m: m, words: make([]uint64, size), kept: map[spot]aged{}}
	for at := range size {
		w.put(at, 1<<40+16*uint64(at)+1)
	}
	return w
}

func (w *world) put(at int, v uint64) {
	w.Helper()
	if err := w.m.Put(at, v); err != api.OK {
		w.Fatalf("Put(%d, %#x): error %d", at, v, err)
	}
	w.words[at] = v
}

// lay maps an address's page: the directory leads to the table, and that to
// the page.
func (w *world) lay(dir, table, a, page int, write bool) {
	w.Helper()
	w.put(dir+a/256, uint64(table)+1)
	word := uint64(page) + 1
	if write {
		word += 2
	}
	w.put(table+a/16%16, word)
}

// same holds the tlb and the memory against what must be in them. As many are
// kept as must be, and each of these is: so that no other one is.
func (w *world) same() {
	w.Helper()
	if w.x.Len() != len(w.kept) {
		w.Errorf("Len: %d, not %d", w.x.Len(), len(w.kept))
	}
	for _, s := range w.ever {
		w.wantKept(s)
	}
	got, err := w.m.Read(0, len(w.words))
	if err != api.OK || !slices.Equal(got, w.words) {
		w.Errorf("the memory is not as it was: error %d", err)
	}
}

func (w *world) wantKept(s spot) {
	w.Helper()
	row, want := w.kept[s]
	if e, ok := w.x.Get(s.space, s.page); e != row.e || ok != want {
		w.Errorf("Get(%d, %d): %+v, %v; not %+v, %v", s.space, s.page, e, ok, row.e, want)
	}
}

// whole is same, with each page of each space, and with numbers that are none.
func (w *world) whole() {
	w.Helper()
	w.same()
	for space := -2; space < 66; space++ {
		for page := -2; page < 258; page++ {
			w.wantKept(spot{space, page})
		}
	}
	for _, s := range noSpots() {
		w.wantKept(s)
	}
	w.same()
}

// keep is what a Fill must change.
func (w *world) keep(s spot, e pte.Entry) {
	delete(w.kept, s)
	if len(w.kept) == 8 {
		delete(w.kept, w.eldest())
	}
	w.fills++
	w.kept[s] = aged{e, w.fills}
	if !slices.Contains(w.ever, s) {
		w.ever = append(w.ever, s)
	}
}

func (w *world) eldest() spot {
	var eldest spot
	least := math.MaxInt
	for s, row := range w.kept {
		if row.fill < least {
			eldest, least = s, row.fill
		}
	}
	return eldest
}

func (w *world) fill(space, page int, e pte.Entry) {
	w.Helper()
	w.wantFill(space, page, e, api.OK)
}

func (w *world) wantFill(space, page int, e pte.Entry, want api.Errno) {
	w.Helper()
	if err := w.x.Fill(space, page, e); err != want {
		w.Errorf("Fill(%d, %d, %+v): error %d, not %d", space, page, e, err, want)
	}
	if want == api.OK {
		w.keep(spot{space, page}, e)
	}
	w.same()
}

func (w *world) drop(space, page int) {
	w.Helper()
	w.x.Drop(space, page)
	delete(w.kept, spot{space, page})
	w.same()
}

func (w *world) flush(space int) {
	w.Helper()
	w.x.Flush(space)
	for s := range w.kept {
		if s.space == space {
			delete(w.kept, s)
		}
	}
	w.same()
}

// to is what To must answer, and do.
func (w *world) to(space, dir, a int, write bool) (int, api.Errno) {
	if space < 0 || space > 63 || a < 0 || a > 4095 {
		return 0, api.ErrRange
	}
	s := spot{space, a / 16}
	if _, ok := w.kept[s]; !ok {
		e, err := walk.Page(w.m, dir, a)
		if err != api.OK {
			return 0, err
		}
		w.keep(s, e)
	}
	e := w.kept[s].e
	if write && !e.Write {
		return 0, api.ErrRights
	}
	return e.At + a%16, api.OK
}

// askTo holds To against what it must answer and do, and is that answer.
func (w *world) askTo(space, dir, a int, write bool) (int, api.Errno) {
	w.Helper()
	want, wantErr := w.to(space, dir, a, write)
	at, err := w.x.To(w.m, space, dir, a, write)
	if at != want || err != wantErr {
		w.Errorf("To(%d, %d, %d, %v): %d, error %d; not %d, error %d", space, dir, a, write, at, err, want, wantErr)
	}
	w.same()
	return want, wantErr
}

// wantTo is askTo with an answer that is known ahead.
func (w *world) wantTo(space, dir, a int, write bool, at int, err api.Errno) {
	w.Helper()
	if want, wantErr := w.askTo(space, dir, a, write); want != at || wantErr != err {
		w.Errorf("To(%d, %d, %d, %v) must be %d, error %d; not %d, error %d", space, dir, a, write, want, wantErr, at, err)
	}
}

// agrees is what Agrees must answer.
func (w *world) agrees(space, dir int) bool {
	for s, row := range w.kept {
		if s.space != space {
			continue
		}
		if e, err := walk.Page(w.m, dir, 16*s.page); err != api.OK || e != row.e {
			return false
		}
	}
	return true
}

func (w *world) askAgrees(space, dir int) bool {
	w.Helper()
	want := w.agrees(space, dir)
	if got := w.x.Agrees(w.m, space, dir); got != want {
		w.Errorf("Agrees(%d, %d): %v, not %v", space, dir, got, want)
	}
	w.same()
	return want
}

// wantAgrees is askAgrees with an answer that is known ahead.
func (w *world) wantAgrees(space, dir int, want bool) {
	w.Helper()
	if w.askAgrees(space, dir) != want {
		w.Errorf("Agrees(%d, %d) must not be %v", space, dir, want)
	}
}

// wantSpots is what is kept, told one by one.
func (w *world) wantSpots(want ...spot) {
	w.Helper()
	if w.x.Len() != len(want) {
		w.Errorf("Len: %d, not %d", w.x.Len(), len(want))
	}
	for _, s := range want {
		if _, ok := w.x.Get(s.space, s.page); !ok {
			w.Errorf("%v is not kept", s)
		}
	}
}

// drain fills in pages of a space that no test uses else, until all that were
// kept have gone: in which order they were filled in shows by that alone.
func (w *world) drain() {
	w.Helper()
	for page := range 9 {
		w.fill(62, 100+page, pte.Entry{Valid: true, At: 16 * page})
	}
}

func at(page int) pte.Entry { return pte.Entry{Valid: true, At: page} }

func writable(page int) pte.Entry { return pte.Entry{Valid: true, Write: true, At: page} }

// far are numbers far out: also such as are small ones if their high bits are
// lost, or their sign is.
func far() []int {
	l := []int{math.MinInt, math.MinInt + 1, math.MinInt + 5, math.MaxInt, math.MaxInt - 1}
	for k := 13; k < 63; k++ {
		for _, near := range []int{-1, 0, 1, 5, 63} {
			l = append(l, 1<<k+near, -1<<k-near)
		}
	}
	return l
}

func noSpaces() []int {
	return append(far(), -1, -2, -5, -62, -63, -64, -65, -256, 64, 65, 69, 127, 128, 129, 255, 256, 257, 4095, 4096)
}

func noPages() []int {
	return append(far(), -1, -2, -5, -16, -63, -64, -255, -256, -257, 256, 257, 261, 511, 512, 513, 4095, 4096)
}

func noAddresses() []int {
	return append(far(), -1, -2, -5, -15, -16, -17, -80, -256, -4095, -4096, -4097, 4096, 4097, 4101, 4111, 4112, 4176, 8191)
}

// noSpots are pages of spaces that are no numbers: one of both, or both.
func noSpots() []spot {
	var l []spot
	for _, space := range noSpaces() {
		for _, page := range []int{0, 5, 255} {
			l = append(l, spot{space, page})
		}
	}
	for _, page := range noPages() {
		for _, space := range []int{0, 5, 63, -1, 64} {
			l = append(l, spot{space, page})
		}
	}
	return l
}

// noEntries are refused: they are not Valid, or pte.Pack has an error for
// them, or both.
func noEntries() []pte.Entry {
	l := []pte.Entry{{}}
	for _, page := range []int{0, 16, 8, 1<<16 - 16, 1 << 16, -16} {
		l = append(l, pte.Entry{Write: true, At: page}, pte.Entry{At: page})
	}
	noPlaces := []int{-1, -8, -16, -17, -1 << 16, 1, 2, 8, 15, 17, 33, 1<<16 - 17, 1<<16 - 15, 1<<16 - 1, 1 << 16, 1<<16 + 16, 1<<17 + 32}
	for _, place := range append(noPlaces, math.MinInt, math.MinInt+16, math.MaxInt, math.MaxInt-15, 1<<32+16, 1<<62) {
		l = append(l, at(place), writable(place))
	}
	return l
}

// numbers is a row of numbers that is the same each time.
type numbers uint64

func (n *numbers) below(most int) int {
	*n = *n*6364136223846793005 + 1442695040888963407
	return int(uint64(*n) >> 33 % uint64(most))
}

func (n *numbers) odds(of int) bool { return n.below(of) == 0 }
