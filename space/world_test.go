package space

import (
	"math"
	"slices"
	"testing"

	"donjon/api"
	"donjon/mem"
)

// call is one of the five calls that change words, and what it is given.
type call struct {
	name          string
	dir, a, other int // other: the table, or the frame
	write         bool
}

func (c call) on(m *mem.Mem) api.Errno {
	switch c.name {
	case "Table":
		return Table(m, c.dir, c.a, c.other)
	case "Untable":
		return Untable(m, c.dir, c.a)
	case "Map":
		return Map(m, c.dir, c.a, c.other, c.write)
	case "Unmap":
		return Unmap(m, c.dir, c.a)
	case "Remap":
		return Remap(m, c.dir, c.a, c.write)
	}
	panic("no call: " + c.name)
}

// laysIn tells whether other counts.
func (c call) laysIn() bool { return c.name == "Table" || c.name == "Map" }

// inTables tells whether the word that is changed lies in a table.
func (c call) inTables() bool { return c.name != "Table" && c.name != "Untable" }

// pageCalls are those that change a table's word, and calls are all of them.
func pageCalls(dir, a, other int) []call {
	var l []call
	for _, write := range []bool{false, true} {
		l = append(l, call{"Map", dir, a, other, write}, call{"Unmap", dir, a, 0, false}, call{"Remap", dir, a, 0, write})
	}
	return l
}

func calls(dir, a, other int) []call {
	return append(pageCalls(dir, a, other), call{"Table", dir, a, other, false}, call{"Untable", dir, a, 0, false})
}

// world is a memory, and its words as they must be.
type world struct {
	*testing.T
	m     *mem.Mem
	words []uint64
}

// newWorld is a memory of which all words are 0.
func newWorld(t *testing.T, size int) *world {
	t.Helper()
	m, err := mem.New(size)
	if err != api.OK {
		t.Fatalf("mem.New(%d): error %d", size, err)
	}
	return &world{t, m, make([]uint64, size)}
}

func (w *world) put(at int, v uint64) {
	w.Helper()
	if err := w.m.Put(at, v); err != api.OK {
		w.Fatalf("Put(%d, %#x): error %d", at, v, err)
	}
	w.words[at] = v
}

// litter puts words of no entry all over from a place on, each another one.
func (w *world) litter(from int) {
	w.Helper()
	for at := from; at < len(w.words); at++ {
		w.put(at, 1<<40+16*uint64(at)+1)
	}
}

// same holds the memory against its words as they must be.
func (w *world) same() {
	w.Helper()
	got, err := w.m.Read(0, len(w.words))
	if err != api.OK || w.m.Size() != len(w.words) {
		w.Fatalf("Read(0, %d): error %d; the size is %d", len(w.words), err, w.m.Size())
	}
	if slices.Equal(got, w.words) {
		return
	}
	for at := range got {
		if got[at] != w.words[at] {
			w.Fatalf("word %d is %#x, not %#x", at, got[at], w.words[at])
		}
	}
}

func (w *world) isThere(at int) bool { return at >= 0 && at%16 == 0 && at <= len(w.words)-16 }

// entry is where an entry leads, and whether it is Write, by the document's
// words: its word is 1 or 3 more than a multiple of 16.
func entry(word uint64) (at int, write, ok bool) {
	if word >= 1<<16 || word%16 != 1 && word%16 != 3 {
		return 0, false, false
	}
	return int(word / 16 * 16), word%16 == 3, true
}

// table is where the table of an address is, to which a directory leads.
func (w *world) table(dir, a int) (int, bool) {
	at, write, ok := entry(w.words[dir+a/256])
	return at, ok && !write && w.isThere(at)
}

// must is what a call must answer; if it is OK, also which word is changed,
// and what becomes of it.
func (w *world) must(c call) (at int, v uint64, err api.Errno) {
	if c.a < 0 || c.a > 4095 {
		return 0, 0, api.ErrRange
	}
	if !w.isThere(c.dir) || c.laysIn() && !w.isThere(c.other) {
		return 0, 0, api.ErrAlign
	}
	at = c.dir + c.a/256
	if c.inTables() {
		table, ok := w.table(c.dir, c.a)
		if !ok {
			return 0, 0, api.ErrFault
		}
		at = table + c.a/16%16
	}
	v, err = became(c, w.words[at])
	return at, v, err
}

func became(c call, word uint64) (uint64, api.Errno) {
	bits := uint64(1)
	if c.write {
		bits = 3
	}
	if c.laysIn() {
		if word != 0 {
			return 0, api.ErrTwice
		}
		return uint64(c.other) + bits, api.OK
	}
	if word == 0 {
		return 0, api.ErrNone
	}
	if c.name != "Remap" {
		return 0, api.OK
	}
	at, _, ok := entry(word)
	if !ok {
		return 0, api.ErrFault
	}
	return uint64(at) + bits, api.OK
}

// do holds a call against what it must answer and do, and is that answer.
func (w *world) do(c call) api.Errno {
	w.Helper()
	at, v, want := w.must(c)
	if err := c.on(w.m); err != want {
		w.Fatalf("%+v: error %d, not %d", c, err, want)
	}
	if want == api.OK {
		w.words[at] = v
	}
	w.same()
	return want
}

// want is do with an answer that is known ahead.
func (w *world) want(c call, want api.Errno) {
	w.Helper()
	if err := w.do(c); err != want {
		w.Fatalf("%+v must be error %d, not %d", c, err, want)
	}
}

// wantEach is one error of all these calls.
func (w *world) wantEach(l []call, want api.Errno) {
	w.Helper()
	for _, c := range l {
		w.want(c, want)
	}
}

func (w *world) wantTable(dir, a, table int, want api.Errno) {
	w.Helper()
	w.want(call{"Table", dir, a, table, false}, want)
}

func (w *world) wantUntable(dir, a int, want api.Errno) {
	w.Helper()
	w.want(call{"Untable", dir, a, 0, false}, want)
}

func (w *world) wantMap(dir, a, frame int, write bool, want api.Errno) {
	w.Helper()
	w.want(call{"Map", dir, a, frame, write}, want)
}

func (w *world) wantUnmap(dir, a int, want api.Errno) {
	w.Helper()
	w.want(call{"Unmap", dir, a, 0, false}, want)
}

func (w *world) wantRemap(dir, a int, write bool, want api.Errno) {
	w.Helper()
	w.want(call{"Remap", dir, a, 0, write}, want)
}

func (w *world) wantWord(at int, want uint64) {
	w.Helper()
	if v, err := w.m.Get(at); v != want || err != api.OK {
		w.Fatalf("word %d is %#x, error %d; not %#x", at, v, err, want)
	}
}

// listed is what List must answer for a directory that is there.
func (w *world) listed(dir int) []Mapping {
	var l []Mapping
	for page := range 256 {
		table, ok := w.table(dir, 16*page)
		if !ok {
			continue
		}
		if at, write, ok := entry(w.words[table+page%16]); ok && w.isThere(at) {
			l = append(l, Mapping{page, at, write})
		}
	}
	return l
}

// list holds List against what it must answer, and is that answer.
func (w *world) list(dir int) []Mapping {
	w.Helper()
	l, err := List(w.m, dir)
	if !w.isThere(dir) {
		if len(l) != 0 || err != api.ErrAlign {
			w.Fatalf("List(%d): %v, error %d", dir, l, err)
		}
		return nil
	}
	if want := w.listed(dir); !slices.Equal(l, want) || err != api.OK {
		w.Fatalf("List(%d): %v, error %d; not %v", dir, l, err, want)
	}
	w.same()
	return l
}

// wantList is list with an answer that is known ahead.
func (w *world) wantList(dir int, want ...Mapping) {
	w.Helper()
	if l := w.list(dir); !slices.Equal(l, want) {
		w.Fatalf("List(%d) must be %v, not %v", dir, l, want)
	}
}

func (w *world) wantNoList(dir int) {
	w.Helper()
	if l, err := List(w.m, dir); len(l) != 0 || err != api.ErrAlign {
		w.Fatalf("List(%d): %v, error %d; not error %d", dir, l, err, api.ErrAlign)
	}
	w.same()
}

// sizes are the least memory, the greatest one, and such as have fewer than
// 16 words behind the last stretch.
func sizes() []int {
	return []int{64, 65, 72, 79, 80, 81, 95, 96, 4096, 4100, 1<<16 - 16, 1<<16 - 15, 1<<16 - 1, 1 << 16}
}

// last is where the last stretch begins that is there.
func last(size int) int { return (size - 16) / 16 * 16 }

// behind are entries' places whose stretch is not there: the first ones and
// the last ones, for a memory of that size.
func behind(size int) []int {
	var l []int
	for at := last(size) + 16; at < 1<<16 && len(l) < 3; at += 16 {
		l = append(l, at)
	}
	if size <= 1<<15 {
		l = append(l, 1<<15, 1<<16-32, 1<<16-16)
	}
	return l
}

// noAddresses are about the bounds, and far out: also such as are an address
// if their high bits are lost, or their sign is.
func noAddresses() []int {
	l := []int{-1, -2, -15, -16, -17, -255, -256, -565, -4095, -4096, -4097,
		4096, 4097, 4111, 4112, 4351, 4352, 4661, 8191, 8192, 1 << 16,
		math.MinInt, math.MinInt + 1, math.MinInt + 565, math.MaxInt, math.MaxInt - 1}
	for k := 13; k < 63; k++ {
		for _, near := range []int{-1, 0, 1, 565, 4095} {
			l = append(l, 1<<k+near, -1<<k-near)
		}
	}
	return l
}

// noStretches are places from which on no stretch is there in a memory of so
// many words: no multiples of 16, below 0, and where not 16 words are.
func noStretches(size int) []int {
	l := []int{math.MinInt, math.MinInt + 1, math.MinInt + 15, math.MinInt + 16,
		math.MaxInt, math.MaxInt - 1, math.MaxInt - 14, math.MaxInt - 15, math.MaxInt - 16, math.MaxInt - 31}
	for at := -80; at < 80; at++ {
		if at < 0 || at%16 != 0 {
			l = append(l, at)
		}
	}
	for at := size - 40; at <= size+40; at++ {
		if at%16 != 0 || at+16 > size {
			l = append(l, at)
		}
	}
	for k := 17; k < 63; k++ {
		for _, near := range []int{-16, 0, 1, 16} {
			l = append(l, 1<<k+near, -1<<k-near)
		}
	}
	return l
}

// noEntries are words of no entry. Most of them would be an entry's that leads
// on in a memory of 64 words, if a bit were lost.
func noEntries() []uint64 {
	l := []uint64{2, 4, 8, 12, 16, 18, 32, 34, 48, 50, 5, 7, 9, 11, 13, 15, 21, 23, 25, 29, 37, 39, 43, 47,
		1 << 16, 1<<16 + 1, 1<<16 + 3, 1<<16 + 33, 1 << 63, 1<<63 + 1, math.MaxUint64, math.MaxUint64 - 1, math.MaxUint64 &^ 0xffff, math.MaxUint64&^0xffff + 1}
	for k := 16; k < 64; k++ {
		l = append(l, 1<<k+17, 1<<k+33, 1<<k+35)
	}
	return l
}

// numbers is a row of numbers that is the same each time.
type numbers uint64

func (n *numbers) below(most int) int {
	*n = *n*6364136223846793005 + 1442695040888963407
	return int(uint64(*n) >> 33 % uint64(most))
}

func (n *numbers) odds(of int) bool { return n.below(of) == 0 }
