package pte

import (
	"math"
	"testing"

	"donjon/api"
)

const all = math.MaxUint64

// right is each right entry with its word, and the other way round, counted
// up from the section Words, without a shift: from one page to the next one
// At is 16 more, and so is the word, because the bit 4 is 16.
type right struct {
	word  map[Entry]uint64
	entry map[uint64]Entry
}

func rightOnes() right {
	r := right{map[Entry]uint64{}, map[uint64]Entry{}}
	add := func(e Entry, w uint64) { r.word[e], r.entry[w] = w, e }
	add(Entry{}, 0)
	at, word := 0, uint64(1)
	for range 4096 {
		add(Entry{Valid: true, At: at}, word)
		add(Entry{Valid: true, Write: true, At: at}, word+2)
		at += 16
		word += 16
	}
	return r
}

func (r right) pack(e Entry) (uint64, api.Errno) {
	if w, ok := r.word[e]; ok {
		return w, api.OK
	}
	if e.Valid {
		return 0, api.ErrAlign
	}
	return 0, api.ErrField
}

func (r right) unpack(w uint64) (Entry, api.Errno) {
	if e, ok := r.entry[w]; ok {
		return e, api.OK
	}
	return Entry{}, api.ErrField
}

func wantPack(t *testing.T, e Entry, want uint64, wantErr api.Errno) {
	t.Helper()
	if w, err := Pack(e); w != want || err != wantErr {
		t.Errorf("Pack(%+v): %#x, error %d; not %#x, error %d", e, w, err, want, wantErr)
	}
}

func wantUnpack(t *testing.T, w uint64, want Entry, wantErr api.Errno) {
	t.Helper()
	if e, err := Unpack(w); e != want || err != wantErr {
		t.Errorf("Unpack(%#x): %+v, error %d; not %+v, error %d", w, e, err, want, wantErr)
	}
}

func wantSplit(t *testing.T, a int, want [3]int, wantErr api.Errno) {
	t.Helper()
	x, y, z, err := Split(a)
	if got := [3]int{x, y, z}; got != want || err != wantErr {
		t.Errorf("Split(%d): %v, error %d; not %v, error %d", a, got, err, want, wantErr)
	}
}

// farNumbers are far from all that may be: ends of the type, and numbers that
// are a right one if their high bits are lost, or their sign is.
func farNumbers() []int {
	l := []int{math.MinInt, math.MinInt + 1, math.MinInt + 16, math.MaxInt, math.MaxInt - 1, math.MaxInt - 15}
	for k := 17; k < 63; k++ {
		for _, near := range []int{-16, -1, 0, 1, 16, 32, 291, 4095, 1<<16 - 16} {
			l = append(l, 1<<k+near, -1<<k+near)
		}
	}
	return l
}

// eachEntry hands on entries with each At from far below the first page to far
// behind the last one, and with numbers farther off, in all four ways.
func eachEntry(see func(Entry)) {
	four := func(at int) {
		for _, e := range []Entry{{}, {Write: true}, {Valid: true}, {Valid: true, Write: true}} {
			e.At = at
			see(e)
		}
	}
	for at := -1 << 17; at <= 1<<18; at++ {
		four(at)
	}
	for _, at := range farNumbers() {
		four(at)
	}
}

// eachWord hands on each word of 20 bits, each right one with any one bit
// turned, some with any two, and words of all 64 bits.
func eachWord(r right, see func(uint64)) {
	for w := range uint64(1 << 20) {
		see(w)
	}
	for w := range r.entry {
		for i := range 64 {
			see(w ^ 1<<i)
		}
	}
	for _, w := range []uint64{0, 1, 3, 17, 35, 65521, 65523} {
		for i := range 64 {
			for j := range i {
				see(w ^ 1<<i ^ 1<<j)
			}
		}
	}
	w := uint64(88172645463325252)
	for range 1 << 16 {
		w = w*6364136223846793005 + 1442695040888963407
		see(w)
		see(w&^0xffff | 35) // what is wrong stands above the lowest 16 bits alone
	}
}

// 12.1: Pack

func TestPackExamples(t *testing.T) {
	for _, c := range []struct {
		e    Entry
		want uint64
	}{
		{Entry{}, 0},
		{Entry{Valid: true}, 1},
		{Entry{Valid: true, Write: true}, 3},
		{Entry{Valid: true, At: 16}, 17},
		{Entry{Valid: true, Write: true, At: 16}, 19},
		{Entry{Valid: true, At: 32}, 33},
		{Entry{Valid: true, Write: true, At: 32}, 35},
		{Entry{Valid: true, At: 4096}, 4097},
		{Entry{Valid: true, Write: true, At: 32768}, 32771},
		{Entry{Valid: true, At: 1<<16 - 16}, 65521},
		{Entry{Valid: true, Write: true, At: 1<<16 - 16}, 65523},
	} {
		wantPack(t, c.e, c.want, api.OK)
	}
}

func TestPackOfValidElsewhereIsErrAlign(t *testing.T) {
	for _, at := range []int{
		1, 2, 4, 8, 15, 17, 24, 31, 1<<16 - 17, 1<<16 - 15, 1<<16 - 1, // no multiples
		-1, -8, -15, -16, -17, -32, -1 << 16, math.MinInt, math.MinInt + 1, math.MinInt + 16,
		1 << 16, 1<<16 + 1, 1<<16 + 16, 1 << 17, 1<<32 + 16, math.MaxInt, math.MaxInt - 15,
	} {
		wantPack(t, Entry{Valid: true, At: at}, 0, api.ErrAlign)
		wantPack(t, Entry{Valid: true, Write: true, At: at}, 0, api.ErrAlign)
	}
}

// ErrAlign is named first, but of Valid ones alone: also where At is none of
// those that a Valid one has.
func TestPackOfNotValidIsErrField(t *testing.T) {
	wantPack(t, Entry{Write: true}, 0, api.ErrField)
	for _, at := range []int{
		16, 32, 1<<16 - 16, // a Valid one may be there
		1, 8, 15, 17, -1, -16, -17, 1<<16 - 1, 1 << 16, 1<<16 + 1, math.MinInt, math.MaxInt,
	} {
		wantPack(t, Entry{At: at}, 0, api.ErrField)
		wantPack(t, Entry{Write: true, At: at}, 0, api.ErrField)
	}
}

func TestPackOfEachEntry(t *testing.T) {
	r := rightOnes()
	eachEntry(func(e Entry) {
		want, wantErr := r.pack(e)
		wantPack(t, e, want, wantErr)
	})
}

// 12.1: Unpack

func TestUnpackExamples(t *testing.T) {
	for _, c := range []struct {
		w    uint64
		want Entry
	}{
		{0, Entry{}},
		{1, Entry{Valid: true}},
		{3, Entry{Valid: true, Write: true}},
		{17, Entry{Valid: true, At: 16}},
		{19, Entry{Valid: true, Write: true, At: 16}},
		{33, Entry{Valid: true, At: 32}},
		{35, Entry{Valid: true, Write: true, At: 32}},
		{32771, Entry{Valid: true, Write: true, At: 32768}},
		{65521, Entry{Valid: true, At: 1<<16 - 16}},
		{65523, Entry{Valid: true, Write: true, At: 1<<16 - 16}},
	} {
		wantUnpack(t, c.w, c.want, api.OK)
	}
}

func TestUnpackOfNoWordIsErrField(t *testing.T) {
	for _, w := range []uint64{
		2, 16, 18, 32, 34, 65520, 65522, // without bit 0
		4, 8, 12, 1 << 16, 1 << 32, 1 << 63, all - 1, // and with other bits
		5, 7, 9, 11, 13, 15, 37, 39, 43, 47, 65525, 65535, // bits 2 and 3
		1<<16 + 1, 1<<16 + 35, 1<<17 + 1, 1<<31 + 35, 1<<32 + 35, 1<<63 + 1, 1<<63 + 35, // above the field
		all, all &^ 12, all &^ 0xffff, all&^0xffff + 1, all&^0xffff + 35,
	} {
		wantUnpack(t, w, Entry{}, api.ErrField)
	}
}

func TestUnpackOfEachWord(t *testing.T) {
	r := rightOnes()
	eachWord(r, func(w uint64) {
		want, wantErr := r.unpack(w)
		wantUnpack(t, w, want, wantErr)
	})
}

// 12.1: Split

func TestSplitExamples(t *testing.T) {
	for _, c := range []struct {
		a    int
		want [3]int
	}{
		{0, [3]int{0, 0, 0}}, {1, [3]int{0, 0, 1}}, {15, [3]int{0, 0, 15}}, {16, [3]int{0, 1, 0}},
		{240, [3]int{0, 15, 0}}, {255, [3]int{0, 15, 15}}, {256, [3]int{1, 0, 0}}, {291, [3]int{1, 2, 3}},
		{3840, [3]int{15, 0, 0}}, {3855, [3]int{15, 0, 15}}, {4080, [3]int{15, 15, 0}}, {4095, [3]int{15, 15, 15}},
	} {
		wantSplit(t, c.a, c.want, api.OK)
	}
}

// Addresses are counted up with their places, the last place fastest.
func TestSplitOfEachAddress(t *testing.T) {
	a := 0
	for x := range 16 {
		for y := range 16 {
			for z := range 16 {
				wantSplit(t, a, [3]int{x, y, z}, api.OK)
				a++
			}
		}
	}
	if a != 4096 {
		t.Errorf("%d addresses", a)
	}
}

func TestSplitOfNoAddressIsErrRange(t *testing.T) {
	for d := 1; d <= 1<<17; d++ {
		wantSplit(t, -d, [3]int{}, api.ErrRange)
		wantSplit(t, 4095+d, [3]int{}, api.ErrRange)
	}
	for _, a := range farNumbers() {
		wantSplit(t, a, [3]int{}, api.ErrRange)
	}
}

// 12.2

// That there are 8193 of them is said too: a Pack that refuses would
// otherwise have nothing to follow.
func TestUnpackOfPackIsTheEntry(t *testing.T) {
	count := 0
	eachEntry(func(e Entry) {
		w, err := Pack(e)
		if err != api.OK {
			return
		}
		count++
		wantUnpack(t, w, e, api.OK)
	})
	if count != 8193 {
		t.Errorf("%d entries are right", count)
	}
}

func TestPackOfUnpackIsTheWord(t *testing.T) {
	count := 0
	for w := range uint64(1 << 20) {
		e, err := Unpack(w)
		if err != api.OK {
			continue
		}
		count++
		wantPack(t, e, w, api.OK)
	}
	if count != 8193 {
		t.Errorf("%d words are of right entries", count)
	}
}

func TestPlacesAreTheAddress(t *testing.T) {
	for a := range 4096 {
		x, y, z, err := Split(a)
		if err != api.OK || 256*x+16*y+z != a {
			t.Errorf("Split(%d): %d, %d, %d, error %d", a, x, y, z, err)
		}
		for _, place := range []int{x, y, z} {
			if place < 0 || place > 15 {
				t.Errorf("Split(%d): a place is %d", a, place)
			}
		}
	}
}
