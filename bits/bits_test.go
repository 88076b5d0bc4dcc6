package bits

import (
	"math"
	"strconv"
	"strings"
	"testing"

	"donjon/api"
)

const all = math.MaxUint64

// words are edges (no bit, one, all but one, all) and patterns of which no
// shift or turn is the pattern itself.
func words() []uint64 {
	l := []uint64{0, 1, 2, 80, 1 << 31, 1 << 32, 1<<32 - 1, 1 << 63, 1<<63 - 1, all - 1, all,
		0x0123456789abcdef, 0xfedcba9876543210, 0xaaaaaaaaaaaaaaaa, 0x8000000000000001}
	w := uint64(88172645463325252)
	for range 20 {
		w = w*6364136223846793005 + 1442695040888963407
		l = append(l, w)
	}
	return l
}

// numeral is a word as 64 numerals, the highest bit first: the tests' own way
// to say what a field is, without a shift.
func numeral(w uint64) string {
	s := strconv.FormatUint(w, 2)
	return strings.Repeat("0", 64-len(s)) + s
}

func number(t *testing.T, s string) uint64 {
	t.Helper()
	w, err := strconv.ParseUint(s, 2, 64)
	if err != nil {
		t.Fatal(err)
	}
	return w
}

// eachField hands on all that are fields.
func eachField(f func(at, n int)) {
	for n := 1; n <= 64; n++ {
		for at := 0; at+n <= 64; at++ {
			f(at, n)
		}
	}
}

// greatest is the greatest number of n bits.
func greatest(t *testing.T, n int) uint64 { return number(t, strings.Repeat("1", n)) }

// noFields are places and lengths that are none: each bound passed by one, by
// much, and such that at and n together would leave their type.
var noFields = [][2]int{
	{0, 0}, {5, 0}, {63, 0}, {64, 0},
	{0, -1}, {5, -1}, {64, -1}, {65, -1}, {0, math.MinInt},
	{-1, 1}, {-1, 2}, {-1, 64}, {-1, 65}, {math.MinInt, 1}, {math.MinInt, 64},
	{0, 65}, {0, 128}, {0, math.MaxInt}, {1, math.MaxInt}, {63, math.MaxInt},
	{64, 1}, {65, 1}, {64, 64}, {63, 2}, {60, 5}, {1, 64}, {32, 33},
	{math.MaxInt, 1}, {math.MaxInt, 64}, {math.MaxInt, math.MaxInt},
	{math.MinInt, math.MinInt}, {math.MinInt, math.MaxInt}, {math.MaxInt, math.MinInt}, {-64, 128},
}

func wantGet(t *testing.T, w uint64, at, n int, want uint64) {
	t.Helper()
	if v, e := Get(w, at, n); v != want || e != api.OK {
		t.Errorf("Get(%#x, %d, %d): %#x, %v; not %#x", w, at, n, v, e, want)
	}
}

func wantPut(t *testing.T, w uint64, at, n int, v, want uint64) {
	t.Helper()
	if x, e := Put(w, at, n, v); x != want || e != api.OK {
		t.Errorf("Put(%#x, %d, %d, %#x): %#x, %v; not %#x", w, at, n, v, x, e, want)
	}
}

// 1.1

func TestGetExamples(t *testing.T) {
	wantGet(t, 80, 4, 3, 5)
	wantGet(t, 0x0123456789abcdef, 0, 4, 0xf)
	wantGet(t, 0x0123456789abcdef, 60, 4, 0)
	wantGet(t, 0x0123456789abcdef, 8, 16, 0xabcd)
	wantGet(t, 0x8000000000000001, 0, 1, 1)
	wantGet(t, 0x8000000000000001, 63, 1, 1)
	wantGet(t, 0x8000000000000001, 1, 62, 0)
	wantGet(t, all, 0, 64, all)
	wantGet(t, all, 1, 63, 1<<63-1)
	wantGet(t, 0, 0, 64, 0)
}

func TestGetOfEachField(t *testing.T) {
	for _, w := range words() {
		s := numeral(w)
		eachField(func(at, n int) {
			wantGet(t, w, at, n, number(t, s[64-at-n:64-at]))
		})
	}
}

func TestPutExamples(t *testing.T) {
	wantPut(t, 0, 4, 3, 5, 80)
	wantPut(t, 80, 4, 3, 2, 32)
	wantPut(t, 80, 4, 3, 0, 0)
	wantPut(t, all, 0, 1, 0, all-1)
	wantPut(t, all, 63, 1, 0, 1<<63-1)
	wantPut(t, 0, 63, 1, 1, 1<<63)
	wantPut(t, 0x0123456789abcdef, 0, 64, 0xfedcba9876543210, 0xfedcba9876543210)
	wantPut(t, 0, 0, 64, all, all)
	wantPut(t, all, 0, 64, 0, 0)
}

func TestPutInEachField(t *testing.T) {
	for _, w := range words() {
		s := numeral(w)
		eachField(func(at, n int) {
			for _, v := range []uint64{0, 1, greatest(t, n), 0xc5a3965a3c0ff0e7 & greatest(t, n)} {
				x := numeral(v)
				want := number(t, s[:64-at-n]+x[64-n:]+s[64-at:])
				wantPut(t, w, at, n, v, want)
			}
		})
	}
}

func TestNoFieldIsErrRange(t *testing.T) {
	for _, f := range noFields {
		for _, w := range []uint64{0, 80, all} {
			if v, e := Get(w, f[0], f[1]); v != 0 || e != api.ErrRange {
				t.Errorf("Get(%#x, %d, %d): %#x, %v", w, f[0], f[1], v, e)
			}
			if x, e := Put(w, f[0], f[1], 0); x != 0 || e != api.ErrRange {
				t.Errorf("Put(%#x, %d, %d, 0): %#x, %v", w, f[0], f[1], x, e)
			}
		}
	}
}

func TestFieldsNearTheWordsEnd(t *testing.T) {
	for at := -3; at <= 67; at++ {
		for n := -3; n <= 67; n++ {
			want := api.ErrRange
			if n >= 1 && at >= 0 && at+n <= 64 {
				want = api.OK
			}
			if _, e := Get(all, at, n); e != want {
				t.Errorf("Get at %d, %d bits: %v, not %v", at, n, e, want)
			}
			if _, e := Put(all, at, n, 0); e != want {
				t.Errorf("Put at %d, %d bits: %v, not %v", at, n, e, want)
			}
		}
	}
}

func TestValueWithMoreBitsIsErrField(t *testing.T) {
	eachField(func(at, n int) {
		if n == 64 {
			return // no word needs more
		}
		least := greatest(t, n) + 1
		for _, v := range []uint64{least, least + 1, 1 << 63, all} {
			if x, e := Put(all, at, n, v); x != 0 || e != api.ErrField {
				t.Errorf("Put at %d, %d bits, %#x: %#x, %v", at, n, v, x, e)
			}
		}
	})
}

func TestNoFieldComesAheadOfTheValue(t *testing.T) {
	for _, f := range noFields {
		if x, e := Put(80, f[0], f[1], all); x != 0 || e != api.ErrRange {
			t.Errorf("Put(80, %d, %d, all): %#x, %v", f[0], f[1], x, e)
		}
	}
}

// 1.2

func TestOnesHighLow(t *testing.T) {
	for _, c := range []struct {
		w               uint64
		ones, high, low int
	}{
		{0, 0, -1, -1}, {1, 1, 0, 0}, {2, 1, 1, 1}, {80, 2, 6, 4}, {1 << 63, 1, 63, 63},
		{1 << 32, 1, 32, 32}, {1 << 31, 1, 31, 31}, {0x8000000000000001, 2, 63, 0},
		{all, 64, 63, 0}, {all - 1, 63, 63, 1}, {1<<63 - 1, 63, 62, 0},
	} {
		if o, h, l := Ones(c.w), High(c.w), Low(c.w); o != c.ones || h != c.high || l != c.low {
			t.Errorf("%#x: ones %d, high %d, low %d", c.w, o, h, l)
		}
	}
}

func TestOnesHighLowOfNumerals(t *testing.T) {
	for _, w := range words() {
		s := numeral(w)
		ones, high, low := strings.Count(s, "1"), -1, -1
		if ones > 0 {
			high, low = 63-strings.Index(s, "1"), 63-strings.LastIndex(s, "1")
		}
		if o, h, l := Ones(w), High(w), Low(w); o != ones || h != high || l != low {
			t.Errorf("%#x: ones %d, high %d, low %d; not %d, %d, %d", w, o, h, l, ones, high, low)
		}
	}
}

func TestEachTwoBits(t *testing.T) {
	for i := range 64 {
		for j := range i {
			w := uint64(1)<<i + uint64(1)<<j
			if Ones(w) != 2 || High(w) != i || Low(w) != j {
				t.Errorf("bits %d and %d: ones %d, high %d, low %d", i, j, Ones(w), High(w), Low(w))
			}
		}
	}
}

func TestUpExamples(t *testing.T) {
	const most = 1 << 40
	for _, c := range []struct{ n, k, want int }{
		{5, 2, 8}, {4, 2, 4}, {8, 2, 8}, {9, 2, 12}, {1, 4, 16}, {15, 4, 16}, {16, 4, 16}, {17, 4, 32},
		{0, 0, 0}, {0, 2, 0}, {0, 40, 0}, {1, 0, 1}, {1, 40, most}, {most - 1, 40, most},
		{most, 0, most}, {most, 1, most}, {most, 39, most}, {most, 40, most},
		{most - 1, 0, most - 1}, {most - 1, 1, most}, {most/2 + 1, 39, most},
	} {
		if u, e := Up(c.n, c.k); u != c.want || e != api.OK {
			t.Errorf("Up(%d, %d): %d, %v; not %d", c.n, c.k, u, e, c.want)
		}
	}
}

// TestUpIsTheLeast: a multiple, not below n, and the one ahead of it is below.
func TestUpIsTheLeast(t *testing.T) {
	for k := 0; k <= 40; k++ {
		step := 1
		for range k {
			step *= 2
		}
		for _, n := range []int{0, 1, 2, 3, 5, 63, 64, 65, 1000003, step - 1, step, step + 1, 3*step - 1, 3 * step, 3*step + 1, 1<<40 - 1, 1 << 40} {
			if n > 1<<40 {
				continue
			}
			u, e := Up(n, k)
			if e != api.OK || u%step != 0 || u < n || u-step >= n {
				t.Errorf("Up(%d, %d): %d, %v", n, k, u, e)
			}
		}
	}
}

func TestUpOutsideIsErrRange(t *testing.T) {
	for _, c := range [][2]int{
		{-1, 0}, {-1, 2}, {-1, 40}, {math.MinInt, 0}, {math.MinInt, 40},
		{1<<40 + 1, 0}, {1<<40 + 1, 40}, {math.MaxInt, 0}, {math.MaxInt, 40},
		{0, -1}, {5, -1}, {1 << 40, -1}, {5, math.MinInt},
		{0, 41}, {5, 41}, {1 << 40, 41}, {5, 63}, {5, 64}, {5, math.MaxInt},
		{-1, -1}, {-1, 41}, {1<<40 + 1, -1}, {1<<40 + 1, 41}, {math.MinInt, math.MinInt}, {math.MaxInt, math.MaxInt},
	} {
		if u, e := Up(c[0], c[1]); u != 0 || e != api.ErrRange {
			t.Errorf("Up(%d, %d): %d, %v", c[0], c[1], u, e)
		}
	}
}

// 1.3

func TestGetOfPutIsWhatWasPut(t *testing.T) {
	for _, w := range words() {
		eachField(func(at, n int) {
			for _, v := range []uint64{0, 1, greatest(t, n), ^w & greatest(t, n)} {
				x, e := Put(w, at, n, v)
				if e != api.OK {
					t.Fatalf("Put(%#x, %d, %d, %#x): %v", w, at, n, v, e)
				}
				wantGet(t, x, at, n, v)
				for _, other := range [][2]int{{0, at}, {at + n, 64 - at - n}} {
					if other[1] == 0 {
						continue // the field begins, or ends, with the word
					}
					was, _ := Get(w, other[0], other[1])
					wantGet(t, x, other[0], other[1], was)
				}
			}
		})
	}
}

func TestPutOfGetIsTheWord(t *testing.T) {
	for _, w := range words() {
		eachField(func(at, n int) {
			v, e := Get(w, at, n)
			if e != api.OK {
				t.Fatalf("Get(%#x, %d, %d): %v", w, at, n, e)
			}
			wantPut(t, w, at, n, v, w)
		})
	}
}
