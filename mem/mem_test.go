package mem

import (
	"math"
	"slices"
	"testing"

	"donjon/api"
)

const all = math.MaxUint64

func made(t *testing.T, n int) *Mem {
	t.Helper()
	m, e := New(n)
	if m == nil || e != api.OK {
		t.Fatalf("New(%d): %v, %v", n, m, e)
	}
	return m
}

// mark is a word that tells its address, and is nowhere 0.
func mark(a int) uint64 { return uint64(a+1) * 0x9e3779b97f4a7c15 }

// marked is a memory each word of which tells where it was put.
func marked(t *testing.T, n int) *Mem {
	t.Helper()
	m := made(t, n)
	for a := range n {
		if e := m.Put(a, mark(a)); e != api.OK {
			t.Fatalf("Put(%d) of %d words: %v", a, n, e)
		}
	}
	return m
}

// marks is what a marked memory holds.
func marks(n int) []uint64 {
	l := make([]uint64, n)
	for a := range l {
		l[a] = mark(a)
	}
	return l
}

// wantAll asks for each word by itself, so that it does not lean on Read.
func wantAll(t *testing.T, m *Mem, want []uint64, after string) {
	t.Helper()
	if m.Size() != len(want) {
		t.Fatalf("%s: size %d, not %d", after, m.Size(), len(want))
	}
	for a, w := range want {
		if v, e := m.Get(a); v != w || e != api.OK {
			t.Fatalf("%s: word %d is %#x, %v; not %#x", after, a, v, e, w)
		}
	}
}

// noPlaces are addresses that a memory of n words does not have.
func noPlaces(n int) []int {
	return []int{n, n + 1, 2 * n, n + 1<<32, math.MaxInt, -1, -2, -n, -1 << 32, math.MinInt, math.MinInt + n}
}

// noStretches are beginnings and lengths that a memory of n words does not
// have: each bound passed by one, by much, and such that both together would
// leave their type.
func noStretches(n int) [][2]int {
	return [][2]int{
		{n, 1}, {n - 1, 2}, {1, n}, {0, n + 1}, {n / 2, n - n/2 + 1}, {0, 2 * n}, {n, n},
		{n + 1, 0}, {2 * n, 0}, {n + 1, 1}, {n + 1, -1}, {n + 5, -5}, {2 * n, -n},
		{-1, 0}, {-1, 1}, {-1, 2}, {-1, n}, {-1, n + 1}, {-n, n}, {-n, 2 * n},
		{0, -1}, {1, -1}, {n, -1}, {n, -n}, {n - 1, -1}, {-1, -1},
		{0, math.MaxInt}, {1, math.MaxInt}, {n, math.MaxInt}, {n - 1, math.MaxInt - n + 2},
		{math.MaxInt, 0}, {math.MaxInt, 1}, {math.MaxInt, n}, {math.MaxInt, math.MaxInt}, {math.MaxInt, 2},
		{math.MaxInt, -1}, {math.MaxInt, -math.MaxInt}, {math.MaxInt, math.MinInt},
		{math.MinInt, 0}, {math.MinInt, 1}, {math.MinInt, -1}, {math.MinInt, math.MinInt}, {math.MinInt, math.MaxInt},
		{0, math.MinInt}, {1, math.MinInt}, {n, math.MinInt},
		{1 << 62, 1 << 62}, {1 << 62, -1 << 62}, {-1 << 62, 1 << 62},
	}
}

// stretches are beginnings and lengths that a memory of n words has.
func stretches(n int) [][2]int {
	return [][2]int{
		{0, 0}, {1, 0}, {n - 1, 0}, {n, 0}, {0, 1}, {n - 1, 1}, {0, n}, {1, n - 1}, {0, n - 1},
		{n / 2, n / 2}, {n - 2, 2}, {5, 7}, {n - 9, 8},
	}
}

// 2.1

func TestNew(t *testing.T) {
	for _, n := range []int{64, 65, 100, 4096, 65535, 65536} {
		m := made(t, n)
		if m.Size() != n {
			t.Errorf("New(%d): size %d", n, m.Size())
		}
		wantAll(t, m, make([]uint64, n), "New")
	}
}

func TestNewOutsideIsErrRange(t *testing.T) {
	for _, n := range []int{63, 62, 1, 0, -1, -64, -65536, math.MinInt, 65537, 65600, 1 << 17, 1 << 32, 1<<32 + 64, math.MaxInt} {
		if m, e := New(n); m != nil || e != api.ErrRange {
			t.Errorf("New(%d): %v, %v", n, m, e)
		}
	}
}

func TestPutAndGet(t *testing.T) {
	for _, n := range []int{64, 65, 65536} {
		m := made(t, n)
		want := make([]uint64, n)
		for _, a := range []int{0, 1, 31, 32, n / 2, n - 2, n - 1} {
			for _, v := range []uint64{1, 7, 1 << 63, all, 0, mark(a)} {
				if e := m.Put(a, v); e != api.OK {
					t.Fatalf("Put(%d, %#x) of %d words: %v", a, v, n, e)
				}
				if w, e := m.Get(a); w != v || e != api.OK {
					t.Fatalf("Get(%d) of %d words: %#x, %v; not %#x", a, n, w, e, v)
				}
			}
			want[a] = mark(a)
		}
		wantAll(t, m, want, "Put")
	}
}

func TestPutAndGetOutsideAreErrRange(t *testing.T) {
	for _, n := range []int{64, 65, 65536} {
		m := marked(t, n)
		for _, a := range noPlaces(n) {
			if v, e := m.Get(a); v != 0 || e != api.ErrRange {
				t.Errorf("Get(%d) of %d words: %#x, %v", a, n, v, e)
			}
			if e := m.Put(a, 7); e != api.ErrRange {
				t.Errorf("Put(%d, 7) of %d words: %v", a, n, e)
			}
		}
		wantAll(t, m, marks(n), "what was refused")
	}
}

func TestMemoriesAreApart(t *testing.T) {
	m, o := marked(t, 64), made(t, 64)
	wantAll(t, o, make([]uint64, 64), "Put in another one")
	if e := m.Zero(0, 64); e != api.OK {
		t.Fatal(e)
	}
	o.Put(3, 9)
	wantAll(t, m, make([]uint64, 64), "Put in another one")
}

// 2.2

func TestZero(t *testing.T) {
	for _, n := range []int{64, 65, 65536} {
		for _, s := range stretches(n) {
			m, want := marked(t, n), marks(n)
			if e := m.Zero(s[0], s[1]); e != api.OK {
				t.Fatalf("Zero(%d, %d) of %d words: %v", s[0], s[1], n, e)
			}
			for i := range s[1] {
				want[s[0]+i] = 0
			}
			wantAll(t, m, want, "Zero")
		}
	}
}

func TestRead(t *testing.T) {
	for _, n := range []int{64, 65, 65536} {
		m := marked(t, n)
		for _, s := range stretches(n) {
			l, e := m.Read(s[0], s[1])
			if e != api.OK || !slices.Equal(l, marks(n)[s[0]:s[0]+s[1]]) {
				t.Errorf("Read(%d, %d) of %d words: %d words, %v", s[0], s[1], n, len(l), e)
			}
		}
		wantAll(t, m, marks(n), "Read")
	}
}

func TestReadIsNewMemory(t *testing.T) {
	m := marked(t, 64)
	one, _ := m.Read(5, 7)
	two, e := m.Read(5, 7)
	if len(one) != 7 || len(two) != 7 || e != api.OK {
		t.Fatalf("Read: %d words, %d words, %v", len(one), len(two), e)
	}
	// The spare room behind the answer's end is the answer's own, too.
	spare := append(one, 1, 2, 3)
	clear(spare)
	clear(one)
	if !slices.Equal(two, marks(64)[5:12]) {
		t.Errorf("a second answer is changed with the first one: %#x", two)
	}
	wantAll(t, m, marks(64), "an answer that is changed")
	m.Zero(0, 64)
	m.Put(6, 9)
	if !slices.Equal(two, marks(64)[5:12]) {
		t.Errorf("an answer is changed with the memory: %#x", two)
	}
}

func wantCopy(t *testing.T, n, to, from, k int) {
	t.Helper()
	m, want := marked(t, n), marks(n)
	if e := m.Copy(to, from, k); e != api.OK {
		t.Fatalf("Copy(%d, %d, %d) of %d words: %v", to, from, k, n, e)
	}
	for i := range k {
		want[to+i] = mark(from + i)
	}
	wantAll(t, m, want, "Copy")
}

func TestCopyExample(t *testing.T) {
	m := made(t, 64)
	if e := m.Put(63, 7); e != api.OK {
		t.Errorf("Put(63, 7): %v", e)
	}
	if e := m.Put(64, 7); e != api.ErrRange {
		t.Errorf("Put(64, 7): %v", e)
	}
	if e := m.Copy(60, 63, 1); e != api.OK {
		t.Errorf("Copy(60, 63, 1): %v", e)
	}
	if v, e := m.Get(60); v != 7 || e != api.OK {
		t.Errorf("Get(60): %d, %v", v, e)
	}
	if e := m.Zero(64, 0); e != api.OK {
		t.Errorf("Zero(64, 0): %v", e)
	}
}

// TestEachCopy takes every stretch of a small memory to every place: apart,
// overlapping upwards and downwards, side by side, onto itself, of no words.
func TestEachCopy(t *testing.T) {
	const n = 64
	m, e := New(n)
	if e != api.OK {
		t.Fatal(e)
	}
	for k := 0; k <= n; k++ {
		for to := 0; to+k <= n; to++ {
			for from := 0; from+k <= n; from++ {
				copy(m.words, marks(n))
				if e := m.Copy(to, from, k); e != api.OK {
					t.Fatalf("Copy(%d, %d, %d): %v", to, from, k, e)
				}
				for a, v := range m.words {
					want := mark(a)
					if a >= to && a < to+k {
						want = mark(a - to + from)
					}
					if v != want {
						t.Fatalf("Copy(%d, %d, %d): word %d is %#x, not %#x", to, from, k, a, v, want)
					}
				}
			}
		}
	}
}

func TestCopyInAGreatMemory(t *testing.T) {
	const n = 65536
	for _, c := range [][3]int{
		{0, 32768, 32768}, {32768, 0, 32768}, {0, 1, n - 1}, {1, 0, n - 1}, {0, 0, n},
		{n - 1, 0, 1}, {0, n - 1, 1}, {n, n, 0}, {0, n, 0}, {n, 0, 0}, {1000, 1003, 40000}, {1003, 1000, 40000},
	} {
		wantCopy(t, n, c[0], c[1], c[2])
	}
}

func TestStretchesThatAreNotThereAreErrRange(t *testing.T) {
	for _, n := range []int{64, 65, 65536} {
		m := marked(t, n)
		for _, s := range noStretches(n) {
			if e := m.Zero(s[0], s[1]); e != api.ErrRange {
				t.Errorf("Zero(%d, %d) of %d words: %v", s[0], s[1], n, e)
			}
			if l, e := m.Read(s[0], s[1]); len(l) != 0 || e != api.ErrRange {
				t.Errorf("Read(%d, %d) of %d words: %d words, %v", s[0], s[1], n, len(l), e)
			}
			for _, good := range []int{0, 1, n / 2, n - 1, n, s[0]} {
				if e := m.Copy(s[0], good, s[1]); e != api.ErrRange {
					t.Errorf("Copy(%d, %d, %d) of %d words: %v", s[0], good, s[1], n, e)
				}
				if e := m.Copy(good, s[0], s[1]); e != api.ErrRange {
					t.Errorf("Copy(%d, %d, %d) of %d words: %v", good, s[0], s[1], n, e)
				}
			}
		}
		wantAll(t, m, marks(n), "what was refused")
	}
}

// TestStretchesNearTheEnds asks for all that lie about a memory's ends.
func TestStretchesNearTheEnds(t *testing.T) {
	const n = 64
	m := marked(t, n)
	for a := -3; a <= n+3; a++ {
		for k := -3; k <= n+3; k++ {
			want := api.ErrRange
			if a >= 0 && k >= 0 && a+k <= n {
				want = api.OK
			}
			if _, e := m.Read(a, k); e != want {
				t.Errorf("Read(%d, %d): %v, not %v", a, k, e, want)
			}
			if e := m.Copy(a, a, k); e != want {
				t.Errorf("Copy(%d, %d, %d): %v, not %v", a, a, k, e, want)
			}
			if e := made(t, n).Zero(a, k); e != want {
				t.Errorf("Zero(%d, %d): %v, not %v", a, k, e, want)
			}
		}
	}
	wantAll(t, m, marks(n), "copies onto themselves")
}

// 2.3

// model is what was put last, by address: the tests' own memory, of words that
// were told, without a list.
type model struct {
	size int
	last map[int]uint64
}

func (o *model) there(a, n int) bool {
	if a < 0 || n < 0 || a > o.size || n > o.size {
		return false
	}
	return a+n <= o.size
}

func (o *model) zero(a, n int) api.Errno {
	if !o.there(a, n) {
		return api.ErrRange
	}
	for i := range n {
		delete(o.last, a+i)
	}
	return api.OK
}

func (o *model) read(a, n int) ([]uint64, api.Errno) {
	if !o.there(a, n) {
		return nil, api.ErrRange
	}
	l := make([]uint64, n)
	for i := range l {
		l[i] = o.last[a+i]
	}
	return l, api.OK
}

func (o *model) copy(to, from, n int) api.Errno {
	was, e := o.read(from, n)
	if e != api.OK || !o.there(to, n) {
		return api.ErrRange
	}
	for i, v := range was {
		o.last[to+i] = v
	}
	return api.OK
}

func (o *model) put(a int, v uint64) api.Errno {
	if !o.there(a, 1) {
		return api.ErrRange
	}
	o.last[a] = v
	return api.OK
}

// numbers is a row that looks like chance and is always the same.
func numbers(seed uint64) func(below int) int {
	return func(below int) int {
		seed = seed*6364136223846793005 + 1442695040888963407
		return int((seed >> 33) % uint64(below))
	}
}

// wantAsTheModel goes through a row of calls, good and bad, and holds each
// answer and in the end each word against what was put last.
func wantAsTheModel(t *testing.T, size int, seed uint64) {
	t.Helper()
	m, o, next := made(t, size), &model{size, map[int]uint64{}}, numbers(seed)
	for step := range 300 {
		a, b, n := next(size+4)-2, next(size+4)-2, next(size/2)-1
		var got, want api.Errno
		switch next(4) {
		case 0:
			v := uint64(next(1 << 30))
			got, want = m.Put(a, v), o.put(a, v)
		case 1:
			got, want = m.Zero(a, n), o.zero(a, n)
		case 2:
			got, want = m.Copy(a, b, n), o.copy(a, b, n)
		case 3:
			var l, was []uint64
			l, got = m.Read(a, n)
			was, want = o.read(a, n)
			if !slices.Equal(l, was) {
				t.Fatalf("seed %d, step %d: Read(%d, %d): %#x, not %#x", seed, step, a, n, l, was)
			}
		}
		if got != want {
			t.Fatalf("seed %d, step %d: %v, not %v", seed, step, got, want)
		}
	}
	words := make([]uint64, size)
	for a := range words {
		words[a] = o.last[a]
	}
	wantAll(t, m, words, "a row of calls")
}

func TestAWordIsWhatWasPutLast(t *testing.T) {
	for seed := range uint64(200) {
		wantAsTheModel(t, 64, seed)
		wantAsTheModel(t, 100, seed)
	}
	wantAsTheModel(t, 65536, 1)
}
