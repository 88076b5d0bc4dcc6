package span

import (
	"math"
	"slices"
	"testing"

	"donjon/api"
)

// sp is short for the tables.
func sp(at, bits int) api.Span { return api.Span{At: at, Bits: bits} }

// rights are all right spans, laid side by side for each length: the tests'
// own list, made without asking whether one is right.
func rights() map[api.Span]int {
	all := map[api.Span]int{}
	for bits, words := 0, 1; words <= 65536; bits, words = bits+1, 2*words {
		for at := 0; at < 65536; at += words {
			all[sp(at, bits)] = words
		}
	}
	return all
}

// some are right spans, of which each two may be taken: all of the lowest and
// of the highest addresses, long ones, and those about the middle.
func some() []api.Span {
	l := []api.Span{
		sp(0, 16), sp(0, 15), sp(32768, 15), sp(0, 14), sp(16384, 14), sp(49152, 14),
		sp(32768, 10), sp(31744, 10), sp(32767, 0), sp(32768, 0), sp(32766, 1), sp(65024, 9), sp(0, 8),
	}
	for bits := range 6 {
		for at := 0; at < 32; at += 1 << bits {
			l = append(l, sp(at, bits), sp(65536-32+at, bits))
		}
	}
	return l
}

// notRight are spans that are not right, each bound passed by one, by much,
// and such that a shift, or a sum, would leave its type.
func notRight() []api.Span {
	return []api.Span{
		sp(0, -1), sp(0, 17), sp(0, 18), sp(0, 32), sp(0, 62), sp(0, 63), sp(0, 64), sp(0, 65), sp(0, 1<<32),
		sp(0, -16), sp(0, -63), sp(0, -64), sp(0, math.MinInt), sp(0, math.MaxInt), sp(0, math.MinInt+3),
		sp(-1, 0), sp(-8, 3), sp(-65536, 16), sp(-65536, 0), sp(math.MinInt, 0), sp(math.MinInt, 16),
		sp(65536, 0), sp(65537, 0), sp(65535, 1), sp(65536, 1), sp(65534, 2), sp(65529, 3), sp(65528, 4),
		sp(32768, 16), sp(1, 16), sp(65536, 16), sp(49152, 15), sp(65536, 15), sp(1<<32, 0), sp(1<<32, 3),
		sp(math.MaxInt, 0), sp(math.MaxInt, 16), sp(math.MaxInt-7, 3), sp(math.MaxInt-1, 1),
		sp(math.MaxInt, math.MaxInt), sp(math.MinInt, math.MinInt), sp(math.MinInt, math.MaxInt), sp(-1, -1), sp(65536, 17),
		sp(4, 3), sp(1, 1), sp(3, 1), sp(2, 2), sp(9, 3), sp(15, 3), sp(65533, 1), sp(16384, 15), sp(32767, 15), sp(65527, 3),
	}
}

// 3.1

func TestCheck(t *testing.T) {
	for _, c := range []struct {
		s     api.Span
		words int
		want  api.Errno
	}{
		{sp(8, 3), 99, api.OK},
		{sp(4, 3), 99, api.ErrAlign},
		{sp(0, 0), 1, api.OK},
		{sp(0, 0), 0, api.ErrFull},
		{sp(0, 16), 65536, api.OK},
		{sp(0, 16), 65535, api.ErrFull},
		{sp(0, 16), math.MaxInt, api.OK},
		{sp(65535, 0), 65536, api.OK},
		{sp(65535, 0), 65535, api.ErrFull},
		{sp(32768, 15), 65536, api.OK},
		{sp(32768, 15), 65535, api.ErrFull},
		// The last address just below words, and just not.
		{sp(8, 3), 16, api.OK},
		{sp(8, 3), 15, api.ErrFull},
		{sp(8, 3), 9, api.ErrFull},
		{sp(8, 3), 8, api.ErrFull},
		{sp(8, 3), 17, api.OK},
		{sp(8, 3), 0, api.ErrFull},
		{sp(8, 3), -1, api.ErrFull},
		{sp(8, 3), math.MinInt, api.ErrFull},
		{sp(8, 3), math.MaxInt, api.OK},
		{sp(0, 0), -1, api.ErrFull},
		{sp(0, 0), math.MinInt, api.ErrFull},
		// At's bound, which is another one for each Bits.
		{sp(65536, 0), math.MaxInt, api.ErrRange},
		{sp(65534, 1), math.MaxInt, api.OK},
		{sp(65535, 1), math.MaxInt, api.ErrRange},
		{sp(65533, 1), math.MaxInt, api.ErrAlign},
		{sp(65528, 3), math.MaxInt, api.OK},
		{sp(65529, 3), math.MaxInt, api.ErrRange},
		{sp(65527, 3), math.MaxInt, api.ErrAlign},
		{sp(1, 16), math.MaxInt, api.ErrRange},
		{sp(1, 15), math.MaxInt, api.ErrAlign},
		{sp(32767, 15), math.MaxInt, api.ErrAlign},
		{sp(32769, 15), math.MaxInt, api.ErrRange},
		// ErrRange comes ahead of ErrAlign, and that ahead of ErrFull.
		{sp(-1, 3), 99, api.ErrRange},
		{sp(-4, 3), 0, api.ErrRange},
		{sp(65535, 3), 0, api.ErrRange},
		{sp(4, 3), 0, api.ErrAlign},
		{sp(4, 3), 4, api.ErrAlign},
		{sp(4, 3), -1, api.ErrAlign},
		{sp(4, 3), math.MinInt, api.ErrAlign},
		{sp(4, 17), 0, api.ErrRange},
		{sp(0, -1), 0, api.ErrRange},
	} {
		if e := Check(c.s, c.words); e != c.want {
			t.Errorf("Check(%v, %d): %v, not %v", c.s, c.words, e, c.want)
		}
	}
}

// fault is what is wrong with a span in an endless memory, by the list of all
// right ones: At's bound is the last one of its length, and what lies ahead of
// that, and is none, begins at no multiple.
func fault(all map[api.Span]int, s api.Span) api.Errno {
	words, ok := all[sp(0, s.Bits)]
	if !ok || s.At < 0 || s.At > 65536-words {
		return api.ErrRange
	}
	if _, ok := all[s]; !ok {
		return api.ErrAlign
	}
	return api.OK
}

func TestCheckOfEachSpan(t *testing.T) {
	all := rights()
	for bits := -2; bits <= 18; bits++ {
		for at := -5; at <= 65536+5; at++ {
			s := sp(at, bits)
			want := fault(all, s)
			if e := Check(s, math.MaxInt); e != want {
				t.Fatalf("Check(%v, much): %v, not %v", s, e, want)
			}
			if want != api.OK {
				continue
			}
			if e := Check(s, at+all[s]); e != api.OK {
				t.Fatalf("Check(%v, %d): %v", s, at+all[s], e)
			}
			if e := Check(s, at+all[s]-1); e != api.ErrFull {
				t.Fatalf("Check(%v, %d): %v, not %v", s, at+all[s]-1, e, api.ErrFull)
			}
		}
	}
}

func TestCheckOfSpansThatAreNotRight(t *testing.T) {
	all := rights()
	for _, s := range notRight() {
		for _, words := range []int{math.MinInt, -1, 0, 1, 64, 65536, math.MaxInt} {
			if e, want := Check(s, words), fault(all, s); e != want || e == api.OK {
				t.Errorf("Check(%v, %d): %v, not %v", s, words, e, want)
			}
		}
	}
}

func TestHas(t *testing.T) {
	all := rights()
	for _, s := range some() {
		first, behind := s.At, s.At+all[s]
		for _, a := range []int{first, first + 1, (first + behind) / 2, behind - 2, behind - 1} {
			if want := a >= first && a < behind; Has(s, a) != want {
				t.Errorf("Has(%v, %d): %v", s, a, !want)
			}
		}
		for _, a := range []int{first - 1, behind, behind + 1, -1, 65536, 1 << 32, 1<<32 + first, -1 << 32, math.MaxInt, math.MinInt} {
			if Has(s, a) {
				t.Errorf("Has(%v, %d), which it has not", s, a)
			}
		}
	}
}

func TestHasOfEachAddress(t *testing.T) {
	for _, s := range []api.Span{sp(8, 3), sp(0, 0), sp(0, 16), sp(65535, 0), sp(32768, 15), sp(48, 4)} {
		count, words := 0, rights()[s]
		for a := -3; a <= 65536+3; a++ {
			if Has(s, a) {
				count++
			}
		}
		for i := range words {
			if !Has(s, s.At+i) {
				t.Fatalf("not Has(%v, %d)", s, s.At+i)
			}
		}
		if count != words {
			t.Errorf("%v has %d addresses, not %d", s, count, words)
		}
	}
}

// shared is how many addresses of s are addresses of t, one by one.
func shared(all map[api.Span]int, s, t api.Span) int {
	count := 0
	for i := range all[s] {
		if a := s.At + i; a >= t.At && a < t.At+all[t] {
			count++
		}
	}
	return count
}

func TestInAndApart(t *testing.T) {
	all, l := rights(), some()
	for _, s := range l {
		for _, o := range l {
			n := shared(all, s, o)
			if want := n == all[s]; In(s, o) != want {
				t.Errorf("In(%v, %v): %v", s, o, !want)
			}
			if want := n == 0; Apart(s, o) != want {
				t.Errorf("Apart(%v, %v): %v", s, o, !want)
			}
		}
	}
}

func TestInAndApartByHand(t *testing.T) {
	for _, c := range []struct {
		s, t      api.Span
		in, apart bool
	}{
		{sp(8, 3), sp(8, 3), true, false},
		{sp(0, 16), sp(0, 16), true, false},
		{sp(5, 0), sp(5, 0), true, false},
		{sp(5, 0), sp(6, 0), false, true},
		{sp(8, 3), sp(0, 3), false, true},
		{sp(8, 3), sp(16, 3), false, true},
		{sp(8, 2), sp(8, 3), true, false},
		{sp(12, 2), sp(8, 3), true, false},
		{sp(8, 3), sp(12, 2), false, false},
		{sp(8, 3), sp(8, 2), false, false},
		{sp(7, 0), sp(8, 3), false, true},
		{sp(8, 0), sp(8, 3), true, false},
		{sp(15, 0), sp(8, 3), true, false},
		{sp(16, 0), sp(8, 3), false, true},
		{sp(0, 15), sp(32768, 15), false, true},
		{sp(65535, 0), sp(0, 16), true, false},
		{sp(0, 16), sp(65535, 0), false, false},
	} {
		if In(c.s, c.t) != c.in {
			t.Errorf("In(%v, %v): not %v", c.s, c.t, c.in)
		}
		if Apart(c.s, c.t) != c.apart || Apart(c.t, c.s) != c.apart {
			t.Errorf("Apart(%v, %v): not %v", c.s, c.t, c.apart)
		}
	}
}

func TestSpansThatAreNotRightHaveNothing(t *testing.T) {
	for _, s := range notRight() {
		for _, a := range []int{s.At, s.At + 1, s.At - 1, 0, 1, 4, 65535, 65536, -1, math.MaxInt, math.MinInt} {
			if Has(s, a) {
				t.Errorf("Has(%v, %d)", s, a)
			}
		}
		for _, o := range append(some(), notRight()...) {
			if In(s, o) || In(o, s) {
				t.Errorf("In of %v and %v", s, o)
			}
			if Apart(s, o) || Apart(o, s) {
				t.Errorf("Apart of %v and %v", s, o)
			}
		}
	}
}

// 3.2

func TestHalves(t *testing.T) {
	for _, c := range [][3]api.Span{
		{sp(8, 3), sp(8, 2), sp(12, 2)},
		{sp(0, 1), sp(0, 0), sp(1, 0)},
		{sp(6, 1), sp(6, 0), sp(7, 0)},
		{sp(65534, 1), sp(65534, 0), sp(65535, 0)},
		{sp(0, 16), sp(0, 15), sp(32768, 15)},
		{sp(32768, 15), sp(32768, 14), sp(49152, 14)},
	} {
		if lower, upper, e := Halves(c[0]); lower != c[1] || upper != c[2] || e != api.OK {
			t.Errorf("Halves(%v): %v, %v, %v; not %v, %v", c[0], lower, upper, e, c[1], c[2])
		}
	}
}

func TestHalvesOfNoneAreErrRange(t *testing.T) {
	one := []api.Span{sp(0, 0), sp(1, 0), sp(7, 0), sp(32768, 0), sp(65535, 0)}
	for _, s := range append(one, notRight()...) {
		if lower, upper, e := Halves(s); lower != sp(0, 0) || upper != sp(0, 0) || e != api.ErrRange {
			t.Errorf("Halves(%v): %v, %v, %v", s, lower, upper, e)
		}
	}
}

// words are n spans of one word, side by side.
func words(n int) []api.Span {
	l := make([]api.Span, n)
	for i := range l {
		l[i] = sp(i, 0)
	}
	return l
}

func TestAll(t *testing.T) {
	for _, c := range []struct {
		l    []api.Span
		want bool
	}{
		{nil, true},
		{[]api.Span{}, true},
		{[]api.Span{sp(0, 0)}, true},
		{[]api.Span{sp(0, 16)}, true},
		{[]api.Span{sp(0, 3), sp(8, 3)}, true},
		{[]api.Span{sp(8, 3), sp(0, 3)}, true},
		{[]api.Span{sp(8, 3), sp(8, 3)}, false},
		{[]api.Span{sp(8, 3), sp(12, 2)}, false},
		{[]api.Span{sp(12, 2), sp(8, 3)}, false},
		{[]api.Span{sp(0, 0), sp(0, 16)}, false},
		{[]api.Span{sp(0, 3), sp(8, 3), sp(16, 4), sp(32, 0)}, true},
		{[]api.Span{sp(32, 0), sp(16, 4), sp(8, 3), sp(0, 3)}, true},
		{[]api.Span{sp(0, 3), sp(8, 3), sp(16, 4), sp(20, 0)}, false},
		{[]api.Span{sp(0, 3), sp(8, 3), sp(16, 4), sp(7, 0)}, false},
		{[]api.Span{sp(0, 3), sp(8, 3), sp(15, 0), sp(16, 4)}, false},
		{[]api.Span{sp(0, 3), sp(0, 3), sp(16, 4), sp(32, 4)}, false},
		{[]api.Span{sp(0, 15), sp(32768, 14), sp(49152, 14)}, true},
		{words(300), true},
		{append(words(300), sp(299, 0)), false},
		{append(words(300), sp(300, 0)), true},
		{append(words(300), sp(0, 0)), false},
		{append([]api.Span{sp(299, 0)}, words(300)...), false},
	} {
		if All(c.l) != c.want {
			t.Errorf("All(%v): not %v", c.l, c.want)
		}
	}
}

// TestAllFindsEachTwo lays the only two that are not apart at each two places.
func TestAllFindsEachTwo(t *testing.T) {
	for n := 2; n <= 9; n++ {
		for i := range n {
			for j := range n {
				l := words(n)
				l[j] = l[i]
				if want := i == j; All(l) != want {
					t.Errorf("All(%v): %v", l, !want)
				}
			}
		}
	}
}

func TestAllOfSpansThatAreNotRight(t *testing.T) {
	for _, s := range notRight() {
		if !All([]api.Span{s}) {
			t.Errorf("All of %v alone: there are no two", s)
		}
		for _, l := range [][]api.Span{
			{s, sp(64, 3)}, {sp(64, 3), s}, {s, s},
			{sp(64, 3), sp(72, 3), s}, {sp(64, 3), s, sp(72, 3)}, {s, sp(64, 3), sp(72, 3)},
		} {
			if All(l) {
				t.Errorf("All(%v)", l)
			}
		}
	}
}

// TestAllOfALongList takes one that could not be held each against each.
func TestAllOfALongList(t *testing.T) {
	l := make([]api.Span, 1<<22)
	for i := range l {
		l[i] = sp(i%4096, 0)
	}
	if All(l) {
		t.Errorf("more spans than addresses are apart")
	}
	if !All(l[:4096]) {
		t.Errorf("words that are apart are not")
	}
}

func TestAllChangesNothing(t *testing.T) {
	room := append(words(8), sp(3, 0), sp(99, 99))
	was := slices.Clone(room)
	All(room[:8])
	All(room[:9])
	if !slices.Equal(room, was) {
		t.Errorf("All changed its list: %v, not %v", room, was)
	}
}

func TestCover(t *testing.T) {
	for _, c := range []struct {
		from, to int
		want     []api.Span
	}{
		{3, 9, []api.Span{sp(3, 0), sp(4, 2), sp(8, 0)}},
		{0, 0, nil},
		{5, 5, nil},
		{65536, 65536, nil},
		{0, 65536, []api.Span{sp(0, 16)}},
		{0, 65535, []api.Span{
			sp(0, 15), sp(32768, 14), sp(49152, 13), sp(57344, 12), sp(61440, 11), sp(63488, 10), sp(64512, 9), sp(65024, 8),
			sp(65280, 7), sp(65408, 6), sp(65472, 5), sp(65504, 4), sp(65520, 3), sp(65528, 2), sp(65532, 1), sp(65534, 0),
		}},
		{1, 8, []api.Span{sp(1, 0), sp(2, 1), sp(4, 2)}},
		{0, 1, []api.Span{sp(0, 0)}},
		{65535, 65536, []api.Span{sp(65535, 0)}},
		{8, 16, []api.Span{sp(8, 3)}},
		{8, 15, []api.Span{sp(8, 2), sp(12, 1), sp(14, 0)}},
		{7, 17, []api.Span{sp(7, 0), sp(8, 3), sp(16, 0)}},
		{32767, 32769, []api.Span{sp(32767, 0), sp(32768, 0)}},
		{32768, 65536, []api.Span{sp(32768, 15)}},
		{0, 7, []api.Span{sp(0, 2), sp(4, 1), sp(6, 0)}},
	} {
		if l, e := Cover(c.from, c.to); !slices.Equal(l, c.want) || e != api.OK {
			t.Errorf("Cover(%d, %d): %v, %v; not %v", c.from, c.to, l, e, c.want)
		}
	}
}

func TestCoverOutsideIsErrRange(t *testing.T) {
	for _, c := range [][2]int{
		{-1, 5}, {-1, 0}, {-1, -1}, {-2, -1}, {-8, 8}, {-65536, 65536}, {5, 4}, {1, 0}, {0, -1}, {65536, 65535}, {65536, 0},
		{0, 65537}, {65536, 65537}, {65537, 65537}, {65537, 65536}, {70000, 80000}, {5, 1 << 32}, {1 << 32, 1<<32 + 4},
		{math.MinInt, 0}, {math.MinInt, math.MinInt}, {math.MinInt, math.MaxInt}, {0, math.MinInt}, {math.MaxInt, math.MinInt},
		{0, math.MaxInt}, {math.MaxInt, math.MaxInt}, {math.MaxInt, 0}, {math.MaxInt - 1, math.MaxInt}, {65536, math.MinInt},
	} {
		if l, e := Cover(c[0], c[1]); len(l) != 0 || e != api.ErrRange {
			t.Errorf("Cover(%d, %d): %v, %v", c[0], c[1], l, e)
		}
	}
}

// wantCover looks at each address for the longest one, from the longest length
// down, in the list of all right spans; and counts who has an address.
func wantCover(t *testing.T, all map[api.Span]int, from, to int) {
	t.Helper()
	var want []api.Span
	for at := from; at < to; {
		s := sp(at, 16)
		for all[s] == 0 || at+all[s] > to {
			s.Bits--
		}
		want = append(want, s)
		at += all[s]
	}
	l, e := Cover(from, to)
	if e != api.OK || !slices.Equal(l, want) {
		t.Fatalf("Cover(%d, %d): %v, %v; not %v", from, to, l, e, want)
	}
	if !All(l) {
		t.Fatalf("Cover(%d, %d): not apart: %v", from, to, l)
	}
}

// wantEachOnce is 3.3's last sentence, address by address.
func wantEachOnce(t *testing.T, from, to int) {
	t.Helper()
	l, e := Cover(from, to)
	if e != api.OK {
		t.Fatalf("Cover(%d, %d): %v", from, to, e)
	}
	for a := max(from-70, 0); a < min(to+70, 65536); a++ {
		count, want := 0, 0
		if a >= from && a < to {
			want = 1
		}
		for _, s := range l {
			if Has(s, a) {
				count++
			}
		}
		if count != want {
			t.Fatalf("Cover(%d, %d): address %d is in %d spans, not in %d: %v", from, to, a, count, want, l)
		}
	}
}

func TestEachShortCover(t *testing.T) {
	all := rights()
	for _, base := range []int{0, 32768 - 33, 65536 - 67} {
		for from := base; from <= base+67; from++ {
			for to := from; to <= base+67; to++ {
				wantCover(t, all, from, to)
				wantEachOnce(t, from, to)
			}
		}
	}
}

func TestCoverToEachPlace(t *testing.T) {
	all := rights()
	for a := 0; a <= 65536; a++ {
		wantCover(t, all, 0, a)
		wantCover(t, all, a, 65536)
		wantCover(t, all, a/3, a)
	}
}

func TestCoverIsNewMemory(t *testing.T) {
	one, _ := Cover(1, 65535)
	two, e := Cover(1, 65535)
	if len(one) != 30 || len(two) != 30 || e != api.OK {
		t.Fatalf("Cover(1, 65535): %d spans, %d spans, %v", len(one), len(two), e)
	}
	was := slices.Clone(two)
	// The spare room behind the answer's end is the answer's own, too.
	clear(one[:cap(one)])
	if !slices.Equal(two, was) {
		t.Errorf("a second answer is changed with the first one: %v", two)
	}
	if again, _ := Cover(1, 65535); !slices.Equal(again, was) {
		t.Errorf("an answer hangs on what became of an earlier one: %v", again)
	}
}

// 3.3

func TestOneLiesInTheOtherOrTheyAreApart(t *testing.T) {
	l := some()
	for _, s := range l {
		for _, o := range l {
			if (In(s, o) || In(o, s)) == Apart(s, o) {
				t.Errorf("%v and %v: in %v, in %v, apart %v", s, o, In(s, o), In(o, s), Apart(s, o))
			}
			if In(s, o) && In(o, s) && s != o {
				t.Errorf("%v and %v lie in each other", s, o)
			}
		}
	}
}

func TestHalvesOfEachSpan(t *testing.T) {
	all := rights()
	for s, words := range all {
		if words == 1 {
			continue
		}
		lower, upper, e := Halves(s)
		if e != api.OK || all[lower] != words/2 || all[upper] != words/2 || lower.At >= upper.At {
			t.Fatalf("Halves(%v): %v, %v, %v", s, lower, upper, e)
		}
		if !Apart(lower, upper) || !In(lower, s) || !In(upper, s) || In(s, lower) || In(s, upper) {
			t.Fatalf("Halves(%v): %v, %v do not lie apart in it", s, lower, upper)
		}
	}
}
