package untyped

import (
	"math"
	"slices"
	"testing"

	"donjon/api"
	"donjon/span"
)

// sp is short for the tables.
func sp(at, bits int) api.Span { return api.Span{At: at, Bits: bits} }

// kinds are the kinds that have Bits, written out from the chapter: from which
// n up to which, how many bits it is of the least n, and how many more by n.
var kinds = map[int]struct{ least, most, bits, by int }{
	api.Untyped:  {0, 16, 0, 1},
	api.Node:     {1, 4, 2, 1},
	api.Thread:   {math.MinInt, math.MaxInt, 4, 0},
	api.Endpoint: {math.MinInt, math.MaxInt, 1, 0},
	api.Notice:   {math.MinInt, math.MaxInt, 1, 0},
	api.Frame:    {math.MinInt, math.MaxInt, 4, 0},
	api.Table:    {math.MinInt, math.MaxInt, 4, 0},
	api.Space:    {math.MinInt, math.MaxInt, 4, 0},
}

// wantBits is 6.1, by the rows of kinds.
func wantBits(kind, n int) (int, api.Errno) {
	k, ok := kinds[kind]
	if !ok {
		return 0, api.ErrKind
	}
	if n < k.least || n > k.most {
		return 0, api.ErrRange
	}
	if k.by == 0 {
		return k.bits, api.OK
	}
	return k.bits + n - k.least, api.OK
}

// lengths are how many words each right span has, laid side by side for each
// length: made without asking whether one is right, and without a shift.
var lengths = func() map[api.Span]int {
	all := map[api.Span]int{}
	for bits, words := 0, 1; words <= 65536; bits, words = bits+1, 2*words {
		for at := 0; at < 65536; at += words {
			all[sp(at, bits)] = words
		}
	}
	return all
}()

// wantPlan is 6.2: the place is looked for word by word, and the objects are
// laid there one by one.
func wantPlan(u api.Span, used, kind, n, count int) ([]api.Span, int, api.Errno) {
	size, e := wantBits(kind, n)
	if e != api.OK {
		return nil, 0, e
	}
	words, ok := lengths[u]
	if !ok || used < 0 || used > words || count < 1 || count > 16 {
		return nil, 0, api.ErrRange
	}
	at, end, long := u.At+used, u.At+words, lengths[sp(0, size)]
	for at%long != 0 {
		at++
	}
	var l []api.Span
	for range count {
		l = append(l, sp(at, size))
		at += long
		if at > end {
			return nil, 0, api.ErrFull
		}
	}
	return l, at - u.At, api.OK
}

func wantLeft(u api.Span, used int) int {
	if words, ok := lengths[u]; ok && used >= 0 && used <= words {
		return words - used
	}
	return 0
}

// shape is a kind with an n that it may have.
type shape struct{ kind, n int }

// shapes are all of them (where n does not matter: with one n).
func shapes() []shape {
	var l []shape
	for kind := api.Null; kind <= api.Reply; kind++ {
		k, ok := kinds[kind]
		switch {
		case ok && k.by == 0:
			l = append(l, shape{kind, -7})
		case ok:
			for n := k.least; n <= k.most; n++ {
				l = append(l, shape{kind, n})
			}
		}
	}
	return l
}

// notRight are spans that are not right: each bound passed by one, by much,
// and such that a shift, or a sum, would leave its type; and some that do not
// begin at a multiple.
func notRight() []api.Span {
	return []api.Span{
		sp(0, -1), sp(0, 17), sp(0, 32), sp(0, 63), sp(0, 64), sp(0, 1<<32), sp(0, -64), sp(0, math.MinInt), sp(0, math.MaxInt),
		sp(-1, 0), sp(-64, 6), sp(-65536, 16), sp(math.MinInt, 0), sp(math.MinInt, 16),
		sp(65536, 0), sp(65536, 6), sp(65535, 1), sp(65536, 16), sp(1<<32, 6), sp(math.MaxInt, 0), sp(math.MaxInt-63, 6),
		sp(math.MaxInt, math.MaxInt), sp(math.MinInt, math.MinInt), sp(-1, -1), sp(65536, 17),
		sp(1, 1), sp(32, 6), sp(63, 6), sp(65, 6), sp(65504, 6), sp(1, 16), sp(16384, 15),
	}
}

// farKinds are all numbers of kinds, and some that are none, on both sides.
func farKinds() []int {
	return []int{
		math.MinInt, -1 << 32, -16, -2, -1, 0, 1, 2, 3, 4, 5, 6, 7, 8, 9, 10, 11, 12, 13, 17, 18, 70,
		256 + api.Untyped, 1<<32 + api.Untyped, 1<<32 + api.Node, 1<<32 + api.Thread, math.MaxInt,
	}
}

// farNumbers are numbers about all bounds of n and of a count, and far out.
func farNumbers() []int {
	l := []int{math.MinInt, math.MinInt + 1, -1 << 32, -65536, -65, -64, -17, -16, 63, 64, 65, 256, 65536, 1 << 32, 1<<32 + 1, 1<<32 + 4, math.MaxInt - 1, math.MaxInt}
	for n := -5; n <= 20; n++ {
		l = append(l, n)
	}
	return l
}

// 6.1

func TestBits(t *testing.T) {
	for _, c := range []struct {
		kind, n, bits int
		want          api.Errno
	}{
		{api.Untyped, 0, 0, api.OK},
		{api.Untyped, 1, 1, api.OK},
		{api.Untyped, 6, 6, api.OK},
		{api.Untyped, 15, 15, api.OK},
		{api.Untyped, 16, 16, api.OK},
		{api.Untyped, -1, 0, api.ErrRange},
		{api.Untyped, 17, 0, api.ErrRange},
		{api.Untyped, math.MinInt, 0, api.ErrRange},
		{api.Untyped, math.MaxInt, 0, api.ErrRange},
		{api.Untyped, 1 << 32, 0, api.ErrRange},
		{api.Node, 1, 2, api.OK},
		{api.Node, 2, 3, api.OK},
		{api.Node, 3, 4, api.OK},
		{api.Node, 4, 5, api.OK},
		{api.Node, 0, 0, api.ErrRange},
		{api.Node, 5, 0, api.ErrRange},
		{api.Node, 15, 0, api.ErrRange},
		{api.Node, 16, 0, api.ErrRange},
		{api.Node, -1, 0, api.ErrRange},
		{api.Node, math.MinInt, 0, api.ErrRange},
		{api.Node, math.MaxInt, 0, api.ErrRange},
		{api.Node, 1<<32 + 1, 0, api.ErrRange},
		{api.Thread, 0, 4, api.OK},
		{api.Frame, 0, 4, api.OK},
		{api.Table, 0, 4, api.OK},
		{api.Space, 0, 4, api.OK},
		{api.Endpoint, 0, 1, api.OK},
		{api.Notice, 0, 1, api.OK},
		{api.Thread, 17, 4, api.OK},
		{api.Endpoint, -1, 1, api.OK},
		{api.Space, math.MaxInt, 4, api.OK},
		{api.Notice, math.MinInt, 1, api.OK},
		{api.Null, 0, 0, api.ErrKind},
		{api.Null, 4, 0, api.ErrKind},
		{api.Irq, 0, 0, api.ErrKind},
		{api.Irq, 4, 0, api.ErrKind},
		{api.Control, 4, 0, api.ErrKind},
		{api.Reply, 1, 0, api.ErrKind},
		{12, 1, 0, api.ErrKind},
		{-1, 1, 0, api.ErrKind},
		// Of a kind without Bits it is the kind, not n.
		{api.Null, -1, 0, api.ErrKind},
		{api.Reply, 17, 0, api.ErrKind},
		{math.MinInt, math.MinInt, 0, api.ErrKind},
		{math.MaxInt, math.MaxInt, 0, api.ErrKind},
	} {
		if bits, e := Bits(c.kind, c.n); bits != c.bits || e != c.want {
			t.Errorf("Bits(%d, %d): %d, %v; not %d, %v", c.kind, c.n, bits, e, c.bits, c.want)
		}
	}
}

func TestBitsOfEachKind(t *testing.T) {
	for _, kind := range append(farKinds(), farNumbers()...) {
		for _, n := range farNumbers() {
			want, wantE := wantBits(kind, n)
			if bits, e := Bits(kind, n); bits != want || e != wantE {
				t.Errorf("Bits(%d, %d): %d, %v; not %d, %v", kind, n, bits, e, want, wantE)
			}
		}
	}
}

// TestNodeHasTwoWordsASlot counts a node's slots, not its bits.
func TestNodeHasTwoWordsASlot(t *testing.T) {
	slots := 2
	for radix := 1; radix <= api.MaxRadix; radix++ {
		bits, e := Bits(api.Node, radix)
		if e != api.OK || lengths[sp(0, bits)] != 2*slots {
			t.Errorf("a node of the radix %d: %d bits, %v; it has %d slots", radix, bits, e, slots)
		}
		slots *= 2
	}
}

// 6.2

func TestPlan(t *testing.T) {
	u := sp(64, 6)
	for _, c := range []struct {
		u                    api.Span
		used, kind, n, count int
		spans                []api.Span
		then                 int
		want                 api.Errno
	}{
		{u, 1, api.Thread, 0, 2, []api.Span{sp(80, 4), sp(96, 4)}, 48, api.OK},
		{u, 48, api.Endpoint, 0, 1, []api.Span{sp(112, 1)}, 50, api.OK},
		{u, 50, api.Reply, 0, 1, nil, 0, api.ErrKind},
		// One of each kind, behind nothing.
		{u, 0, api.Untyped, 3, 1, []api.Span{sp(64, 3)}, 8, api.OK},
		{u, 0, api.Node, 2, 1, []api.Span{sp(64, 3)}, 8, api.OK},
		{u, 0, api.Thread, 0, 1, []api.Span{sp(64, 4)}, 16, api.OK},
		{u, 0, api.Endpoint, 0, 1, []api.Span{sp(64, 1)}, 2, api.OK},
		{u, 0, api.Notice, 0, 1, []api.Span{sp(64, 1)}, 2, api.OK},
		{u, 0, api.Frame, 0, 1, []api.Span{sp(64, 4)}, 16, api.OK},
		{u, 0, api.Table, 0, 1, []api.Span{sp(64, 4)}, 16, api.OK},
		{u, 0, api.Space, 0, 1, []api.Span{sp(64, 4)}, 16, api.OK},
		// A place that must be moved up, by most of a length and by one word; and one that need not.
		{u, 16, api.Frame, 0, 1, []api.Span{sp(80, 4)}, 32, api.OK},
		{u, 17, api.Frame, 0, 1, []api.Span{sp(96, 4)}, 48, api.OK},
		{u, 31, api.Frame, 0, 1, []api.Span{sp(96, 4)}, 48, api.OK},
		{u, 32, api.Frame, 0, 1, []api.Span{sp(96, 4)}, 48, api.OK},
		{u, 5, api.Untyped, 0, 2, []api.Span{sp(69, 0), sp(70, 0)}, 7, api.OK},
		{u, 5, api.Notice, 0, 2, []api.Span{sp(70, 1), sp(72, 1)}, 10, api.OK},
		{u, 5, api.Node, 4, 1, []api.Span{sp(96, 5)}, 64, api.OK},
		// An object as long as u, and one that is longer.
		{sp(68, 2), 0, api.Untyped, 2, 1, []api.Span{sp(68, 2)}, 4, api.OK},
		{sp(68, 2), 0, api.Untyped, 3, 1, nil, 0, api.ErrFull},
		{sp(72, 3), 0, api.Untyped, 3, 1, []api.Span{sp(72, 3)}, 8, api.OK},
		// The last one ends just where u ends; one more word is used, or one more is asked for.
		{u, 32, api.Thread, 0, 2, []api.Span{sp(96, 4), sp(112, 4)}, 64, api.OK},
		{u, 33, api.Thread, 0, 2, nil, 0, api.ErrFull},
		{u, 32, api.Thread, 0, 3, nil, 0, api.ErrFull},
		{u, 0, api.Thread, 0, 4, []api.Span{sp(64, 4), sp(80, 4), sp(96, 4), sp(112, 4)}, 64, api.OK},
		{u, 0, api.Thread, 0, 5, nil, 0, api.ErrFull},
		{u, 1, api.Thread, 0, 4, nil, 0, api.ErrFull},
		{u, 63, api.Untyped, 0, 1, []api.Span{sp(127, 0)}, 64, api.OK},
		{u, 63, api.Untyped, 0, 2, nil, 0, api.ErrFull},
		{u, 63, api.Endpoint, 0, 1, nil, 0, api.ErrFull},
		{u, 62, api.Endpoint, 0, 1, []api.Span{sp(126, 1)}, 64, api.OK},
		{u, 64, api.Untyped, 0, 1, nil, 0, api.ErrFull},
		{u, 64, api.Thread, 0, 1, nil, 0, api.ErrFull},
		{u, 65, api.Untyped, 0, 1, nil, 0, api.ErrRange},
		{u, -1, api.Untyped, 0, 1, nil, 0, api.ErrRange},
		{u, 0, api.Untyped, 6, 1, []api.Span{u}, 64, api.OK},
		{u, 0, api.Untyped, 6, 2, nil, 0, api.ErrFull},
		{u, 1, api.Untyped, 6, 1, nil, 0, api.ErrFull},
		{u, 0, api.Untyped, 7, 1, nil, 0, api.ErrFull},
		{u, 0, api.Untyped, 16, 1, nil, 0, api.ErrFull},
		{sp(0, 6), 0, api.Untyped, 7, 1, nil, 0, api.ErrFull},
		{sp(0, 6), 0, api.Untyped, 16, 16, nil, 0, api.ErrFull},
		// The shortest u, and the longest.
		{sp(5, 0), 0, api.Untyped, 0, 1, []api.Span{sp(5, 0)}, 1, api.OK},
		{sp(5, 0), 1, api.Untyped, 0, 1, nil, 0, api.ErrFull},
		{sp(5, 0), 0, api.Untyped, 0, 2, nil, 0, api.ErrFull},
		{sp(4, 0), 0, api.Endpoint, 0, 1, nil, 0, api.ErrFull},
		{sp(5, 0), 2, api.Untyped, 0, 1, nil, 0, api.ErrRange},
		{sp(65535, 0), 0, api.Untyped, 0, 1, []api.Span{sp(65535, 0)}, 1, api.OK},
		{sp(65535, 0), 1, api.Untyped, 0, 1, nil, 0, api.ErrFull},
		{sp(0, 16), 0, api.Untyped, 16, 1, []api.Span{sp(0, 16)}, 65536, api.OK},
		{sp(0, 16), 1, api.Untyped, 16, 1, nil, 0, api.ErrFull},
		{sp(0, 16), 0, api.Untyped, 16, 16, nil, 0, api.ErrFull},
		{sp(0, 16), 65536, api.Untyped, 16, 16, nil, 0, api.ErrFull},
		{sp(0, 16), 65536, api.Untyped, 0, 1, nil, 0, api.ErrFull},
		{sp(0, 16), 65537, api.Untyped, 0, 1, nil, 0, api.ErrRange},
		{sp(0, 16), 32769, api.Untyped, 15, 1, nil, 0, api.ErrFull},
		{sp(0, 16), 1, api.Untyped, 15, 1, []api.Span{sp(32768, 15)}, 65536, api.OK},
		{sp(0, 16), 65535, api.Untyped, 0, 1, []api.Span{sp(65535, 0)}, 65536, api.OK},
		{sp(32768, 15), 32753, api.Frame, 0, 1, nil, 0, api.ErrFull},
		{sp(32768, 15), 32752, api.Frame, 0, 1, []api.Span{sp(65520, 4)}, 32768, api.OK},
	} {
		l, then, e := Plan(c.u, c.used, c.kind, c.n, c.count)
		if !slices.Equal(l, c.spans) || then != c.then || e != c.want {
			t.Errorf("Plan(%v, %d, %d, %d, %d): %v, %d, %v; not %v, %d, %v", c.u, c.used, c.kind, c.n, c.count, l, then, e, c.spans, c.then, c.want)
		}
	}
}

func TestPlanOfSixteen(t *testing.T) {
	var want []api.Span
	for at := 528; at < 528+16*16; at += 16 {
		want = append(want, sp(at, 4))
	}
	u := sp(512, 9)
	if l, used, e := Plan(u, 3, api.Frame, 0, 16); !slices.Equal(l, want) || used != 272 || e != api.OK {
		t.Errorf("sixteen: %v, %d, %v", l, used, e)
	}
	if l, used, e := Plan(u, 3, api.Frame, 0, 17); len(l) != 0 || used != 0 || e != api.ErrRange {
		t.Errorf("seventeen, for which there were room: %v, %d, %v", l, used, e)
	}
}

// TestPlanOrder: the kind and n are told ahead of all that is wrong beside
// them, and what is not where it may be ahead of the room that is not there.
func TestPlanOrder(t *testing.T) {
	u := sp(64, 6)
	for _, c := range []struct {
		u                    api.Span
		used, kind, n, count int
		want                 api.Errno
	}{
		{sp(32, 6), -1, api.Reply, 99, 0, api.ErrKind},
		{sp(0, 17), 0, api.Null, 0, 1, api.ErrKind},
		{u, 65, api.Irq, 0, 1, api.ErrKind},
		{u, 0, api.Control, 0, 17, api.ErrKind},
		{u, 64, -1, 0, 1, api.ErrKind},
		{u, 64, 12, -1, 16, api.ErrKind},
		{u, 64, api.Untyped, 17, 1, api.ErrRange},
		{u, 64, api.Node, 0, 1, api.ErrRange},
		{u, 64, api.Node, 5, 16, api.ErrRange},
		{u, 64, api.Thread, 0, 0, api.ErrRange},
		{u, 64, api.Thread, 0, 17, api.ErrRange},
		{u, 64, api.Thread, 0, -1, api.ErrRange},
		{u, 64, api.Thread, 0, 16, api.ErrFull},
		{u, 65, api.Thread, 0, 16, api.ErrRange},
		{u, 0, api.Untyped, 16, 17, api.ErrRange},
		{u, 0, api.Untyped, 16, 16, api.ErrFull},
		{sp(65, 6), 0, api.Thread, 0, 1, api.ErrRange},
		{sp(65, 6), 0, api.Untyped, 16, 1, api.ErrRange},
		{sp(65536, 6), 0, api.Untyped, 0, 1, api.ErrRange},
	} {
		if l, used, e := Plan(c.u, c.used, c.kind, c.n, c.count); len(l) != 0 || used != 0 || e != c.want {
			t.Errorf("Plan(%v, %d, %d, %d, %d): %v, %d, %v; not %v", c.u, c.used, c.kind, c.n, c.count, l, used, e, c.want)
		}
	}
}

// holdPlan holds Plan against the model.
func holdPlan(t *testing.T, u api.Span, used, kind, n, count int) {
	t.Helper()
	want, wantUsed, wantE := wantPlan(u, used, kind, n, count)
	l, then, e := Plan(u, used, kind, n, count)
	if !slices.Equal(l, want) || then != wantUsed || e != wantE {
		t.Fatalf("Plan(%v, %d, %d, %d, %d): %v, %d, %v; not %v, %d, %v", u, used, kind, n, count, l, then, e, want, wantUsed, wantE)
	}
}

func TestEachPlanOfShortSpans(t *testing.T) {
	for bits := range 7 {
		words := lengths[sp(0, bits)]
		for _, at := range []int{0, words, 3 * words, 32768 - words, 32768, 65536 - words} {
			for used := -1; used <= words+1; used++ {
				for _, s := range shapes() {
					for count := 0; count <= 17; count++ {
						holdPlan(t, sp(at, bits), used, s.kind, s.n, count)
					}
				}
			}
		}
	}
}

func TestPlanOfLongSpans(t *testing.T) {
	for _, u := range []api.Span{sp(256, 8), sp(65280, 8), sp(4096, 12), sp(16384, 14), sp(49152, 14), sp(0, 15), sp(32768, 15), sp(0, 16)} {
		words := lengths[u]
		for _, used := range []int{0, 1, 2, 3, 15, 16, 17, words / 2, words/2 - 1, words/2 + 1, words - 257, words - 256, words - 32, words - 17, words - 16, words - 15, words - 2, words - 1, words, words + 1} {
			for _, s := range shapes() {
				for _, count := range []int{0, 1, 2, 3, 8, 15, 16, 17} {
					holdPlan(t, u, used, s.kind, s.n, count)
				}
			}
		}
	}
}

func TestPlanOfFarArguments(t *testing.T) {
	spans := append(notRight(), sp(64, 6), sp(0, 0), sp(65535, 0), sp(0, 16))
	for _, u := range spans {
		for _, used := range []int{math.MinInt, -1 << 32, -1, 0, 1, 64, 65, 65536, 65537, 1 << 32, math.MaxInt} {
			for _, kind := range farKinds() {
				for _, n := range []int{math.MinInt, -1, 0, 1, 4, 5, 16, 17, 1<<32 + 1, math.MaxInt} {
					for _, count := range []int{math.MinInt, -1 << 32, -16, -1, 0, 1, 2, 16, 17, 64, 1<<32 + 1, 1 << 60, 1 << 62, math.MaxInt} {
						holdPlan(t, u, used, kind, n, count)
					}
				}
			}
		}
	}
}

func TestPlanIsNewMemory(t *testing.T) {
	u := sp(512, 9)
	one, _, _ := Plan(u, 3, api.Frame, 0, 16)
	two, _, e := Plan(u, 3, api.Frame, 0, 16)
	if len(one) != 16 || len(two) != 16 || e != api.OK {
		t.Fatalf("%d spans, %d spans, %v", len(one), len(two), e)
	}
	was := slices.Clone(two)
	// The spare room behind the answer's end is the answer's own, too.
	clear(one[:cap(one)])
	if !slices.Equal(two, was) {
		t.Errorf("a second answer is changed with the first one: %v", two)
	}
	if again, _, _ := Plan(u, 3, api.Frame, 0, 16); !slices.Equal(again, was) {
		t.Errorf("an answer hangs on what became of an earlier one: %v", again)
	}
}

func TestLeft(t *testing.T) {
	for _, c := range []struct {
		u          api.Span
		used, want int
	}{
		{sp(64, 6), 0, 64},
		{sp(64, 6), 1, 63},
		{sp(64, 6), 50, 14},
		{sp(64, 6), 63, 1},
		{sp(64, 6), 64, 0},
		{sp(64, 6), 65, 0},
		{sp(64, 6), 128, 0},
		{sp(64, 6), -1, 0},
		{sp(64, 6), -64, 0},
		{sp(64, 6), math.MinInt, 0},
		{sp(64, 6), math.MaxInt, 0},
		{sp(64, 6), 1 << 32, 0},
		{sp(5, 0), 0, 1},
		{sp(5, 0), 1, 0},
		{sp(5, 0), 2, 0},
		{sp(65535, 0), 0, 1},
		{sp(0, 16), 0, 65536},
		{sp(0, 16), 65535, 1},
		{sp(0, 16), 65536, 0},
		{sp(0, 16), 65537, 0},
		{sp(0, 16), -1, 0},
		{sp(65, 6), 0, 0},
		{sp(32, 6), 1, 0},
		{sp(-64, 6), 0, 0},
		{sp(65536, 6), 0, 0},
		{sp(0, 17), 0, 0},
		{sp(0, 17), 5, 0},
		{sp(0, -1), 0, 0},
	} {
		if left := Left(c.u, c.used); left != c.want {
			t.Errorf("Left(%v, %d): %d, not %d", c.u, c.used, left, c.want)
		}
	}
}

func TestLeftOfEachSpan(t *testing.T) {
	for u, words := range lengths {
		for _, used := range []int{math.MinInt, -words, -1, 0, 1, words / 2, words - 1, words, words + 1, 2 * words, math.MaxInt} {
			if left, want := Left(u, used), wantLeft(u, used); left != want {
				t.Fatalf("Left(%v, %d): %d, not %d", u, used, left, want)
			}
		}
	}
}

func TestLeftOfSpansThatAreNotRight(t *testing.T) {
	for _, u := range notRight() {
		for _, used := range farNumbers() {
			if left := Left(u, used); left != 0 {
				t.Errorf("Left(%v, %d): %d", u, used, left)
			}
		}
	}
}

// 6.3

// wantBehind is 6.3 of one plan: each object is right, lies in u, behind what
// was used, and apart from all objects that were there.
func wantBehind(t *testing.T, u api.Span, used int, there, l []api.Span, then int) {
	t.Helper()
	if then < used || then > lengths[u] {
		t.Fatalf("of %v %d are used, and then %d", u, used, then)
	}
	for i, s := range l {
		if lengths[s] == 0 || !span.In(s, u) || s.At < u.At+used || s.At+lengths[s] > u.At+then {
			t.Fatalf("%v does not lie in %v, behind %d and ahead of %d", s, u, used, then)
		}
		for _, o := range slices.Concat(there, l[:i]) {
			if !span.Apart(s, o) {
				t.Fatalf("%v and %v, of %v, are not apart", s, o, u)
			}
		}
	}
}

// fill makes objects of u until none has room any more; which ones come next
// hangs on seed alone.
func fill(t *testing.T, u api.Span, seed uint64) {
	t.Helper()
	var there []api.Span
	used, all, refused := 0, shapes(), 0
	for refused < 40 && len(there) < 300 {
		seed = seed*6364136223846793005 + 1442695040888963407
		s, count := all[seed>>33%uint64(len(all))], int(seed>>40%16)+1
		l, then, e := Plan(u, used, s.kind, s.n, count)
		if e == api.ErrFull {
			refused++
			continue
		}
		if e != api.OK || len(l) != count {
			t.Fatalf("Plan(%v, %d, %d, %d, %d): %v, %d, %v", u, used, s.kind, s.n, count, l, then, e)
		}
		wantBehind(t, u, used, there, l, then)
		if gone := Left(u, used) - Left(u, then); gone != then-used {
			t.Fatalf("of %v %d are used, and then %d: %d are left less", u, used, then, gone)
		}
		there, used = append(there, l...), then
	}
	if !span.All(there) {
		t.Fatalf("the objects of %v are not apart: %v", u, there)
	}
}

func TestObjectsLieApartInTheirUntyped(t *testing.T) {
	for _, u := range []api.Span{sp(5, 0), sp(6, 1), sp(64, 6), sp(192, 6), sp(256, 8), sp(65472, 6), sp(3072, 10), sp(61440, 12), sp(32768, 15), sp(0, 16)} {
		for seed := range uint64(100) {
			fill(t, u, seed)
		}
	}
}

// TestUntypedOfUntyped: what comes of an object that is untyped itself lies in
// both, and is apart from what lies beside that one.
func TestUntypedOfUntyped(t *testing.T) {
	u := sp(1024, 10)
	outer, used, e := Plan(u, 1, api.Untyped, 6, 3)
	if e != api.OK || !slices.Equal(outer, []api.Span{sp(1088, 6), sp(1152, 6), sp(1216, 6)}) || used != 256 {
		t.Fatalf("%v, %d, %v", outer, used, e)
	}
	inner, used, e := Plan(outer[1], 5, api.Node, 4, 1)
	if e != api.OK || !slices.Equal(inner, []api.Span{sp(1184, 5)}) || used != 64 {
		t.Fatalf("%v, %d, %v", inner, used, e)
	}
	if !span.In(inner[0], u) || !span.Apart(inner[0], outer[0]) || !span.Apart(inner[0], outer[2]) {
		t.Errorf("%v does not lie in %v alone", inner[0], outer[1])
	}
}
