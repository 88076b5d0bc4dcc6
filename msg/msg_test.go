package msg

import (
	"math"
	"slices"
	"testing"

	"donjon/api"
)

const all = math.MaxUint64

// right is each right info with its word, and the other way round, counted up
// from the section Words, without a shift: a Length is 1 more a word, Cap is
// 8, because it is the bit 3, and a Label is 16 more a word, because its
// field begins at the bit 4.
type right struct {
	word map[Info]uint64
	info map[uint64]Info
}

func rightOnes() right {
	r := right{map[Info]uint64{}, map[uint64]Info{}}
	add := func(i Info, w uint64) { r.word[i], r.info[w] = w, i }
	first := uint64(0)
	for label := range uint64(65536) {
		w := first
		for length := range 5 {
			add(Info{Label: label, Length: length}, w)
			add(Info{Label: label, Length: length, Cap: true}, w+8)
			w++
		}
		first += 16
	}
	return r
}

// allRight is how many infos are right: 5 Lengths, 2 ways of Cap, 2^16 Labels.
const allRight = 655360

func (r right) pack(i Info) (uint64, api.Errno) {
	if w, ok := r.word[i]; ok {
		return w, api.OK
	}
	for _, length := range []int{0, 1, 2, 3, 4} {
		if i.Length == length {
			return 0, api.ErrField
		}
	}
	return 0, api.ErrRange
}

func (r right) unpack(w uint64) (Info, api.Errno) {
	if i, ok := r.info[w]; ok {
		return i, api.OK
	}
	return Info{}, api.ErrField
}

func wantPack(t *testing.T, i Info, want uint64, wantErr api.Errno) {
	t.Helper()
	if w, err := Pack(i); w != want || err != wantErr {
		t.Errorf("Pack(%+v): %#x, error %d; not %#x, error %d", i, w, err, want, wantErr)
	}
}

func wantUnpack(t *testing.T, w uint64, want Info, wantErr api.Errno) {
	t.Helper()
	if i, err := Unpack(w); i != want || err != wantErr {
		t.Errorf("Unpack(%#x): %+v, error %d; not %+v, error %d", w, i, err, want, wantErr)
	}
}

// wantCarry also looks whether the registers that were handed in are as they
// were.
func wantCarry(t *testing.T, from, to Regs, badge uint64, want Regs, wantErr api.Errno) {
	t.Helper()
	wasFrom, wasTo := from, to
	if r, err := Carry(from, to, badge); r != want || err != wantErr {
		t.Errorf("Carry(%v, %v, %d): %v, error %d; not %v, error %d", from, to, badge, r, err, want, wantErr)
	}
	if from != wasFrom || to != wasTo {
		t.Errorf("Carry(%v, %v, %d): they are %v and %v afterwards", wasFrom, wasTo, badge, from, to)
	}
}

// wantAnswer also looks whether the registers and the words that were handed
// in are as they were, and what lies in the room behind the words.
func wantAnswer(t *testing.T, to Regs, e api.Errno, words []uint64, want Regs) {
	t.Helper()
	wasTo, was := to, slices.Clone(words[:cap(words)])
	if r := Answer(to, e, words); r != want {
		t.Errorf("Answer(%v, %d, %v): %v, not %v", to, e, words, r, want)
	}
	if to != wasTo || !slices.Equal(words[:cap(words)], was) {
		t.Errorf("Answer(%v, %d): the registers are %v, the words %v, not %v", wasTo, e, to, words[:cap(words)], was)
	}
}

// numbers are words that come of a rule, all of them different from those
// that the tests write out.
type numbers struct{ last uint64 }

func (n *numbers) next() uint64 {
	n.last = n.last*6364136223846793005 + 1442695040888963407
	return n.last ^ n.last>>33
}

func (n *numbers) below(m int) int { return int(n.next() % uint64(m)) }

func (n *numbers) regs() Regs {
	var r Regs
	for k := range r {
		r[k] = n.next()
	}
	return r
}

// farLengths are no Lengths: ends of the type, and numbers that are one if
// their high bits are lost, or their sign is.
func farLengths() []int {
	l := []int{math.MinInt, math.MinInt + 1, math.MinInt + 4, math.MaxInt, math.MaxInt - 1}
	for k := 3; k < 63; k++ {
		for near := range 5 {
			l = append(l, 1<<k+near, -1<<k+near, -1<<k-near)
		}
	}
	return l
}

// farLabels are no Labels, or, if their high bits are lost, some.
func farLabels() []uint64 {
	l := []uint64{all, all - 1, all &^ 0xffff, all - 0xffff}
	for k := 16; k < 64; k++ {
		for _, near := range []uint64{0, 1, 5, 65535} {
			l = append(l, 1<<k+near)
		}
	}
	return l
}

// eachInfo hands on infos with each Length around those that may be, and some
// far off, and with Labels of either kind, with Cap and without.
func eachInfo(see func(Info)) {
	both := func(label uint64, length int) {
		see(Info{Label: label, Length: length})
		see(Info{Label: label, Length: length, Cap: true})
	}
	for length := -10; length <= 20; length++ {
		for _, label := range farLabels() {
			both(label, length)
		}
		for label := range uint64(1 << 17) {
			if label < 100 || label%1021 == 0 || label > 65400 && label < 65700 || length >= 0 && length <= 4 {
				both(label, length)
			}
		}
	}
	for _, length := range farLengths() {
		for _, label := range append(farLabels(), 0, 1, 5, 255, 65535) {
			both(label, length)
		}
	}
}

// eachWord hands on each word of 21 bits, some right ones with any one bit
// turned, a few with any two, and words of all 64 bits.
func eachWord(see func(uint64)) {
	for w := range uint64(1 << 21) {
		see(w)
	}
	for w := uint64(0); w < 1<<20; w += 127 {
		for i := range 64 {
			see(w ^ 1<<i)
		}
	}
	for _, w := range []uint64{0, 4, 8, 12, 90, 1<<20 - 16, 1<<20 - 4} {
		for i := range 64 {
			for j := range i {
				see(w ^ 1<<i ^ 1<<j)
			}
		}
	}
	n := &numbers{last: 16}
	for range 1 << 16 {
		w := n.next()
		see(w)
		see(w&^(1<<20-1) | 90) // what is wrong stands above the lowest 20 bits alone
	}
}

// 16.1: Pack

func TestPackExamples(t *testing.T) {
	for _, c := range []struct {
		i    Info
		want uint64
	}{
		{Info{}, 0},
		{Info{Length: 1}, 1},
		{Info{Length: 2}, 2},
		{Info{Length: 3}, 3},
		{Info{Length: 4}, 4},
		{Info{Cap: true}, 8},
		{Info{Length: 1, Cap: true}, 9},
		{Info{Length: 2, Cap: true}, 10},
		{Info{Length: 3, Cap: true}, 11},
		{Info{Length: 4, Cap: true}, 12},
		{Info{Label: 1}, 16},
		{Info{Label: 1, Length: 4}, 20},
		{Info{Label: 1, Length: 4, Cap: true}, 28},
		{Info{Label: 5, Length: 2}, 82},
		{Info{Label: 5, Length: 2, Cap: true}, 90},
		{Info{Label: 256, Length: 3}, 4099},
		{Info{Label: 32768}, 524288},
		{Info{Label: 65535}, 1048560},
		{Info{Label: 65535, Length: 4, Cap: true}, 1048572},
	} {
		wantPack(t, c.i, c.want, api.OK)
	}
}

func TestPackOfNoLengthIsErrRange(t *testing.T) {
	for _, length := range append(farLengths(), -1, -2, -3, -4, -5, 5, 6, 7) {
		for _, label := range []uint64{0, 1, 5, 65535} {
			wantPack(t, Info{Label: label, Length: length}, 0, api.ErrRange)
			wantPack(t, Info{Label: label, Length: length, Cap: true}, 0, api.ErrRange)
		}
	}
}

func TestPackOfNoLabelIsErrField(t *testing.T) {
	for _, label := range append(farLabels(), 65536, 65537, 65540) {
		for length := range 5 {
			wantPack(t, Info{Label: label, Length: length}, 0, api.ErrField)
			wantPack(t, Info{Label: label, Length: length, Cap: true}, 0, api.ErrField)
		}
	}
}

func TestPackTellsTheLengthFirst(t *testing.T) {
	for _, length := range append(farLengths(), -1, -4, 5, 6, 7) {
		for _, label := range append(farLabels(), 65536, 65537) {
			wantPack(t, Info{Label: label, Length: length}, 0, api.ErrRange)
			wantPack(t, Info{Label: label, Length: length, Cap: true}, 0, api.ErrRange)
		}
	}
}

func TestPackOfEachInfo(t *testing.T) {
	r := rightOnes()
	if len(r.word) != allRight || len(r.info) != allRight {
		t.Fatalf("%d infos, %d words", len(r.word), len(r.info))
	}
	seen := map[api.Errno]int{}
	eachInfo(func(i Info) {
		want, wantErr := r.pack(i)
		wantPack(t, i, want, wantErr)
		seen[wantErr]++
	})
	if seen[api.OK] < allRight || seen[api.ErrRange] < 10000 || seen[api.ErrField] < 10000 {
		t.Errorf("seen: %v", seen)
	}
}

// 16.1: Unpack

func TestUnpackExamples(t *testing.T) {
	for _, c := range []struct {
		w    uint64
		want Info
	}{
		{0, Info{}},
		{1, Info{Length: 1}},
		{2, Info{Length: 2}},
		{3, Info{Length: 3}},
		{4, Info{Length: 4}},
		{8, Info{Cap: true}},
		{12, Info{Length: 4, Cap: true}},
		{16, Info{Label: 1}},
		{82, Info{Label: 5, Length: 2}},
		{90, Info{Label: 5, Length: 2, Cap: true}},
		{4099, Info{Label: 256, Length: 3}},
		{1048560, Info{Label: 65535}},
		{1048564, Info{Label: 65535, Length: 4}},
		{1048572, Info{Label: 65535, Length: 4, Cap: true}},
	} {
		wantUnpack(t, c.w, c.want, api.OK)
	}
}

func TestUnpackOfNoWordIsErrField(t *testing.T) {
	for _, w := range []uint64{
		5, 6, 7, 13, 14, 15, 21, 22, 23, 29, 30, 31, // Lengths from 5 on
		85, 86, 87, 93, 94, 95, 1048565, 1048566, 1048567, 1048573, 1048574, 1048575,
		1 << 20, 1<<20 + 1, 1<<20 + 4, 1<<20 + 8, 1<<20 + 90, 1 << 21, 1<<21 + 90, // above the Label
		1 << 31, 1<<31 + 90, 1 << 32, 1<<32 + 90, 1<<48 + 90, 1 << 63, 1<<63 + 90,
		all, all - 1, all - 3, all - 7, all - 15, all &^ (1<<20 - 1), all&^(1<<20-1) + 90,
	} {
		wantUnpack(t, w, Info{}, api.ErrField)
	}
	for i := 20; i < 64; i++ {
		wantUnpack(t, 1<<i, Info{}, api.ErrField)
		wantUnpack(t, 1<<i+1048572, Info{}, api.ErrField)
	}
}

func TestUnpackOfEachWord(t *testing.T) {
	r := rightOnes()
	seen := map[api.Errno]int{}
	eachWord(func(w uint64) {
		want, wantErr := r.unpack(w)
		wantUnpack(t, w, want, wantErr)
		seen[wantErr]++
	})
	if seen[api.OK] < allRight || seen[api.ErrField] < 1<<20 {
		t.Errorf("seen: %v", seen)
	}
}

// 16.2: Carry

// Registers of who sends, and of who receives: each has words of its own.
var (
	sent = Regs{0, 11, 12, 13, 14, 15, 16, 17}
	had  = Regs{20, 21, 22, 23, 24, 25, 26, 27}
)

func with(r Regs, first uint64) Regs {
	r[0] = first
	return r
}

func TestCarryExamples(t *testing.T) {
	for _, c := range []struct {
		first uint64
		want  Regs
	}{
		{0, Regs{0, 21, 22, 23, 24, 9, 26, 27}},
		{1, Regs{1, 11, 22, 23, 24, 9, 26, 27}},
		{2, Regs{2, 11, 12, 23, 24, 9, 26, 27}},
		{3, Regs{3, 11, 12, 13, 24, 9, 26, 27}},
		{4, Regs{4, 11, 12, 13, 14, 9, 26, 27}},
		{8, Regs{8, 21, 22, 23, 24, 9, 26, 27}}, // with Cap
		{9, Regs{9, 11, 22, 23, 24, 9, 26, 27}},
		{12, Regs{12, 11, 12, 13, 14, 9, 26, 27}},
		{16, Regs{16, 21, 22, 23, 24, 9, 26, 27}}, // with a Label
		{90, Regs{90, 11, 12, 23, 24, 9, 26, 27}},
		{1048560, Regs{1048560, 21, 22, 23, 24, 9, 26, 27}},
		{1048572, Regs{1048572, 11, 12, 13, 14, 9, 26, 27}},
	} {
		wantCarry(t, with(sent, c.first), had, 9, c.want, api.OK)
	}
}

func TestCarryBadges(t *testing.T) {
	for _, badge := range []uint64{0, 1, 15, 25, 90, 1 << 32, 1 << 63, all - 1, all} {
		wantCarry(t, with(sent, 0), had, badge, Regs{0, 21, 22, 23, 24, badge, 26, 27}, api.OK)
		wantCarry(t, with(sent, 12), had, badge, Regs{12, 11, 12, 13, 14, badge, 26, 27}, api.OK)
	}
}

func TestCarryOfGreatWords(t *testing.T) {
	from := Regs{4, all, all - 1, 1 << 63, 0, all, all, all}
	wantCarry(t, from, had, 0, Regs{4, all, all - 1, 1 << 63, 0, 0, 26, 27}, api.OK)
	to := Regs{all, all, all, all, all, all, all, all}
	wantCarry(t, with(sent, 2), to, 7, Regs{2, 11, 12, all, all, 7, all, all}, api.OK)
	wantCarry(t, Regs{4}, to, 0, Regs{4, 0, 0, 0, 0, 0, all, all}, api.OK)
}

// What the receiver's register 0 was does not matter: it is no message's.
func TestCarryOverAnyFirstRegister(t *testing.T) {
	for _, first := range []uint64{0, 4, 7, 12, 90, 1 << 20, all} {
		wantCarry(t, with(sent, 3), with(had, first), 9, Regs{3, 11, 12, 13, 24, 9, 26, 27}, api.OK)
	}
}

func TestCarryToItself(t *testing.T) {
	r := with(sent, 2)
	wantCarry(t, r, r, 9, Regs{2, 11, 12, 13, 14, 9, 16, 17}, api.OK)
}

func TestCarryOnToAThird(t *testing.T) {
	second, err := Carry(with(sent, 90), had, 9)
	if err != api.OK {
		t.Fatalf("error %d", err)
	}
	third := Regs{30, 31, 32, 33, 34, 35, 36, 37}
	wantCarry(t, second, third, 10, Regs{90, 11, 12, 33, 34, 10, 36, 37}, api.OK)
}

func TestCarryOfNoMessageIsErrField(t *testing.T) {
	for _, first := range []uint64{
		5, 6, 7, 13, 14, 15, 21, 95, 1048565, 1048575,
		1 << 20, 1<<20 + 2, 1<<20 + 90, 1 << 32, 1<<32 + 90, 1 << 63, 1<<63 + 4, all, all - 3,
	} {
		wantCarry(t, with(sent, first), had, 9, Regs{}, api.ErrField)
		wantCarry(t, with(sent, first), with(had, 2), all, Regs{}, api.ErrField)
		wantCarry(t, with(sent, first), with(sent, first), 0, Regs{}, api.ErrField)
	}
}

// carried is what a receiver has, register by register as 16.2 tells it.
func carried(r right, from, to Regs, badge uint64) (Regs, api.Errno) {
	i, ok := r.info[from[0]]
	if !ok {
		return Regs{}, api.ErrField
	}
	var out Regs
	for k := range out {
		switch {
		case k == 0, k >= 1 && k <= i.Length:
			out[k] = from[k]
		case k == 5:
			out[k] = badge
		default:
			out[k] = to[k]
		}
	}
	return out, api.OK
}

func TestCarryOfDrawnRegisters(t *testing.T) {
	r, n := rightOnes(), &numbers{last: 1}
	seen := map[api.Errno]int{}
	for range 100000 {
		from, to, badge := n.regs(), n.regs(), n.next()
		switch n.below(4) {
		case 0:
			from[0] &= 1<<20 - 1
		case 1, 2:
			from[0] = uint64(n.below(1<<16)*16 + n.below(2)*8 + n.below(5))
		}
		want, wantErr := carried(r, from, to, badge)
		wantCarry(t, from, to, badge, want, wantErr)
		seen[wantErr]++
	}
	if len(seen) != 2 || seen[api.OK] < 10000 || seen[api.ErrField] < 10000 {
		t.Errorf("seen: %v", seen)
	}
}

// 16.2: Answer

func TestAnswerExamples(t *testing.T) {
	for _, c := range []struct {
		e     api.Errno
		words []uint64
		want  Regs
	}{
		{api.OK, nil, Regs{0, 21, 22, 23, 24, 25, 26, 27}},
		{api.OK, []uint64{}, Regs{0, 21, 22, 23, 24, 25, 26, 27}},
		{api.ErrRange, nil, Regs{1, 21, 22, 23, 24, 25, 26, 27}},
		{api.ErrNone, []uint64{6}, Regs{3, 6, 22, 23, 24, 25, 26, 27}},
		{api.OK, []uint64{6, 7}, Regs{0, 6, 7, 23, 24, 25, 26, 27}},
		{api.ErrMore, []uint64{6, 7, 8}, Regs{11, 6, 7, 8, 24, 25, 26, 27}},
		{api.OK, []uint64{6, 7, 8, 9}, Regs{0, 6, 7, 8, 9, 25, 26, 27}},
		{api.ErrCommand, []uint64{6, 7, 8, 9}, Regs{70, 6, 7, 8, 9, 25, 26, 27}},
		{api.OK, []uint64{0, 0, 0, 0}, Regs{0, 0, 0, 0, 0, 25, 26, 27}},
		{api.OK, []uint64{all, all - 1, 1 << 63, all}, Regs{0, all, all - 1, 1 << 63, all, 25, 26, 27}},
	} {
		wantAnswer(t, had, c.e, c.words, c.want)
	}
}

func TestAnswerHasFourWordsAtMost(t *testing.T) {
	var words []uint64
	for k := range uint64(40) {
		words = append(words, 6+k)
		if k >= 4 {
			wantAnswer(t, had, api.ErrFull, words, Regs{7, 6, 7, 8, 9, 25, 26, 27})
		}
	}
	wantAnswer(t, had, api.OK, make([]uint64, 1<<20), Regs{0, 0, 0, 0, 0, 25, 26, 27})
}

// A list that is short has room behind its end: what lies there is no word.
func TestAnswerLooksAtNothingBehindTheWords(t *testing.T) {
	words := []uint64{6, 7, 8, 9, 10, 11}
	wantAnswer(t, had, api.OK, words[:0], Regs{0, 21, 22, 23, 24, 25, 26, 27})
	wantAnswer(t, had, api.OK, words[:1], Regs{0, 6, 22, 23, 24, 25, 26, 27})
	wantAnswer(t, had, api.OK, words[1:3], Regs{0, 7, 8, 23, 24, 25, 26, 27})
}

func TestAnswerOfAnyNumber(t *testing.T) {
	for _, c := range []struct {
		e    int
		want uint64
	}{
		{0, 0}, {1, 1}, {14, 14}, {15, 15}, {70, 70}, {71, 71},
		{1 << 16, 65536}, {1 << 32, 4294967296}, {math.MaxInt, 9223372036854775807},
		{-1, 18446744073709551615}, {-2, 18446744073709551614}, {-70, 18446744073709551546},
		{-1 << 32, 18446744069414584320}, {math.MinInt, 9223372036854775808}, {math.MinInt + 1, 9223372036854775809},
	} {
		wantAnswer(t, had, api.Errno(c.e), nil, with(had, c.want))
		wantAnswer(t, had, api.Errno(c.e), []uint64{6}, Regs{c.want, 6, 22, 23, 24, 25, 26, 27})
	}
}

// answered is what who asked has, register by register as 16.2 tells it. The
// number below 0 is counted down from 2^64, of which the type has 0.
func answered(to Regs, e int, words []uint64) Regs {
	out := to
	out[0] = uint64(e)
	if e < 0 {
		out[0] = 0 - uint64(-e)
	}
	for k, w := range words {
		if k < 4 {
			out[k+1] = w
		}
	}
	return out
}

func TestAnswerOfDrawnRegisters(t *testing.T) {
	n := &numbers{last: 2}
	for range 100000 {
		to, e := n.regs(), n.below(200)-100
		var words []uint64
		for range n.below(8) {
			words = append(words, n.next())
		}
		wantAnswer(t, to, api.Errno(e), words, answered(to, e, words))
	}
}

// What is answered keeps nothing of the words: they may change afterwards.
func TestAnswerKeepsNoWords(t *testing.T) {
	words := []uint64{6, 7, 8, 9}
	r := Answer(had, api.OK, words)
	clear(words)
	if r != (Regs{0, 6, 7, 8, 9, 25, 26, 27}) {
		t.Errorf("%v", r)
	}
}
