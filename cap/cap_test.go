package cap

import (
	"math"
	"testing"

	"donjon/api"
)

const (
	topBadge = 1<<28 - 1
	topGuard = 1<<16 - 1
	all      = math.MaxUint64
)

// most is the greatest that each field of a kind may be (of the guard: with
// the most bits), written out from the chapter: a row's place is its kind.
var most = [12]api.Cap{
	{Kind: api.Null},
	{Kind: api.Untyped, Object: 63},
	{Kind: api.Node, Object: 63, Guard: topGuard, Bits: 16},
	{Kind: api.Thread, Object: 63},
	{Kind: api.Endpoint, Object: 63, Rights: 7, Badge: topBadge},
	{Kind: api.Notice, Object: 63, Rights: 7, Badge: topBadge},
	{Kind: api.Frame, Object: 63, Rights: 7},
	{Kind: api.Table, Object: 63},
	{Kind: api.Space, Object: 63},
	{Kind: api.Irq, Object: 63},
	{Kind: api.Control},
	{Kind: api.Reply, Object: 63},
}

// power is 2^n, counted up without a shift.
func power(n int) uint64 {
	p := uint64(1)
	for range n {
		p *= 2
	}
	return p
}

// wantCheck is what the section Words says, by the rows of most.
func wantCheck(c api.Cap) api.Errno {
	if c.Kind < 0 || c.Kind > 11 {
		return api.ErrKind
	}
	m := most[c.Kind]
	switch {
	case c.Object < 0, c.Object > m.Object, c.Rights < 0, c.Rights > m.Rights, c.Badge > m.Badge,
		c.Bits < 0, c.Bits > m.Bits, c.Guard >= power(c.Bits):
		return api.ErrField
	}
	return api.OK
}

// wantWords are the words of a right capability, by sums.
func wantWords(c api.Cap) (uint64, uint64) {
	return uint64(c.Kind + 16*c.Object + 1024*c.Rights + 8192*c.Bits), c.Badge + power(32)*c.Guard
}

// wantOf takes words apart by divisions, and looks whether they are made of it.
func wantOf(a, b uint64) (api.Cap, api.Errno) {
	c := api.Cap{
		Kind: int(a % 16), Object: int(a / 16 % 64), Rights: int(a / 1024 % 8), Bits: int(a / 8192 % 32),
		Badge: b % power(28), Guard: b / power(32) % power(16),
	}
	if wantCheck(c) != api.OK {
		return api.Cap{}, api.ErrField
	}
	if x, y := wantWords(c); x != a || y != b {
		return api.Cap{}, api.ErrField
	}
	return c, api.OK
}

// everyKind are numbers of kinds, and some that are none, on both sides.
func everyKind() []int {
	return []int{math.MinInt, -1 << 32, -16, -2, -1, 0, 1, 2, 3, 4, 5, 6, 7, 8, 9, 10, 11, 12, 13, 15, 16, 20, 1<<32 + 4, math.MaxInt}
}

// eachCap hands on capabilities with each field at, beside and far from its
// bounds, each with each: right ones and others.
func eachCap(see func(api.Cap)) {
	objects := []int{math.MinInt, -64, -1, 0, 1, 31, 62, 63, 64, 127, 1<<32 + 1, math.MaxInt}
	masks := []int{math.MinInt, -8, -1, 0, 1, 2, 3, 4, 5, 6, 7, 8, 15, 1<<32 + 1, math.MaxInt}
	badges := []uint64{0, 1, 7, topBadge, topBadge + 1, 1 << 32, all}
	guards := []struct {
		guard uint64
		bits  int
	}{
		{0, 0}, {1, 0}, {all, 0}, {0, 1}, {1, 1}, {2, 1}, {5, 3}, {7, 3}, {8, 3}, {0, 15}, {1<<15 - 1, 15}, {1 << 15, 15},
		{0, 16}, {topGuard, 16}, {topGuard + 1, 16}, {1 << 32, 16}, {all, 16}, {0, 17}, {1, 17}, {0, 31}, {0, 32}, {0, 64}, {1, 64},
		{0, math.MaxInt}, {0, -1}, {1, -1}, {0, -16}, {0, math.MinInt}, {all, math.MinInt},
	}
	for _, kind := range everyKind() {
		for _, object := range objects {
			for _, mask := range masks {
				for _, badge := range badges {
					for _, g := range guards {
						see(api.Cap{Kind: kind, Object: object, Rights: mask, Badge: badge, Guard: g.guard, Bits: g.bits})
					}
				}
			}
		}
	}
}

// rightCaps are right capabilities of all kinds: the least and the greatest of
// each field, each with each, and some between.
func rightCaps() []api.Cap {
	var l []api.Cap
	for _, m := range most {
		for _, object := range []int{0, 1, 3, 63} {
			for _, mask := range []int{0, 1, 2, 3, 5, 7} {
				for _, badge := range []uint64{0, 1, 7, topBadge} {
					for _, g := range []api.Cap{{}, {Bits: 1}, {Bits: 1, Guard: 1}, {Bits: 3, Guard: 5}, {Bits: 16}, {Bits: 16, Guard: topGuard}} {
						c := api.Cap{Kind: m.Kind, Object: object, Rights: mask, Badge: badge, Guard: g.Guard, Bits: g.Bits}
						if wantCheck(c) == api.OK {
							l = append(l, c)
						}
					}
				}
			}
		}
	}
	return l
}

// wrongCaps are capabilities that are not right, with the error of each.
func wrongCaps() map[api.Cap]api.Errno {
	m := map[api.Cap]api.Errno{
		{Kind: -1}:                           api.ErrKind,
		{Kind: 12}:                           api.ErrKind,
		{Kind: math.MinInt}:                  api.ErrKind,
		{Kind: math.MaxInt}:                  api.ErrKind,
		{Kind: 16 + api.Endpoint, Rights: 1}: api.ErrKind,
		{Kind: 12, Object: 64, Rights: 8, Bits: -1}: api.ErrKind, // Kind comes first
		{Kind: -1, Guard: 1, Badge: all}:            api.ErrKind,
		{Kind: api.Null, Object: 1}:                 api.ErrField,
		{Kind: api.Control, Object: 1}:              api.ErrField,
		{Kind: api.Control, Object: 63}:             api.ErrField,
		{Kind: api.Null, Rights: 1}:                 api.ErrField,
		{Kind: api.Null, Badge: 1}:                  api.ErrField,
		{Kind: api.Null, Bits: 1}:                   api.ErrField,
		{Kind: api.Null, Guard: 1}:                  api.ErrField,
		{Kind: api.Frame, Badge: 1}:                 api.ErrField,
		{Kind: api.Frame, Rights: 8}:                api.ErrField,
		{Kind: api.Endpoint, Rights: -1}:            api.ErrField,
		{Kind: api.Endpoint, Badge: topBadge + 1}:   api.ErrField,
		{Kind: api.Notice, Badge: all}:              api.ErrField,
		{Kind: api.Endpoint, Bits: 1}:               api.ErrField,
		{Kind: api.Endpoint, Guard: 1}:              api.ErrField,
		{Kind: api.Node, Rights: 1}:                 api.ErrField,
		{Kind: api.Node, Badge: 1}:                  api.ErrField,
		{Kind: api.Node, Bits: -1}:                  api.ErrField,
		{Kind: api.Node, Bits: 17}:                  api.ErrField,
		{Kind: api.Node, Guard: 1}:                  api.ErrField,
		{Kind: api.Node, Guard: 8, Bits: 3}:         api.ErrField,
		{Kind: api.Node, Guard: 1 << 16, Bits: 16}:  api.ErrField,
	}
	for _, top := range most {
		for _, object := range []int{-1, 64, 127, math.MinInt, math.MaxInt} {
			m[api.Cap{Kind: top.Kind, Object: object}] = api.ErrField
		}
	}
	return m
}

// 5.1, and the section Words

func TestCheckOfRightOnes(t *testing.T) {
	for kind, m := range most {
		for _, c := range []api.Cap{{Kind: kind}, m} {
			if e := Check(c); e != api.OK {
				t.Errorf("Check(%+v): error %d", c, e)
			}
		}
	}
	for _, c := range rightCaps() {
		if e := Check(c); e != api.OK {
			t.Errorf("Check(%+v): error %d", c, e)
		}
	}
}

func TestCheckOfWrongOnes(t *testing.T) {
	for c, want := range wrongCaps() {
		if e := Check(c); e != want {
			t.Errorf("Check(%+v): error %d, want %d", c, e, want)
		}
	}
}

// The fields, one by one: just one above the greatest of its kind is wrong.
func TestCheckBesideTheMostOfEachKind(t *testing.T) {
	for _, m := range most {
		above := []api.Cap{m, m, m, m, m}
		above[0].Object++
		above[1].Rights++
		above[2].Badge++
		above[3].Bits++
		above[4].Guard++
		for _, c := range above {
			if e := Check(c); e != api.ErrField {
				t.Errorf("Check(%+v): error %d, want %d", c, e, api.ErrField)
			}
		}
	}
}

// A guard of each number of bits: the greatest, and the one above it.
func TestCheckOfGuards(t *testing.T) {
	for n := 0; n <= 16; n++ {
		c := api.Cap{Kind: api.Node, Object: 9, Guard: power(n) - 1, Bits: n}
		if e := Check(c); e != api.OK {
			t.Errorf("Check(%+v): error %d", c, e)
		}
		for _, guard := range []uint64{power(n), power(n) + 1, 2 * power(n), 1 << 32, 1 << 63, all} {
			c.Guard = guard
			if e := Check(c); e != api.ErrField {
				t.Errorf("Check(%+v): error %d, want %d", c, e, api.ErrField)
			}
		}
	}
}

// TestEachCap holds Check and Words against the tests' own way to say them.
func TestEachCap(t *testing.T) {
	eachCap(func(c api.Cap) {
		want := wantCheck(c)
		if e := Check(c); e != want {
			t.Errorf("Check(%+v): error %d, want %d", c, e, want)
		}
		var x, y uint64
		if want == api.OK {
			x, y = wantWords(c)
		}
		if a, b, e := Words(c); a != x || b != y || e != want {
			t.Errorf("Words(%+v): %#x, %#x, error %d, want %#x, %#x, error %d", c, a, b, e, x, y, want)
		}
	})
}

// fieldWords are capabilities with one bit of a field, the first or the last
// one, beside the kind, and their words written out.
func fieldWords() map[api.Cap][2]uint64 {
	return map[api.Cap][2]uint64{
		{}:                  {0, 0},
		{Kind: api.Untyped}: {1, 0},
		{Kind: api.Node}:    {2, 0},
		{Kind: api.Space}:   {8, 0}, // the kind's last bit
		{Kind: api.Reply}:   {11, 0},

		{Kind: api.Thread, Object: 1}:          {3 + 1<<4, 0},
		{Kind: api.Thread, Object: 32}:         {3 + 1<<9, 0},
		{Kind: api.Reply, Object: 63}:          {0x3fb, 0},
		{Kind: api.Frame, Rights: 1}:           {6 + 1<<10, 0},
		{Kind: api.Frame, Rights: 4}:           {6 + 1<<12, 0},
		{Kind: api.Frame, Rights: 7}:           {6 + 7<<10, 0},
		{Kind: api.Node, Bits: 1}:              {2 + 1<<13, 0},
		{Kind: api.Node, Bits: 16}:             {2 + 1<<17, 0},
		{Kind: api.Notice, Badge: 1}:           {5, 1},
		{Kind: api.Notice, Badge: 1 << 27}:     {5, 1 << 27},
		{Kind: api.Notice, Badge: topBadge}:    {5, 0xfffffff},
		{Kind: api.Node, Bits: 1, Guard: 1}:    {2 + 1<<13, 1 << 32},
		{Kind: api.Node, Bits: 16, Guard: 1}:   {2 + 1<<17, 1 << 32},
		{Kind: api.Node, Bits: 3, Guard: 5}:    {2 + 3<<13, 5 << 32},
		{Kind: api.Node, Bits: 15, Guard: 1}:   {2 + 15<<13, 1 << 32},
		{Kind: api.Control}:                    {10, 0},
		{Kind: api.Node, Bits: 16, Guard: 1e4}: {2 + 1<<17, 1e4 << 32},

		{Kind: api.Node, Bits: 16, Guard: 1 << 15}:              {2 + 1<<17, 1 << 47},
		{Kind: api.Node, Object: 63, Bits: 16, Guard: topGuard}: {0x203f2, 0xffff << 32},

		{Kind: api.Endpoint, Object: 3, Rights: 3, Badge: 7}:         {3124, 7}, // the chapter's
		{Kind: api.Endpoint, Object: 63, Rights: 7, Badge: topBadge}: {0x1ff4, 0xfffffff},
	}
}

func TestWordsAndOfEachField(t *testing.T) {
	for c, w := range fieldWords() {
		if a, b, e := Words(c); a != w[0] || b != w[1] || e != api.OK {
			t.Errorf("Words(%+v): %#x, %#x, error %d, want %#x", c, a, b, e, w)
		}
		if d, e := Of(w[0], w[1]); d != c || e != api.OK {
			t.Errorf("Of(%#x): %+v, error %d, want %+v", w, d, e, c)
		}
	}
}

func TestWordsOfWrongOnes(t *testing.T) {
	for c, want := range wrongCaps() {
		if a, b, e := Words(c); a != 0 || b != 0 || e != want {
			t.Errorf("Words(%+v): %#x, %#x, error %d, want error %d", c, a, b, e, want)
		}
	}
}

// refusedByOf wants ErrField, and nothing beside it.
func refusedByOf(t *testing.T, a, b uint64) {
	t.Helper()
	if c, e := Of(a, b); c != (api.Cap{}) || e != api.ErrField {
		t.Errorf("Of(%#x, %#x): %+v, error %d, want error %d", a, b, c, e, api.ErrField)
	}
}

// A bit that is in no field, beside words that are right without it.
func TestOfWithABitTooMany(t *testing.T) {
	for _, c := range rightCaps() {
		a, b := wantWords(c)
		for i := 18; i < 64; i++ {
			refusedByOf(t, a+power(i), b)
		}
		for i := 28; i < 64; i++ {
			if i < 32 || i > 47 {
				refusedByOf(t, a, b+power(i))
			}
		}
	}
}

// Words of which each field has room, but which are no right capability's: a
// kind that is none is ErrField here, too.
func TestOfWordsThatAreNotRight(t *testing.T) {
	for _, w := range [][2]uint64{
		{12, 0}, {13, 0}, {14, 0}, {15, 0}, {12 + 3<<4, 0}, {15, all}, // kinds
		{1 << 4, 0}, {63 << 4, 0}, {10 + 1<<4, 0}, {10 + 32<<4, 0}, // objects of Null and Control
		{1 << 10, 0}, {1 + 1<<10, 0}, {2 + 1<<10, 0}, {3 + 2<<10, 0}, {7 + 4<<10, 0}, {8 + 7<<10, 0}, {9 + 1<<10, 0}, {10 + 1<<10, 0}, {11 + 1<<10, 0}, // rights
		{0, 1}, {1, 1}, {2, 1}, {3, 1}, {6, 1}, {6 + 7<<10, 7}, {7, 1 << 27}, {8, 1}, {9, 1}, {10, 1}, {11, 1}, // badges
		{1 << 13, 0}, {1 + 1<<13, 0}, {4 + 1<<13, 0}, {6 + 16<<13, 0}, {11 + 1<<13, 0}, // bits
		{2 + 17<<13, 0}, {2 + 24<<13, 0}, {2 + 31<<13, 0}, {2 + 17<<13, 1 << 32}, {2 + 31<<13, topGuard << 32}, // too many bits
		{0, 1 << 32}, {4, 1 << 32}, {2, 1 << 32}, {2, 1 << 47}, {2 + 1<<13, 2 << 32}, {2 + 3<<13, 8 << 32}, {2 + 15<<13, 1 << 47}, {11, 1 << 32}, // guards
		{all, all}, {all, 0}, {0, all}, {3124, all}, {all - 11, 7}, {1<<63 + 3124, 7}, {3124, 1<<63 + 7},
	} {
		refusedByOf(t, w[0], w[1])
	}
}

// All first words without a bit too many, and some with one, with some second ones.
func TestOfEachFirstWord(t *testing.T) {
	seconds := []uint64{0, 1, topBadge, 1 << 28, 1 << 31, 1 << 32, 5 << 32, 1<<32 + 1, 1 << 46, 1 << 47, topGuard << 32, topGuard<<32 + topBadge, 1 << 48, 1 << 63, all}
	for a := range uint64(1<<18 + 1<<12) {
		for _, b := range seconds {
			c, want := wantOf(a, b)
			if d, e := Of(a, b); d != c || e != want {
				t.Errorf("Of(%#x, %#x): %+v, error %d, want %+v, error %d", a, b, d, e, c, want)
			}
		}
	}
}

// Words with one bit, or two, turned of those of right capabilities.
func TestOfTurnedBits(t *testing.T) {
	for c := range fieldWords() {
		a, b := wantWords(c)
		for i := range 64 {
			for j := range 64 {
				for _, w := range [][2]uint64{{a ^ power(i), b}, {a, b ^ power(i)}, {a ^ power(i), b ^ power(j)}, {a ^ power(i) ^ power(j), b}} {
					d, want := wantOf(w[0], w[1])
					if x, e := Of(w[0], w[1]); x != d || e != want {
						t.Errorf("Of(%#x): %+v, error %d, want %+v, error %d", w, x, e, d, want)
					}
				}
			}
		}
	}
}

// 5.2: Derive

// asked is what is handed to Derive beside the capability.
type asked struct {
	rights       int
	badge, guard uint64
	bits         int
}

func derive(c api.Cap, a asked) (api.Cap, api.Errno) {
	return Derive(c, a.rights, a.badge, a.guard, a.bits)
}

func wantDerived(t *testing.T, c api.Cap, a asked, want api.Cap) {
	t.Helper()
	if d, e := derive(c, a); d != want || e != api.OK {
		t.Errorf("Derive(%+v, %+v): %+v, error %d, want %+v", c, a, d, e, want)
	}
}

func refusedByDerive(t *testing.T, c api.Cap, a asked, want api.Errno) {
	t.Helper()
	if d, e := derive(c, a); d != (api.Cap{}) || e != want {
		t.Errorf("Derive(%+v, %+v): %+v, error %d, want error %d", c, a, d, e, want)
	}
}

func TestDeriveExamples(t *testing.T) {
	c := api.Cap{Kind: api.Endpoint, Object: 3, Rights: 3, Badge: 7}
	refusedByDerive(t, c, asked{rights: 1, badge: 9}, api.ErrState)
	wantDerived(t, c, asked{rights: 1}, api.Cap{Kind: api.Endpoint, Object: 3, Rights: 1, Badge: 7})
}

func TestDeriveMasksRights(t *testing.T) {
	for _, kind := range []int{api.Endpoint, api.Notice, api.Frame} {
		for had := range 8 {
			for want := range 8 {
				both := 0
				for _, right := range []int{api.Read, api.Write, api.Grant} {
					if had/right%2 == 1 && want/right%2 == 1 {
						both += right
					}
				}
				wantDerived(t, api.Cap{Kind: kind, Object: 5, Rights: had}, asked{rights: want}, api.Cap{Kind: kind, Object: 5, Rights: both})
			}
		}
	}
}

func TestDeriveWithABadge(t *testing.T) {
	for _, kind := range []int{api.Endpoint, api.Notice} {
		c := api.Cap{Kind: kind, Object: 63, Rights: 7}
		for _, badge := range []uint64{0, 1, 7, 1 << 27, topBadge} {
			wantDerived(t, c, asked{rights: 7, badge: badge}, api.Cap{Kind: kind, Object: 63, Rights: 7, Badge: badge})
		}
		for _, badge := range []uint64{1 << 28, 1<<28 + 1, 1 << 32, 1<<32 + 1, 1 << 63, all} {
			refusedByDerive(t, c, asked{rights: 7, badge: badge}, api.ErrField)
		}
	}
}

// The same badge again is one too many, too; and that there is one comes ahead
// of a badge that is too great.
func TestDeriveWhereABadgeIs(t *testing.T) {
	for _, kind := range []int{api.Endpoint, api.Notice} {
		for _, had := range []uint64{1, 7, topBadge} {
			c := api.Cap{Kind: kind, Object: 2, Rights: 6, Badge: had}
			wantDerived(t, c, asked{rights: 3}, api.Cap{Kind: kind, Object: 2, Rights: 2, Badge: had})
			for _, badge := range []uint64{1, 7, 9, topBadge, 1 << 28, 1 << 32, all} {
				refusedByDerive(t, c, asked{rights: 3, badge: badge}, api.ErrState)
			}
		}
	}
}

func TestDeriveWithAGuard(t *testing.T) {
	had := []api.Cap{{Kind: api.Node, Object: 1}, {Kind: api.Node, Object: 1, Guard: 5, Bits: 3}, {Kind: api.Node, Object: 1, Guard: topGuard, Bits: 16}}
	for _, c := range had {
		for n := 0; n <= 16; n++ {
			for _, guard := range []uint64{0, power(n) / 2, power(n) - 1} {
				if guard < power(n) {
					wantDerived(t, c, asked{guard: guard, bits: n}, api.Cap{Kind: api.Node, Object: 1, Guard: guard, Bits: n})
				}
			}
			for _, guard := range []uint64{power(n), power(n) + 1, 1 << 16, 1 << 32, 1 << 63, all} {
				refusedByDerive(t, c, asked{guard: guard, bits: n}, api.ErrField)
			}
		}
		for _, n := range []int{-1, -2, -16, math.MinInt, 17, 18, 31, 32, 63, 64, 65, 128, 1 << 32, math.MaxInt} {
			for _, guard := range []uint64{0, 1, all} {
				refusedByDerive(t, c, asked{guard: guard, bits: n}, api.ErrField)
			}
		}
	}
}

// wild is what is wrong of each kind to which it belongs.
func wild() []asked {
	return []asked{
		{badge: 1}, {badge: 1 << 28}, {badge: all}, {guard: 1}, {guard: all}, {bits: 1}, {bits: 17}, {bits: -1}, {bits: math.MinInt}, {bits: math.MaxInt},
		{badge: all, guard: all, bits: -1}, {badge: 5, guard: 5, bits: 3}, {badge: 1, guard: 1, bits: math.MaxInt},
	}
}

func TestDeriveWhatDoesNotBelongToTheKind(t *testing.T) {
	for _, a := range wild() {
		for mask := range 8 {
			a.rights = mask
			for _, kind := range []int{api.Thread, api.Table, api.Space, api.Irq} {
				c := api.Cap{Kind: kind, Object: 63}
				wantDerived(t, c, a, c)
			}
			wantDerived(t, api.Cap{Kind: api.Frame, Object: 8, Rights: 7}, a, api.Cap{Kind: api.Frame, Object: 8, Rights: mask})
			for _, kind := range []int{api.Endpoint, api.Notice} {
				c := api.Cap{Kind: kind, Object: 8, Rights: 7, Badge: 4}
				wantDerived(t, c, asked{rights: mask, guard: a.guard, bits: a.bits}, api.Cap{Kind: kind, Object: 8, Rights: mask, Badge: 4})
			}
			wantDerived(t, api.Cap{Kind: api.Node, Object: 8}, asked{rights: mask, badge: a.badge, guard: 2, bits: 2}, api.Cap{Kind: api.Node, Object: 8, Guard: 2, Bits: 2})
		}
	}
}

func noRights() []int {
	return []int{-1, -2, -8, math.MinInt, 8, 9, 15, 16, 1 << 32, 1<<32 + 7, math.MaxInt}
}

// Numbers that are no rights are refused of each kind, also of those that have
// none, and ahead of what is wrong with badge, guard or bits.
func TestDeriveWithNoRights(t *testing.T) {
	for _, wrong := range noRights() {
		for _, c := range rightCaps() {
			switch c.Kind {
			case api.Null, api.Untyped, api.Control, api.Reply:
				continue
			}
			refusedByDerive(t, c, asked{rights: wrong}, api.ErrRights)
			refusedByDerive(t, c, asked{wrong, 1, 0, 0}, api.ErrRights)
			refusedByDerive(t, c, asked{wrong, all, all, -1}, api.ErrRights)
		}
	}
}

// Of these kinds nothing is derived, whatever is asked.
func TestDeriveOfKindsThatGiveNone(t *testing.T) {
	for _, c := range rightCaps() {
		want := api.ErrKind
		switch c.Kind {
		case api.Null:
			want = api.ErrNone
		case api.Untyped, api.Control, api.Reply:
		default:
			continue
		}
		for _, mask := range append(noRights(), 0, 1, 7) {
			for _, a := range append(wild(), asked{}) {
				a.rights = mask
				refusedByDerive(t, c, a, want)
			}
		}
	}
}

// What is wrong with the capability comes first, whatever else is.
func TestDeriveOfWrongOnes(t *testing.T) {
	for c, want := range wrongCaps() {
		for _, mask := range append(noRights(), 0, 7) {
			for _, a := range append(wild(), asked{}) {
				a.rights = mask
				refusedByDerive(t, c, a, want)
			}
		}
	}
}

// wantDerive is 5.2, read down in its order.
func wantDerive(c api.Cap, a asked) (api.Cap, api.Errno) {
	if e := wantCheck(c); e != api.OK {
		return api.Cap{}, e
	}
	switch c.Kind {
	case 0:
		return api.Cap{}, api.ErrNone
	case 1, 10, 11:
		return api.Cap{}, api.ErrKind
	}
	if a.rights < 0 || a.rights > 7 {
		return api.Cap{}, api.ErrRights
	}
	d := c
	if c.Kind == 4 || c.Kind == 5 || c.Kind == 6 {
		d.Rights = c.Rights & a.rights
	}
	if (c.Kind == 4 || c.Kind == 5) && a.badge != 0 {
		if c.Badge != 0 {
			return api.Cap{}, api.ErrState
		}
		if a.badge >= power(28) {
			return api.Cap{}, api.ErrField
		}
		d.Badge = a.badge
	}
	if c.Kind == 2 {
		if a.bits < 0 || a.bits > 16 || a.guard >= power(a.bits) {
			return api.Cap{}, api.ErrField
		}
		d.Guard, d.Bits = a.guard, a.bits
	}
	return d, api.OK
}

// eachAsked hands on what may be asked, right and wrong, each with each.
func eachAsked(see func(asked)) {
	for _, mask := range []int{math.MinInt, -1, 0, 1, 2, 4, 5, 7, 8, math.MaxInt} {
		for _, badge := range []uint64{0, 1, 7, topBadge, 1 << 28, all} {
			for _, guard := range []uint64{0, 1, 5, 8, topGuard, 1 << 16, all} {
				for _, n := range []int{math.MinInt, -1, 0, 1, 3, 16, 17, 64, math.MaxInt} {
					see(asked{mask, badge, guard, n})
				}
			}
		}
	}
}

// TestEachDerive holds Derive against the tests' own; what is derived is right
// and weaker (5.3).
func TestEachDerive(t *testing.T) {
	caps := rightCaps()
	for c := range wrongCaps() {
		caps = append(caps, c)
	}
	for _, c := range caps {
		eachAsked(func(a asked) {
			d, want := wantDerive(c, a)
			x, e := derive(c, a)
			if x != d || e != want {
				t.Errorf("Derive(%+v, %+v): %+v, error %d, want %+v, error %d", c, a, x, e, d, want)
			}
			if e == api.OK && (Check(x) != api.OK || !Weaker(x, c)) {
				t.Errorf("Derive(%+v, %+v): %+v is not right, or not weaker", c, a, x)
			}
		})
	}
}

// 5.2: Weaker

func TestWeaker(t *testing.T) {
	plain := api.Cap{Kind: api.Endpoint, Object: 3, Rights: 3}
	badged := api.Cap{Kind: api.Endpoint, Object: 3, Rights: 3, Badge: 7}
	for _, c := range []struct {
		a, b api.Cap
		want bool
	}{
		{plain, plain, true}, {badged, badged, true}, {badged, plain, true}, {plain, badged, false},
		{badged, api.Cap{Kind: api.Endpoint, Object: 3, Rights: 3, Badge: 9}, false},
		{api.Cap{Kind: api.Endpoint, Object: 3, Rights: 1, Badge: 7}, badged, true},
		{badged, api.Cap{Kind: api.Endpoint, Object: 3, Rights: 1, Badge: 7}, false},
		{api.Cap{Kind: api.Endpoint, Object: 3, Rights: 4, Badge: 7}, badged, false},
		{api.Cap{Kind: api.Endpoint, Object: 3}, plain, true},
		{plain, api.Cap{Kind: api.Endpoint, Object: 4, Rights: 3}, false},
		{plain, api.Cap{Kind: api.Notice, Object: 3, Rights: 3}, false},
		{api.Cap{Kind: api.Frame, Object: 3, Rights: 1}, api.Cap{Kind: api.Frame, Object: 3, Rights: 3}, true},
		{api.Cap{Kind: api.Frame, Object: 3, Rights: 3}, api.Cap{Kind: api.Frame, Object: 3, Rights: 1}, false},
		{api.Cap{Kind: api.Frame, Object: 3, Rights: 3}, plain, false},
		{api.Cap{Kind: api.Node, Object: 3, Guard: 5, Bits: 3}, api.Cap{Kind: api.Node, Object: 3}, true}, // guards don't matter
		{api.Cap{Kind: api.Node, Object: 3}, api.Cap{Kind: api.Node, Object: 3, Guard: 5, Bits: 3}, true},
		{api.Cap{Kind: api.Node, Object: 3, Guard: 2, Bits: 2}, api.Cap{Kind: api.Node, Object: 3, Guard: 5, Bits: 3}, true},
		{api.Cap{Kind: api.Node, Object: 3}, api.Cap{Kind: api.Node, Object: 2}, false},
		{api.Cap{}, api.Cap{}, true}, {api.Cap{}, plain, false}, {plain, api.Cap{}, false},
		{api.Cap{Kind: api.Control}, api.Cap{Kind: api.Control}, true},
		{api.Cap{Kind: api.Reply, Object: 1}, api.Cap{Kind: api.Reply, Object: 1}, true},
		{api.Cap{Kind: api.Untyped, Object: 1}, api.Cap{Kind: api.Untyped, Object: 2}, false},
	} {
		if got := Weaker(c.a, c.b); got != c.want {
			t.Errorf("Weaker(%+v, %+v): %v", c.a, c.b, got)
		}
	}
}

// What is not right is not weaker, and nothing is weaker than it: also where
// it is the same, and where it is wrong in what Weaker does not compare.
func TestWeakerOfWrongOnes(t *testing.T) {
	var wrongs []api.Cap
	for c := range wrongCaps() {
		wrongs = append(wrongs, c)
	}
	refused := func(a, b api.Cap) {
		if Weaker(a, b) {
			t.Errorf("Weaker(%+v, %+v): true", a, b)
		}
	}
	for _, wrong := range wrongs {
		refused(wrong, wrong)
		near := api.Cap{Kind: wrong.Kind, Object: wrong.Object}
		refused(near, wrong)
		refused(wrong, near)
		for _, c := range rightCaps() {
			refused(c, wrong)
			refused(wrong, c)
		}
		for _, other := range wrongs {
			refused(wrong, other)
		}
	}
}

func wantWeaker(a, b api.Cap) bool {
	if wantCheck(a) != api.OK || wantCheck(b) != api.OK || a.Kind != b.Kind || a.Object != b.Object {
		return false
	}
	for _, right := range []int{api.Read, api.Write, api.Grant} {
		if a.Rights/right%2 > b.Rights/right%2 {
			return false
		}
	}
	return b.Badge == 0 || a.Badge == b.Badge
}

func TestWeakerOfEachTwo(t *testing.T) {
	caps := rightCaps()
	for _, a := range caps {
		for _, b := range caps {
			if got, want := Weaker(a, b), wantWeaker(a, b); got != want {
				t.Errorf("Weaker(%+v, %+v): %v", a, b, got)
			}
		}
	}
}

// 5.3

func TestOfWordsIsTheCapability(t *testing.T) {
	eachCap(func(c api.Cap) {
		a, b, e := Words(c)
		if e != api.OK {
			return
		}
		if d, e := Of(a, b); d != c || e != api.OK {
			t.Errorf("Of(Words(%+v)): %+v, error %d", c, d, e)
		}
	})
}

func TestWordsOfOfAreTheWords(t *testing.T) {
	for a := range uint64(1 << 18) {
		for _, b := range []uint64{0, 7, topBadge, 1 << 32, topGuard << 32} {
			c, e := Of(a, b)
			if e != api.OK {
				continue
			}
			if x, y, e := Words(c); x != a || y != b || e != api.OK {
				t.Errorf("Words(Of(%#x, %#x)): %#x, %#x, error %d", a, b, x, y, e)
			}
		}
	}
}

// Each right one is weaker than itself; and what is weaker than something
// weaker is weaker.
func TestWeakerIsAnOrder(t *testing.T) {
	caps := rightCaps()
	weaker := make([][]int, len(caps)) // the places of those that are weaker
	for i, b := range caps {
		if !Weaker(b, b) {
			t.Errorf("Weaker(%+v, itself): false", b)
		}
		for j, a := range caps {
			if Weaker(a, b) {
				weaker[i] = append(weaker[i], j)
			}
		}
	}
	for i, c := range caps {
		for _, j := range weaker[i] {
			for _, k := range weaker[j] {
				if !Weaker(caps[k], c) {
					t.Errorf("%+v is weaker than %+v, which is weaker than %+v", caps[k], caps[j], c)
				}
			}
		}
	}
}

// What is derived of what was derived is weaker than the first one.
func TestDerivedTwiceIsWeaker(t *testing.T) {
	asks := []asked{{rights: 7}, {rights: 1}, {rights: 6, badge: 5}, {rights: 3, guard: 2, bits: 2}, {rights: 0, badge: topBadge, guard: topGuard, bits: 16}}
	for _, c := range rightCaps() {
		for _, first := range asks {
			for _, second := range asks {
				d, e := derive(c, first)
				if e != api.OK {
					continue
				}
				if f, e := derive(d, second); e == api.OK && (!Weaker(f, d) || !Weaker(f, c)) {
					t.Errorf("%+v, derived %+v and %+v: %+v is not weaker", c, first, second, f)
				}
			}
		}
	}
}
