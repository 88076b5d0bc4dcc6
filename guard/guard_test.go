package guard

import (
	"maps"
	"math"
	"slices"
	"strconv"
	"strings"
	"testing"

	"donjon/api"
	"donjon/slots"
)

// sl and nd are short for the tables.
func sl(node, at int) api.Slot { return api.Slot{Node: node, At: at} }

func nd(object int, guard uint64, bits int) api.Cap {
	return api.Cap{Kind: api.Node, Object: object, Guard: guard, Bits: bits}
}

// others is a capability of each kind but Null and Node. As far as they may,
// they name node 1, so that they would lead on if they were Nodes.
func others() []api.Cap {
	return []api.Cap{
		{Kind: api.Untyped, Object: 1},
		{Kind: api.Thread, Object: 1},
		{Kind: api.Endpoint, Object: 1, Rights: 7, Badge: 1<<28 - 1},
		{Kind: api.Notice, Object: 1, Rights: 2, Badge: 7},
		{Kind: api.Frame, Object: 1, Rights: 3},
		{Kind: api.Table, Object: 1},
		{Kind: api.Space, Object: 1},
		{Kind: api.Irq, Object: 1},
		{Kind: api.Control},
		{Kind: api.Reply, Object: 1},
	}
}

// noDepths are depths that no address has: about the bounds, and far out.
func noDepths() []int {
	return []int{0, -1, -2, -16, -64, -1 << 32, math.MinInt, math.MinInt + 16,
		17, 18, 32, 63, 64, 65, 1 << 32, 1<<32 + 5, math.MaxInt}
}

// noAddresses are numbers that are no addresses of a depth. Their lowest bits
// are those of addresses that there are.
func noAddresses(depth int) []uint64 {
	first := uint64(1) << depth
	return []uint64{first, first + 1, 2*first - 1, 2 * first, 1 << 16, 1<<16 + 1, 1 << 32, 1<<32 + 22, 1 << 63, 1<<63 + 22, math.MaxUint64}
}

// world is a store, and what was laid into it.
type world struct {
	*testing.T
	s     *slots.Store
	radix map[int]int
	caps  map[api.Slot]api.Cap
}

func newWorld(t *testing.T, radix map[int]int, caps map[api.Slot]api.Cap) world {
	t.Helper()
	w := world{t, slots.New(), radix, caps}
	for id, r := range radix {
		if e := w.s.Add(id, r); e != api.OK {
			t.Fatalf("Add(%d, %d): %v", id, r, e)
		}
	}
	for at, c := range caps {
		if e := w.s.Put(at, c); e != api.OK {
			t.Fatalf("Put(%v, %+v): %v", at, c, e)
		}
	}
	return w
}

// same holds all that can be asked of the store against what was laid into it.
func (w world) same() {
	w.Helper()
	full := slices.SortedFunc(maps.Keys(w.caps), func(a, b api.Slot) int { return a.Node*16 + a.At - b.Node*16 - b.At })
	if l := w.s.Full(); !slices.Equal(l, full) {
		w.Errorf("changed: Full: %v, not %v", l, full)
	}
	counts := map[[2]int]int{}
	for _, c := range w.caps {
		counts[[2]int{c.Kind, c.Object}]++
	}
	for id := range 64 {
		if r := w.s.Radix(id); r != w.radix[id] {
			w.Errorf("changed: Radix(%d): %d, not %d", id, r, w.radix[id])
		}
		for i := range 16 {
			want := api.ErrLookup
			if r := w.radix[id]; r != 0 && i < 1<<r {
				want = api.OK
			}
			if c, e := w.s.Get(sl(id, i)); c != w.caps[sl(id, i)] || e != want {
				w.Errorf("changed: Get(%d, %d): %+v, %v; not %+v, %v", id, i, c, e, w.caps[sl(id, i)], want)
			}
		}
		for kind := range 12 {
			if n := w.s.Count(kind, id); n != counts[[2]int{kind, id}] {
				w.Errorf("changed: Count(%d, %d): %d, not %d", kind, id, n, counts[[2]int{kind, id}])
			}
		}
	}
}

// leads holds all three calls against what Resolve has to answer.
func (w world) leads(root api.Cap, ptr uint64, depth int, at api.Slot, left int) {
	w.Helper()
	if a, l, e := Resolve(w.s, root, ptr, depth); a != at || l != left || e != api.OK {
		w.Errorf("Resolve(%+v, %b, %d): %v, %d left, %v; not %v, %d left", root, ptr, depth, a, l, e, at, left)
	}
	if _, e := w.s.Get(at); e != api.OK {
		w.Errorf("Get(%v), found: %v", at, e)
	}
	if left == 0 {
		w.finds(root, ptr, depth, at, api.OK)
	} else {
		w.finds(root, ptr, depth, api.Slot{}, api.ErrLookup)
	}
	if depth != 16 {
		return
	}
	if c := w.caps[at]; c != (api.Cap{}) {
		w.caught(root, ptr, at, c, api.OK)
	} else {
		w.caught(root, ptr, api.Slot{}, api.Cap{}, api.ErrNone)
	}
}

// fails holds all three calls against an error of Resolve.
func (w world) fails(root api.Cap, ptr uint64, depth int, want api.Errno) {
	w.Helper()
	if a, l, e := Resolve(w.s, root, ptr, depth); a != (api.Slot{}) || l != 0 || e != want {
		w.Errorf("Resolve(%+v, %b, %d): %v, %d left, %v; not %v", root, ptr, depth, a, l, e, want)
	}
	w.finds(root, ptr, depth, api.Slot{}, want)
	if depth == 16 {
		w.caught(root, ptr, api.Slot{}, api.Cap{}, want)
	}
}

func (w world) finds(root api.Cap, ptr uint64, depth int, at api.Slot, want api.Errno) {
	w.Helper()
	if a, e := Find(w.s, root, ptr, depth); a != at || e != want {
		w.Errorf("Find(%+v, %b, %d): %v, %v; not %v, %v", root, ptr, depth, a, e, at, want)
	}
}

func (w world) caught(root api.Cap, ptr uint64, at api.Slot, c api.Cap, want api.Errno) {
	w.Helper()
	if a, x, e := Cap(w.s, root, ptr); a != at || x != c || e != want {
		w.Errorf("Cap(%+v, %b): %v, %+v, %v; not %v, %+v, %v", root, ptr, a, x, e, at, c, want)
	}
}

// parse reads an address as the chapter writes it, blanks between its parts.
func parse(t *testing.T, text string) (uint64, int) {
	t.Helper()
	text = strings.ReplaceAll(text, " ", "")
	ptr, err := strconv.ParseUint(text, 2, 64)
	if err != nil {
		t.Fatal(err)
	}
	return ptr, len(text)
}

// 8.1, 8.2

func TestExample(t *testing.T) {
	w := newWorld(t, map[int]int{1: 2}, nil)
	w.leads(nd(1, 5, 3), 22, 5, sl(1, 2), 0)
	w.fails(nd(1, 4, 3), 22, 5, api.ErrLookup)
	w.leads(nd(1, 5, 3), 45, 6, sl(1, 2), 1)
	w.leads(nd(1, 5, 3), 5<<13, 16, sl(1, 0), 11)
	w.same()
}

// guards are some guards of so many bits: the first ones, the last ones, and mixed ones.
func guards(bits int) []uint64 {
	all := uint64(1)<<bits - 1
	l := []uint64{0, all, 1 & all, all &^ 1, 0x5555 & all, 0xaaaa & all, 0x1234 & all}
	slices.Sort(l)
	return slices.Compact(l)
}

// One level of empty slots, for each radix, each length of a guard and each
// slot: with no bits left, and with any number of them.
func TestOneLevel(t *testing.T) {
	for radix := 1; radix <= 4; radix++ {
		w := newWorld(t, map[int]int{radix * 7: radix}, nil)
		for bits := 0; bits+radix <= 16; bits++ {
			for _, g := range guards(bits) {
				for i := range 1 << radix {
					front := g<<radix | uint64(i)
					for left := 0; bits+radix+left <= 16; left++ {
						depth, rest := bits+radix+left, uint64(1)<<left-1
						w.leads(nd(radix*7, g, bits), front<<left, depth, sl(radix*7, i), left)
						w.leads(nd(radix*7, g, bits), front<<left|rest, depth, sl(radix*7, i), left)
					}
				}
			}
		}
		w.same()
	}
}

// A guard that differs in one bit, whichever it is, is not that guard; nor is
// one of which the bits stand elsewhere.
func TestGuardIsAnother(t *testing.T) {
	for radix := 1; radix <= 4; radix++ {
		w := newWorld(t, map[int]int{9: radix}, nil)
		for bits := 1; bits+radix <= 16; bits++ {
			for _, g := range guards(bits) {
				for flip := range bits {
					for left := 0; bits+radix+left <= 16; left++ {
						w.fails(nd(9, g, bits), (g^1<<flip)<<(radix+left), bits+radix+left, api.ErrLookup)
					}
				}
			}
		}
		w.same()
	}
	w := newWorld(t, map[int]int{9: 2}, nil)
	for _, text := range []string{"110 10", "011 10", "101 10", "00 100", "001 00", "000100", "00000100"} {
		ptr, depth := parse(t, text)
		w.fails(nd(9, 4, 3), ptr, depth, api.ErrLookup)
	}
	w.same()
}

// Just as many bits as a level takes are enough; fewer are not, though those
// that there are agree.
func TestTooFewBits(t *testing.T) {
	for radix := 1; radix <= 4; radix++ {
		w := newWorld(t, map[int]int{9: radix}, nil)
		for bits := 0; bits <= 16; bits++ {
			for _, g := range guards(bits) {
				for missing := 1; missing < bits+radix; missing++ {
					if depth := bits + radix - missing; depth <= 16 {
						w.fails(nd(9, g, bits), g<<radix>>missing, depth, api.ErrLookup)
					}
				}
			}
		}
		w.same()
	}
}

// levels is a world in which one node leads to another one: with guards and
// without, by first slots and by last ones, and of each radix.
func levels(t *testing.T) world {
	return newWorld(t, map[int]int{0: 1, 1: 2, 2: 3, 3: 4, 63: 4}, map[api.Slot]api.Cap{
		sl(1, 0):   nd(2, 0, 0),
		sl(1, 1):   nd(0, 2, 2),
		sl(1, 3):   nd(63, 0, 3),
		sl(2, 7):   nd(3, 1, 1),
		sl(2, 0):   {Kind: api.Frame, Object: 1, Rights: 3},
		sl(3, 15):  nd(0, 0, 0),
		sl(3, 0):   nd(1, 5, 3),
		sl(0, 0):   {Kind: api.Endpoint, Object: 63, Rights: 7, Badge: 9},
		sl(0, 1):   nd(63, 127, 7),
		sl(63, 15): nd(63, 1, 1),
		sl(63, 8):  {Kind: api.Thread, Object: 2},
	})
}

func TestLevels(t *testing.T) {
	w := levels(t)
	for _, c := range []struct {
		root api.Cap
		text string
		at   api.Slot
		left int
	}{
		{nd(1, 0, 0), "00", sl(1, 0), 0}, // a Node with no bits left: its own slot
		{nd(1, 0, 0), "10", sl(1, 2), 0}, // an empty one
		{nd(1, 0, 0), "10 1", sl(1, 2), 1},
		{nd(1, 0, 0), "10 11111111111111", sl(1, 2), 14},
		{nd(1, 0, 0), "00 000", sl(2, 0), 0}, // two levels, no guards
		{nd(1, 0, 0), "00 101", sl(2, 5), 0},
		{nd(1, 0, 0), "00 111", sl(2, 7), 0},
		{nd(1, 0, 0), "00 000 1", sl(2, 0), 1}, // a Frame leads no further
		{nd(1, 0, 0), "00 000 10110", sl(2, 0), 5},
		{nd(1, 0, 0), "01 10 0", sl(0, 0), 0}, // a guard at the second level
		{nd(1, 0, 0), "01 10 1", sl(0, 1), 0},
		{nd(1, 0, 0), "01 10 0 1", sl(0, 0), 1},
		{nd(1, 2, 2), "10 01 10 0", sl(0, 0), 0}, // guards at both
		{nd(1, 0, 1), "0 11 000 1000", sl(63, 8), 0},
		{nd(1, 0, 1), "0 11 000 1000 111", sl(63, 8), 3},
		{nd(1, 0, 0), "00 111 1 0101", sl(3, 5), 0}, // three
		{nd(1, 0, 0), "00 111 1 1111", sl(3, 15), 0},
		{nd(1, 0, 0), "00 111 1 1111 0", sl(0, 0), 0}, // four
		{nd(1, 0, 0), "00 111 1 1111 0 00101", sl(0, 0), 5},
		{nd(1, 0, 0), "00 111 1 0000 101 11", sl(1, 3), 0}, // round, by another guard than the root's
		{nd(1, 0, 0), "00 111 1 0000 101 10 1", sl(1, 2), 1},
		{nd(1, 0, 0), "01 10 1 1111111 1111", sl(63, 15), 0}, // all sixteen bits
		{nd(1, 0, 0), "11 000 1111 1 1111", sl(63, 15), 0},   // a node that has itself
		{nd(1, 0, 0), "11 000 1111 1 1000 01", sl(63, 8), 2},
		{nd(1, 0, 0), "00 111 1 0000 101 10 0", sl(1, 2), 1},
		{nd(1, 0, 0), "00 111 1 0000 101 01", sl(1, 1), 0},
		{nd(1, 1, 1), "1 00 111 1 0000 101 00", sl(1, 0), 0}, // sixteen, and a Node there
		{nd(0, 0, 0), "0", sl(0, 0), 0},                      // one bit in all
		{nd(0, 0, 0), "1", sl(0, 1), 0},
		{nd(0, 0, 12), "000000000000 1", sl(0, 1), 0},
		{nd(0, 0, 0), "0 111111111111111", sl(0, 0), 15},
		{nd(0, 1<<15-1, 15), "111111111111111 1", sl(0, 1), 0},
		{nd(3, 1<<11, 12), "100000000000 1111", sl(3, 15), 0},
		{nd(3, 1<<11, 12), "100000000000 0000", sl(3, 0), 0},
		{nd(63, 0, 0), "1111 1 1111 1 1111", sl(63, 15), 0},
		{nd(63, 0, 0), "1111 1 1000 1 1111 1", sl(63, 8), 6},
		{nd(63, 0, 2), "00 1111 1 1111 1 0111", sl(63, 7), 0},
		{nd(63, 0, 0), "0000 000000000000", sl(63, 0), 12},
		{nd(2, 0, 0), "111 1 0000 101 01 10 1", sl(0, 1), 0}, // five
		{nd(2, 0, 0), "111 1 1111 0 1111111", sl(0, 0), 7},
		{nd(2, 0, 0), "111 1 0000 101 00 111", sl(2, 7), 0}, // back to where it began
		{nd(2, 0, 0), "110 1 0000 101 00 111", sl(2, 6), 13},
		{nd(63, 0, 1), "0 1111 1 1111 1 1111", sl(63, 15), 0},
		{nd(63, 1, 1), "1 1111 1 1111 1 1000", sl(63, 8), 0},
	} {
		ptr, depth := parse(t, c.text)
		w.leads(c.root, ptr, depth, c.at, c.left)
	}
	w.same()
}

func TestLevelsThatLeadNowhere(t *testing.T) {
	w := levels(t)
	for _, c := range []struct {
		root api.Cap
		text string
	}{
		{nd(2, 1, 1), "1 111 1 0000 101 00 00"}, // two bits, of three
		{nd(1, 0, 0), "00 1"},                   // one, of three
		{nd(1, 0, 0), "00 11"},
		{nd(1, 0, 0), "01 1"},    // a piece of a guard
		{nd(1, 0, 0), "01 10"},   // a guard, and no number
		{nd(1, 0, 0), "01 11 0"}, // another guard
		{nd(1, 0, 0), "01 00 0"},
		{nd(1, 0, 0), "01 01 0000"},
		{nd(1, 0, 0), "11 000 100"},
		{nd(1, 0, 0), "11 001 1000"},
		{nd(1, 0, 0), "00 111 0 0101"}, // at the third level
		{nd(1, 0, 0), "00 111 1"},
		{nd(1, 0, 0), "00 111 1 0000 100 11"}, // at the fourth
		{nd(1, 0, 0), "00 111 1 0000 101 1"},
		{nd(1, 0, 0), "01 10 1 1111110 1111"},
		{nd(1, 0, 0), "11 000 1111 0 1111"},
		{nd(63, 0, 0), "1111 1 1111 1 1111 1"}, // a guard, and no number
		{nd(63, 0, 0), "1111 1 1111 1 111"},
		{nd(63, 1, 1), "0 1111 1 1111 1 1000"},
		{nd(63, 0, 16), "0000000000000000"}, // all bits for the guard
		{nd(0, 1<<16-1, 16), "1111111111111111"},
	} {
		ptr, depth := parse(t, c.text)
		w.fails(c.root, ptr, depth, api.ErrLookup)
	}
	w.same()
}

// A slot of each kind, with any number of bits left: none but a Node leads on,
// though they name a node.
func TestKindsInSlots(t *testing.T) {
	for _, c := range append(others(), nd(1, 0, 0)) {
		for i := range 4 {
			w := newWorld(t, map[int]int{0: 4, 1: 1, 8: 2}, map[api.Slot]api.Cap{sl(8, i): c})
			w.leads(nd(8, 0, 0), uint64(i), 2, sl(8, i), 0)
			for left := 1; left <= 14; left++ {
				for _, rest := range []uint64{0, 1<<left - 1} {
					at, behind := sl(8, i), left
					if c.Kind == api.Node {
						at, behind = sl(1, int(rest&1)), left-1
					}
					w.leads(nd(8, 0, 0), uint64(i)<<left|rest, 2+left, at, behind)
				}
			}
			w.same()
		}
	}
}

// What lies in the slots beside the one that the bits name does not matter.
func TestOtherSlotsDoNotMatter(t *testing.T) {
	for radix := 1; radix <= 4; radix++ {
		for i := range 1 << radix {
			caps := map[api.Slot]api.Cap{}
			for k := range 1 << radix {
				if k != i {
					caps[sl(20, k)] = nd(21, 0, 0)
				}
			}
			w := newWorld(t, map[int]int{20: radix, 21: 1}, caps)
			for k := range 1 << radix {
				if k == i {
					w.leads(nd(20, 0, 0), uint64(k)<<5|9, radix+5, sl(20, k), 5)
				} else {
					w.leads(nd(20, 0, 0), uint64(k)<<5|9, radix+5, sl(21, 0), 4)
				}
			}
			w.same()
		}
	}
}

// A node that has itself in a slot is gone through as often as there are bits,
// whichever slot it is, with a guard and without.
func TestNodeInItself(t *testing.T) {
	for radix := 1; radix <= 4; radix++ {
		for i := range 1 << radix {
			for bits := 0; bits <= 12; bits++ {
				for _, g := range guards(bits) {
					c := nd(5, g, bits)
					w := newWorld(t, map[int]int{5: radix}, map[api.Slot]api.Cap{sl(5, i): c})
					// Whole levels one behind another, and a piece of one more.
					one := bits + radix
					level := g<<radix | uint64(i)
					ptr, rest := uint64(0), 16%one
					for depth := one; depth <= 16; depth += one {
						ptr = ptr<<one | level
						w.leads(c, ptr, depth, sl(5, i), 0)
						w.leads(c, ptr^1, depth, sl(5, i^1), 0)
					}
					if rest != 0 {
						w.fails(c, ptr<<rest|level>>(one-rest), 16, api.ErrLookup)
					}
					w.same()
				}
			}
		}
	}
}

// The longest walk: sixteen levels of one bit each.
func TestSixteenLevels(t *testing.T) {
	for i, ptr := range []uint64{0, 1<<16 - 1} {
		w := newWorld(t, map[int]int{63: 1}, map[api.Slot]api.Cap{sl(63, i): nd(63, 0, 0)})
		w.leads(nd(63, 0, 0), ptr, 16, sl(63, i), 0)
		for depth := 1; depth <= 16; depth++ {
			w.leads(nd(63, 0, 0), ptr&(1<<depth-1), depth, sl(63, i), 0)
		}
		for left := range 16 { // another slot, and it ends there
			w.leads(nd(63, 0, 0), ptr^1<<left, 16, sl(63, 1-i), left)
		}
		w.same()
	}
	radix, caps := map[int]int{}, map[api.Slot]api.Cap{}
	for id := range 16 {
		radix[id] = 1
		caps[sl(id, id%2)] = nd(id+1, 0, 0)
	}
	w := newWorld(t, radix, caps) // node 16 is none
	w.leads(nd(0, 0, 0), 0x5555, 16, sl(15, 1), 0)
	w.leads(nd(1, 0, 0), 0x5555, 15, sl(15, 1), 0)
	w.fails(nd(1, 0, 0), 0xaaaa, 16, api.ErrLookup)
	w.same()
}

// Two nodes that have one another lead to and fro, each with the guard by which it is held.
func TestNodesInOneAnother(t *testing.T) {
	w := newWorld(t, map[int]int{2: 1, 3: 2}, map[api.Slot]api.Cap{
		sl(2, 1): nd(3, 2, 2),
		sl(3, 0): nd(2, 0, 1),
	})
	for text, at := range map[string]api.Slot{
		"1":                      sl(2, 1),
		"1 10 00":                sl(3, 0),
		"1 10 00 0 1":            sl(2, 1),
		"1 10 00 0 1 10 00":      sl(3, 0),
		"1 10 00 0 1 10 11":      sl(3, 3),
		"1 10 00 0 1 10 00 0 0":  sl(2, 0),
		"1 10 00 0 1 10 00 0 1 ": sl(2, 1),
	} {
		ptr, depth := parse(t, text)
		w.leads(nd(2, 0, 0), ptr, depth, at, 0)
	}
	ptr, depth := parse(t, "1 10 00 0 1 10 00 1 1")
	w.fails(nd(2, 0, 0), ptr, depth, api.ErrLookup)
	w.same()
}

// The root is what is handed in, also where the same node lies in a slot with another guard.
func TestRootIsHandedIn(t *testing.T) {
	w := newWorld(t, map[int]int{4: 2}, map[api.Slot]api.Cap{sl(4, 0): nd(4, 3, 2)})
	w.leads(nd(4, 0, 0), 0b01, 2, sl(4, 1), 0)
	w.leads(nd(4, 1, 1), 0b101, 3, sl(4, 1), 0)
	w.leads(nd(4, 3, 2), 0b1101, 4, sl(4, 1), 0)
	w.leads(nd(4, 1, 1), 0b1001110, 7, sl(4, 2), 0)
	w.fails(nd(4, 3, 2), 0b0101, 4, api.ErrLookup)
	w.same()
}

func TestDepthsAndAddresses(t *testing.T) {
	w := newWorld(t, map[int]int{1: 1, 2: 4}, map[api.Slot]api.Cap{sl(1, 1): nd(1, 0, 0), sl(2, 0): nd(1, 0, 0)})
	for depth := 1; depth <= 16; depth++ {
		w.leads(nd(1, 0, 0), 0, depth, sl(1, 0), depth-1)
		w.leads(nd(1, 0, 0), 1<<depth-1, depth, sl(1, 1), 0)
		for _, ptr := range noAddresses(depth) {
			w.fails(nd(1, 0, 0), ptr, depth, api.ErrRange)
		}
	}
	for _, depth := range noDepths() {
		for _, ptr := range []uint64{0, 1, 22, 1<<16 - 1, 1 << 16, math.MaxUint64} {
			w.fails(nd(1, 0, 0), ptr, depth, api.ErrRange)
		}
	}
	w.same()
}

// A root of another kind is none, though its other fields are those of one.
func TestRootIsNoNode(t *testing.T) {
	w := levels(t)
	kinds := []int{-1, -2, 12, 16, 18, 1 << 32, 1<<32 + 2, math.MinInt, math.MinInt + 2, math.MaxInt}
	for kind := range 12 {
		if kind != api.Node {
			kinds = append(kinds, kind)
		}
	}
	for _, kind := range kinds {
		for depth := 1; depth <= 16; depth++ {
			w.fails(api.Cap{Kind: kind, Object: 1}, 0, depth, api.ErrKind)
			w.fails(api.Cap{Kind: kind, Object: 63, Guard: 1, Bits: 1}, 1<<depth-1, depth, api.ErrKind)
		}
	}
	for _, c := range append(others(), api.Cap{}) {
		w.fails(c, 0, 16, api.ErrKind)
	}
	w.same()
}

func TestRootsObjectIsNoNode(t *testing.T) {
	w := levels(t)
	ids := []int{-1, -63, -64, -1 << 32, math.MinInt, 64, 65, 127, 128, 256, 1 << 32, 1<<32 + 1, math.MaxInt}
	for id := range 64 {
		if w.radix[id] == 0 {
			ids = append(ids, id)
		}
	}
	for _, id := range ids {
		for depth := 1; depth <= 16; depth++ {
			w.fails(nd(id, 0, 0), 0, depth, api.ErrLookup)
			w.fails(nd(id, 1, 1), 1<<depth-1, depth, api.ErrLookup)
		}
	}
	empty := newWorld(t, nil, nil)
	for id := range 64 {
		empty.fails(nd(id, 0, 0), 0, 16, api.ErrLookup)
	}
	empty.same()
	w.same()
}

// A Node in a slot whose node is not there: the slot is found, if the address
// ends there; nothing is, if it goes on.
func TestSlotsObjectIsNoNode(t *testing.T) {
	for _, bits := range []int{0, 1, 16} {
		c := nd(30, 0, bits)
		w := newWorld(t, map[int]int{1: 2, 2: 3}, map[api.Slot]api.Cap{sl(1, 3): nd(2, 0, 0), sl(1, 2): c, sl(2, 0): c})
		w.leads(nd(1, 0, 0), 0b10, 2, sl(1, 2), 0)
		w.leads(nd(1, 0, 0), 0b11000, 5, sl(2, 0), 0)
		w.leads(nd(1, 0, 11), 0b11000, 16, sl(2, 0), 0)
		for left := 1; left <= 11; left++ {
			w.fails(nd(1, 0, 0), 0b10<<left, 2+left, api.ErrLookup)
			w.fails(nd(1, 0, 0), 0b11000<<left, 5+left, api.ErrLookup)
		}
		w.fails(nd(1, 0, 0), 0b10<<14, 16, api.ErrLookup)
		w.same()
	}
}

// A root need not be right. A guard that has no room in its bits is not what
// stands in an address; nor are there bits fewer than none, or more than all.
func TestRootIsNotRight(t *testing.T) {
	w := newWorld(t, map[int]int{1: 2}, map[api.Slot]api.Cap{sl(1, 0): nd(1, 0, 0), sl(1, 3): nd(1, 0, 0)})
	for depth := 1; depth <= 16; depth++ {
		for _, ptr := range []uint64{0, 1, 1<<depth - 1} {
			for _, bits := range []int{-1, -2, -3, -16, -64, -1 << 32, math.MinInt, math.MinInt + 1,
				17, 18, 63, 64, 65, 1 << 32, math.MaxInt - 2, math.MaxInt - 1, math.MaxInt} {
				for _, g := range []uint64{0, 1, 1<<16 - 1, math.MaxUint64} {
					w.fails(nd(1, g, bits), ptr, depth, api.ErrLookup)
				}
			}
			for bits := range 15 {
				for _, g := range []uint64{1 << bits, 1<<bits | ptr>>min(2, depth), 1 << 32, 1 << 63, math.MaxUint64} {
					w.fails(nd(1, g, bits), ptr, depth, api.ErrLookup)
				}
			}
		}
	}
	root := nd(1, 1, 1)
	root.Rights, root.Badge = 7, 1<<28 // no Node has them, and they are not asked for
	w.leads(root, 0b101, 3, sl(1, 1), 0)
	w.same()
}

// Where several errors apply: that it is no address, that the root is no Node,
// and what is found last.
func TestOrderOfErrors(t *testing.T) {
	w := newWorld(t, map[int]int{1: 2}, nil)
	for _, c := range []api.Cap{nd(30, 0, 0), nd(64, 0, 0), nd(1, 7, 3), nd(1, 0, -1), nd(1, 0, 17)} {
		w.fails(c, 0, 8, api.ErrLookup)
		for _, depth := range noDepths() {
			w.fails(c, 0, depth, api.ErrRange)
		}
		w.fails(c, 1<<8, 8, api.ErrRange)
		w.fails(c, 1<<16, 16, api.ErrRange)
		for _, kind := range []int{api.Null, api.Untyped, api.Thread, 12, -1} {
			c.Kind = kind
			w.fails(c, 0, 8, api.ErrKind)
			w.fails(c, 0, 16, api.ErrKind)
			w.fails(c, 1<<8, 8, api.ErrRange)
			w.fails(c, 1<<16, 16, api.ErrRange)
			w.fails(c, math.MaxUint64, 17, api.ErrRange)
			for _, depth := range noDepths() {
				w.fails(c, 0, depth, api.ErrRange)
			}
		}
	}
	w.same()
}

// 8.2

func TestFind(t *testing.T) {
	w := levels(t)
	w.finds(nd(1, 0, 0), 0b10, 2, sl(1, 2), api.OK)              // none left, empty
	w.finds(nd(1, 0, 0), 0b101, 3, api.Slot{}, api.ErrLookup)    // one left
	w.finds(nd(1, 0, 0), 0b00000, 5, sl(2, 0), api.OK)           // none left, a Frame
	w.finds(nd(1, 0, 0), 0b000000, 6, api.Slot{}, api.ErrLookup) // one left
	w.finds(nd(1, 0, 0), 0b01, 2, sl(1, 1), api.OK)              // none left, a Node
	w.finds(nd(1, 0, 0), 0b011, 3, api.Slot{}, api.ErrLookup)    // one left, and it leads nowhere
	w.finds(nd(1, 0, 0), 0b00<<14, 16, api.Slot{}, api.ErrLookup)
	w.finds(nd(1, 0, 0), 4, 2, api.Slot{}, api.ErrRange)
	w.finds(api.Cap{}, 0, 2, api.Slot{}, api.ErrKind)
	w.same()
}

func TestCap(t *testing.T) {
	w := levels(t)
	frame := api.Cap{Kind: api.Frame, Object: 1, Rights: 3}
	thread := api.Cap{Kind: api.Thread, Object: 2}
	none := api.Cap{}
	for _, c := range []struct {
		root api.Cap
		text string
		at   api.Slot
		x    api.Cap
		want api.Errno
	}{
		{nd(1, 0, 0), "00 000 00000000000", sl(2, 0), frame, api.OK}, // bits are left
		{nd(1, 0, 0), "00 000 11111111111", sl(2, 0), frame, api.OK},
		{nd(1, 0, 11), "00000000000 00 000", sl(2, 0), frame, api.OK},      // none are
		{nd(1, 0, 10), "0000000000 00 000 1", sl(2, 0), frame, api.OK},     // one is
		{nd(1, 0, 14), "00000000000000 10", api.Slot{}, none, api.ErrNone}, // empty
		{nd(1, 0, 13), "0000000000000 10 1", api.Slot{}, none, api.ErrNone},
		{nd(1, 0, 0), "10 11111111111111", api.Slot{}, none, api.ErrNone},
		{nd(1, 0, 0), "00 001 11111111111", api.Slot{}, none, api.ErrNone},
		{nd(1, 0, 14), "00000000000000 01", sl(1, 1), nd(0, 2, 2), api.OK}, // a Node, with none left
		{nd(1, 0, 14), "00000000000000 11", sl(1, 3), nd(63, 0, 3), api.OK},
		{nd(1, 0, 13), "0000000000000 01 1", api.Slot{}, none, api.ErrLookup}, // a Node, with one left
		{nd(1, 0, 11), "00000000000 01 000", api.Slot{}, none, api.ErrLookup}, // another guard
		{nd(1, 0, 11), "00000000000 01 110", api.Slot{}, none, api.ErrLookup},
		{nd(1, 0, 11), "00000000000 01 101", sl(0, 1), nd(63, 127, 7), api.OK}, // a Node, which leads on
		{nd(63, 0, 0), "1000 000000000000", sl(63, 8), thread, api.OK},
		{nd(63, 0, 12), "000000000000 1000", sl(63, 8), thread, api.OK},
		{nd(63, 0, 2), "00 1111 1 1111 1 1111", sl(63, 15), nd(63, 1, 1), api.OK}, // itself, with none left
		{nd(63, 0, 1), "0 1111 1 1111 1 11111", api.Slot{}, none, api.ErrLookup},
		{nd(63, 5, 12), "000000000000 1000", api.Slot{}, none, api.ErrLookup},
		{nd(30, 0, 0), "0000000000000000", api.Slot{}, none, api.ErrLookup},
		{api.Cap{Kind: api.Thread, Object: 1}, "0000000000000000", api.Slot{}, none, api.ErrKind},
		{nd(1, 0, 0), "1 0000000000000000", api.Slot{}, none, api.ErrRange},
		{api.Cap{}, "1 0000000000000000", api.Slot{}, none, api.ErrRange},
	} {
		ptr, _ := parse(t, c.text)
		w.caught(c.root, ptr, c.at, c.x, c.want)
	}
	for _, ptr := range noAddresses(16) {
		w.caught(nd(1, 0, 0), ptr, api.Slot{}, none, api.ErrRange)
	}
	w.same()
}

// Each kind, with all its fields, in the first slot and in the last one.
func TestCapOfEachKind(t *testing.T) {
	for radix := 1; radix <= 4; radix++ {
		last := 1<<radix - 1
		for _, c := range append(others(), nd(50, 1<<16-1, 16)) {
			w := newWorld(t, map[int]int{1: 1, 6: radix}, map[api.Slot]api.Cap{sl(6, 0): c, sl(6, last): c})
			w.caught(nd(6, 0, 16-radix), 0, sl(6, 0), c, api.OK)
			w.caught(nd(6, 0, 16-radix), uint64(last), sl(6, last), c, api.OK)
			if c.Kind != api.Node {
				w.caught(nd(6, 0, 0), 0, sl(6, 0), c, api.OK)
				w.caught(nd(6, 0, 0), 1<<16-1, sl(6, last), c, api.OK)
			}
			w.same()
		}
	}
}

// 8.3

// An answer hangs on the store as it is now, and on no other one.
func TestAsTheStoreIsNow(t *testing.T) {
	before := map[api.Slot]api.Cap{sl(1, 0): nd(2, 0, 0)}
	w := newWorld(t, map[int]int{1: 2, 2: 1}, before)
	other := newWorld(t, map[int]int{1: 4}, nil)
	for range 3 {
		w.leads(nd(1, 0, 0), 0b0010, 4, sl(2, 1), 1)
		other.leads(nd(1, 0, 0), 0b0010, 4, sl(1, 2), 0)
	}
	if _, e := w.s.Take(sl(1, 0)); e != api.OK {
		t.Fatal(e)
	}
	delete(w.caps, sl(1, 0))
	w.leads(nd(1, 0, 0), 0b0010, 4, sl(1, 0), 2)
	w.caught(nd(1, 0, 0), 0, api.Slot{}, api.Cap{}, api.ErrNone)
	if e := w.s.Drop(2); e != api.OK {
		t.Fatal(e)
	}
	delete(w.radix, 2)
	w.fails(nd(2, 0, 0), 0, 1, api.ErrLookup)
	if a, b := w.s.Add(2, 3), w.s.Put(sl(1, 0), nd(2, 1, 1)); a != api.OK || b != api.OK {
		t.Fatal(a, b)
	}
	w.radix[2], w.caps[sl(1, 0)] = 3, nd(2, 1, 1)
	w.fails(nd(1, 0, 0), 0b0010, 4, api.ErrLookup)
	w.leads(nd(1, 0, 0), 0b001110, 6, sl(2, 6), 0)
	w.same()
	other.same()
}

// binary is a number in so many digits; none, if it has no room there.
func binary(v uint64, digits int) (string, bool) {
	text := ""
	for ; v != 0; v /= 2 {
		text = strconv.Itoa(int(v%2)) + text
	}
	if len(text) > digits {
		return "", false
	}
	return strings.Repeat("0", digits-len(text)) + text, true
}

// model says the chapter once more, of what was laid into the store, with an
// address as digits of which the front ones are cut off.
func (w world) model(c api.Cap, digits string) (at api.Slot, left int, ok bool) {
	radix := w.radix[c.Object]
	guard, fits := binary(c.Guard, c.Bits)
	rest, agrees := strings.CutPrefix(digits, guard)
	if radix == 0 || !fits || !agrees || len(rest) < radix {
		return api.Slot{}, 0, false
	}
	number, _ := strconv.ParseUint(rest[:radix], 2, 64)
	at, rest = sl(c.Object, int(number)), rest[radix:]
	if inside := w.caps[at]; rest != "" && inside.Kind == api.Node {
		return w.model(inside, rest)
	}
	return at, len(rest), true
}

func (w world) against(root api.Cap, ptr uint64, depth int) bool {
	w.Helper()
	digits, _ := binary(ptr, depth)
	at, left, ok := w.model(root, digits)
	if ok {
		w.leads(root, ptr, depth, at, left)
	} else {
		w.fails(root, ptr, depth, api.ErrLookup)
	}
	return ok
}

// All addresses of all depths, in a world where nodes lead to one another.
func TestAllAddresses(t *testing.T) {
	w := levels(t)
	for _, root := range []api.Cap{nd(1, 0, 0), nd(3, 0, 0), nd(63, 1, 1), nd(2, 2, 2)} {
		for depth := 1; depth <= 16; depth++ {
			for ptr := range uint64(1) << depth {
				w.against(root, ptr, depth)
			}
			if t.Failed() { // one fault would be told of thousands of addresses
				return
			}
		}
	}
	w.same()
}

// draws hands out numbers below n that look like chance, and are always the same.
func draws(seed uint64) func(n int) int {
	return func(n int) int {
		seed = seed*6364136223846793005 + 1442695040888963407
		return int(seed >> 33 % uint64(n))
	}
}

// drawNode draws few bits for a guard, so that many addresses lead somewhere.
func drawNode(draw func(int) int) api.Cap {
	bits := []int{0, 0, 0, 1, 1, 2, 3, 5}[draw(8)]
	return nd(draw(9), uint64(draw(1<<bits)), bits)
}

func drawWorld(t *testing.T, draw func(int) int) world {
	radix, caps := map[int]int{}, map[api.Slot]api.Cap{}
	for id := range 8 { // node 8 is none
		radix[id] = 1 + draw(4)
		for i := range 1 << radix[id] {
			switch draw(6) {
			case 0:
			case 1:
				caps[sl(id, i)] = others()[draw(10)]
			default:
				caps[sl(id, i)] = drawNode(draw)
			}
		}
	}
	return newWorld(t, radix, caps)
}

func TestDrawnWorlds(t *testing.T) {
	found, refused := 0, 0
	for seed := range uint64(150) {
		draw := draws(seed + 1)
		w := drawWorld(t, draw)
		for range 300 {
			depth := 1 + draw(16)
			if w.against(drawNode(draw), uint64(draw(1<<depth)), depth) {
				found++
			} else {
				refused++
			}
			if w.against(drawNode(draw), uint64(draw(1<<16)), 16) {
				found++
			} else {
				refused++
			}
		}
		w.same()
	}
	if found < 10000 || refused < 10000 {
		t.Errorf("%d found, %d refused: too few of one of them", found, refused)
	}
}
