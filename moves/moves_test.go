package moves

import (
	"math"
	"slices"
	"testing"

	"donjon/api"
	"donjon/cap"
	"donjon/slots"
)

// The chapter's example.
func TestExample(t *testing.T) {
	n := New()
	a, b, c, d := api.Slot{Node: 4, At: 0}, api.Slot{Node: 4, At: 1}, api.Slot{Node: 4, At: 2}, api.Slot{Node: 4, At: 3}
	for i, e := range []api.Errno{
		n.Node(4, 2),
		n.Plant(a, api.Cap{Kind: api.Endpoint, Object: 3, Rights: 3}),
		n.Mint(a, b, 1, 7, 0, 0),
		n.Copy(b, c, 7),
	} {
		if e != api.OK {
			t.Errorf("call %d: %v", i, e)
		}
	}
	if l := n.Kin(a); !slices.Equal(l, []api.Slot{b, c}) {
		t.Errorf("Kin(a): %v", l)
	}
	if e := n.Move(a, d); e != api.OK {
		t.Errorf("Move: %v", e)
	}
	if l := n.Kin(d); !slices.Equal(l, []api.Slot{b, c}) {
		t.Errorf("Kin(d): %v", l)
	}
	wantCap(t, n, b, api.Cap{Kind: api.Endpoint, Object: 3, Rights: 1, Badge: 7}, "Mint")
	wantCap(t, n, c, api.Cap{Kind: api.Endpoint, Object: 3, Rights: 1, Badge: 7}, "Copy")
	if l := n.Children(b); !slices.Equal(l, []api.Slot{c}) {
		t.Errorf("Children(b): %v", l)
	}
}

// 10.1

// Where no nodes are nothing is there, and each call says so.
func TestNew(t *testing.T) {
	c := New()
	x := own('a')
	for _, a := range append(absent(), places...) {
		if y, e := c.Get(a); y != (api.Cap{}) || e != api.ErrLookup {
			t.Errorf("Get(%v): %+v, %v", a, y, e)
		}
		refuses(t, c, plant(a, x), api.ErrLookup)
		refuses(t, c, take(a), api.ErrLookup)
		refuses(t, c, clearNode(a.Node), api.ErrNone)
		for _, b := range places {
			for _, k := range []call{child(a, b, x), copyOf(a, b, 7), mint(a, b, 7, 0, 0, 0), move(a, b), mutate(a, b, 0, 0)} {
				refuses(t, c, k, api.ErrLookup)
			}
			if a != b {
				refuses(t, c, rotate(a, b, a), api.ErrLookup)
			}
		}
		if l := c.Children(a); len(l) != 0 {
			t.Errorf("Children(%v): %v", a, l)
		}
		if l := c.Kin(a); len(l) != 0 {
			t.Errorf("Kin(%v): %v", a, l)
		}
		if p, ok := c.Parent(a); p != (api.Slot{}) || ok {
			t.Errorf("Parent(%v): %v, %t", a, p, ok)
		}
	}
	for id := range 64 {
		if r := c.Radix(id); r != 0 {
			t.Errorf("Radix(%d): %d", id, r)
		}
		for kind := range 12 {
			if n := c.Count(kind, id); n != 0 {
				t.Errorf("Count(%d, %d): %d", kind, id, n)
			}
		}
	}
	if l := c.Full(); len(l) != 0 {
		t.Errorf("Full: %v", l)
	}
}

// Nothing is shared by two.
func TestApart(t *testing.T) {
	c, d := grown(t, "a(bc)"), New()
	if l := d.Full(); len(l) != 0 || d.Radix(0) != 0 || len(d.Kin(at('a'))) != 0 {
		t.Errorf("a new one beside another one has %v", l)
	}
	must(t, d, node(0, 2), plant(at('b'), own('b')), copyOf(at('b'), at('a'), 7))
	wantText(t, c, "a(bc)", "another one was changed")
	must(t, c, take(at('b')), move(at('a'), at('d')))
	wantText(t, c, "dA(c)", "Take and Move")
	if l := d.Kin(at('b')); !slices.Equal(l, []api.Slot{at('a')}) {
		t.Errorf("another one's were taken and moved: Kin: %v", l)
	}
	wantCap(t, d, at('b'), own('b'), "another one's were taken and moved")
}

// Node, Clear and Get are slots' Add, Drop and Get: all answers are those of a
// store to which the same is done.
func TestNodesAreSlots(t *testing.T) {
	numbers := []int{math.MinInt, -1 << 32, -1, 0, 1, 2, 3, 4, 5, 16, 62, 63, 64, 65, 1 << 32, 1<<32 + 1, math.MaxInt}
	c, s := New(), slots.New()
	check := func(name string, a, b int, got, want api.Errno) {
		t.Helper()
		if got != want {
			t.Errorf("%s(%d, %d): %v, not %v", name, a, b, got, want)
		}
	}
	for turn, radix := range []int{0, 5, 1, 2, 3, 4, -1, math.MaxInt, 1<<32 + 1} {
		for _, id := range numbers {
			check("Node", id, radix, c.Node(id, radix), s.Add(id, radix))
			check("Node again", id, 4, c.Node(id, 4), s.Add(id, 4))
			if r, want := c.Radix(id), s.Radix(id); r != want {
				t.Errorf("Radix(%d): %d, not %d", id, r, want)
			}
			for _, i := range numbers {
				at := api.Slot{Node: id, At: i}
				if i%2 == turn%2 {
					x := kinds()[turn]
					check("Plant", id, i, c.Plant(at, x), s.Put(at, x))
				}
				x, e := c.Get(at)
				if want, wantE := s.Get(at); x != want || e != wantE {
					t.Errorf("Get(%v): %+v, %v; not %+v, %v", at, x, e, want, wantE)
				}
			}
			check("Clear", id, 0, c.Clear(id), s.Drop(id))
			for _, i := range numbers {
				at := api.Slot{Node: id, At: i}
				x, e := c.Take(at)
				if want, wantE := s.Take(at); x != want || e != wantE {
					t.Errorf("Take(%v): %+v, %v; not %+v, %v", at, x, e, want, wantE)
				}
			}
			if turn%3 != 0 {
				check("Clear", id, 1, c.Clear(id), s.Drop(id))
			}
			check("Clear again", id, 1, c.Clear(id), s.Drop(id))
		}
	}
}

func TestNodeRefused(t *testing.T) {
	c := grown(t, "a(b(c)d)g")
	for id, radix := range radixes() {
		for r := 1; r <= 4; r++ {
			refuses(t, c, node(id, r), api.ErrTwice)
		}
		refuses(t, c, node(id, 0), api.ErrRange)
		refuses(t, c, node(id, 5), api.ErrRange)
		refuses(t, c, node(id-64, radix), api.ErrRange)
		refuses(t, c, node(id+64, radix), api.ErrRange)
	}
}

// A node that is not empty stays; one that is goes, and what was taken out of
// it leaves nothing behind.
func TestClear(t *testing.T) {
	c := grown(t, "a(c(f)d)")
	for _, id := range []int{0, 1, 2} {
		refuses(t, c, clearNode(id), api.ErrState)
	}
	for _, id := range []int{3, 62, 64, -1, math.MinInt, math.MaxInt} {
		refuses(t, c, clearNode(id), api.ErrNone)
	}
	must(t, c, take(at('c')))
	refuses(t, c, clearNode(1), api.ErrState)
	must(t, c, move(at('d'), at('b')), clearNode(1))
	refuses(t, c, clearNode(1), api.ErrNone)
	wantCap(t, c, at('b'), own('d'), "Clear")
	if r := c.Radix(1); r != 0 {
		t.Errorf("Radix of what was cleared: %d", r)
	}
	if x, e := c.Get(at('c')); x != (api.Cap{}) || e != api.ErrLookup {
		t.Errorf("Get of what was cleared: %+v, %v", x, e)
	}
	if l := letters(c.Kin(at('a'))); l != "fb" {
		t.Errorf("Kin(a): %s", l)
	}
	must(t, c, node(1, 2))
	wantText(t, c, "a(fbD)", "a node again")
	must(t, c, child(at('f'), at('c'), own('c')))
	wantText(t, c, "a(f(c)bD)", "a slot again")
}

// What came of what was in a node that is cleared stays.
func TestClearOfParents(t *testing.T) {
	c := grown(t, "a(cd)b(e)")
	must(t, c, take(at('a')), take(at('b')), clearNode(0))
	for _, letter := range []byte("cde") {
		if p, ok := c.Parent(at(letter)); p != (api.Slot{}) || ok {
			t.Errorf("Parent(%c): %v, %t", letter, p, ok)
		}
	}
	must(t, c, node(0, 4))
	wantText(t, c, "cde", "a node again")
	must(t, c, plant(at('a'), own('a')), copyOf(at('c'), at('b'), 7))
	wantText(t, c, "ac(bC)de", "slots again")
}

// Each kind may be planted, at each place, and comes of none.
func TestPlant(t *testing.T) {
	for _, x := range kinds() {
		c := bare(t)
		for i, s := range places {
			must(t, c, plant(s, x))
			wantCap(t, c, s, x, "Plant")
			if p, ok := c.Parent(s); p != (api.Slot{}) || ok {
				t.Errorf("Plant: Parent(%v): %v, %t", s, p, ok)
			}
			if l := c.Kin(s); len(l) != 0 {
				t.Errorf("Plant: Kin(%v): %v", s, l)
			}
			if n := c.Count(x.Kind, x.Object); n != i+1 || len(c.Full()) != i+1 {
				t.Errorf("Plant: Count %d, Full %v", n, c.Full())
			}
		}
		inStep(t, c, "Plant")
	}
}

func TestPlantBesideOthers(t *testing.T) {
	c := grown(t, "a(bc(d))")
	must(t, c, take(at('b')), plant(at('b'), own('b')), plant(at('e'), own('a')))
	wantText(t, c, "a(c(d))beA", "Plant")
}

// The errors of slots' Put, in Put's order: what is wrong with the capability
// comes ahead of what is in the slot.
func TestPlantRefused(t *testing.T) {
	c := grown(t, "a(b(c)d)g")
	for x, wrong := range wrongCaps() {
		for _, s := range absent() {
			refuses(t, c, plant(s, x), api.ErrLookup)
		}
		for _, s := range []api.Slot{at('a'), at('c'), at('e'), at('g'), at('h')} {
			refuses(t, c, plant(s, x), wrong)
		}
	}
	for _, x := range kinds() {
		for _, s := range absent() {
			refuses(t, c, plant(s, x), api.ErrLookup)
		}
		for _, letter := range []byte("abcdg") {
			refuses(t, c, plant(at(letter), x), api.ErrTwice)
		}
	}
}

func TestChild(t *testing.T) {
	for _, c := range []struct {
		before string
		of, at byte
		after  string
	}{
		{"a", 'a', 'b', "a(b)"},
		{"b", 'b', 'a', "b(a)"},
		{"a(b)", 'a', 'c', "a(bc)"},
		{"a(c)", 'a', 'b', "a(cb)"},
		{"a(b)", 'b', 'c', "a(b(c))"},
		{"a(b(c))", 'a', 'd', "a(b(c)d)"},
		{"a(b(c)d)", 'b', 'e', "a(b(ce)d)"},
		{"a(b(c)d)", 'c', 'e', "a(b(c(e))d)"},
		{"a(b(c)d)", 'a', 'e', "a(b(c)de)"},
		{"ab", 'b', 'c', "ab(c)"},
		{"a(c)b", 'b', 'd', "a(c)b(d)"},
		{"g", 'g', 'h', "g(h)"},
		{"c", 'c', 'b', "c(b)"},
		{"d", 'd', 'a', "d(a)"},
		{"g(hij)", 'g', 'f', "g(hijf)"},
	} {
		n := grown(t, c.before)
		must(t, n, child(at(c.of), at(c.at), own(c.at)))
		wantText(t, n, c.after, c.before+": Child")
	}
}

// Whatever is right may be laid in as a child of whatever is there: what is
// derived is Mint's and Copy's alone.
func TestChildOfEachKind(t *testing.T) {
	for _, x := range kinds() {
		for _, y := range kinds() {
			c := bare(t)
			must(t, c, plant(at('a'), x), child(at('a'), at('b'), y), child(at('b'), at('c'), x))
			wantCap(t, c, at('a'), x, "Child")
			wantCap(t, c, at('b'), y, "Child")
			wantCap(t, c, at('c'), x, "Child")
			if l := letters(c.Kin(at('a'))); l != "bc" {
				t.Errorf("Kin: %s", l)
			}
			inStep(t, c, "Child")
		}
	}
}

// ends are the slots that are no source and place of one another, and the
// first error: in a(b)g, c, d and h being empty.
type ends struct {
	src, dst api.Slot
	want     api.Errno
}

func wrongEnds(away ...api.Slot) []ends {
	var l []ends
	a, b, c, d, g, h := at('a'), at('b'), at('c'), at('d'), at('g'), at('h')
	for _, s := range away {
		l = append(l,
			ends{s, s, api.ErrLookup}, ends{s, api.Slot{Node: 4}, api.ErrLookup}, // neither is there
			ends{s, a, api.ErrLookup}, ends{s, g, api.ErrLookup}, ends{s, c, api.ErrLookup}, ends{s, h, api.ErrLookup},
			ends{c, s, api.ErrNone}, ends{h, s, api.ErrNone},
			ends{a, s, api.ErrLookup}, ends{b, s, api.ErrLookup}, ends{g, s, api.ErrLookup},
		)
	}
	return append(l,
		ends{c, c, api.ErrNone}, ends{c, d, api.ErrNone}, ends{d, c, api.ErrNone}, ends{c, a, api.ErrNone}, ends{h, g, api.ErrNone},
		ends{a, a, api.ErrTwice}, ends{b, b, api.ErrTwice}, ends{g, g, api.ErrTwice},
		ends{a, b, api.ErrTwice}, ends{b, a, api.ErrTwice}, ends{a, g, api.ErrTwice}, ends{g, b, api.ErrTwice},
	)
}

// All calls that have a source and a place ask them ahead of all else, the
// source first, whatever is there, and whatever else is right or wrong.
func TestEndsComeFirst(t *testing.T) {
	away := absent()
	for i, x := range kinds() {
		c := bare(t)
		must(t, c, plant(at('a'), x), child(at('a'), at('b'), x), plant(at('g'), own('g')))
		for _, w := range wrongEnds(away[i], away[len(away)-1-i]) {
			for _, k := range []call{
				child(w.src, w.dst, x),
				child(w.src, w.dst, api.Cap{}),
				child(w.src, w.dst, api.Cap{Kind: 12}),
				child(w.src, w.dst, api.Cap{Kind: api.Thread, Object: 64}),
				copyOf(w.src, w.dst, 7),
				copyOf(w.src, w.dst, 8),
				mint(w.src, w.dst, 7, 0, 0, 0),
				mint(w.src, w.dst, -1, 0, 0, 0),
				mint(w.src, w.dst, 7, 9, 0, 0),
				mint(w.src, w.dst, 7, 1<<28, 2, 1),
				move(w.src, w.dst),
				mutate(w.src, w.dst, 0, 0),
				mutate(w.src, w.dst, 0, 17),
				mutate(w.src, w.dst, 2, 1),
			} {
				refuses(t, c, k, w.want)
			}
		}
	}
}

// With a source and a place: slots' Put's errors.
func TestChildRefused(t *testing.T) {
	c := grown(t, "a(b(c)d)g")
	for x, wrong := range wrongCaps() {
		for _, of := range []byte("abcdg") {
			for _, to := range []byte("efh") {
				refuses(t, c, child(at(of), at(to), x), wrong)
			}
		}
	}
}

// 10.2

func TestCopy(t *testing.T) {
	for _, c := range []struct {
		x      api.Cap
		rights int
		want   api.Cap
	}{
		// All rights, fewer, none, and more than there are.
		{api.Cap{Kind: api.Endpoint, Object: 3, Rights: 7}, 7, api.Cap{Kind: api.Endpoint, Object: 3, Rights: 7}},
		{api.Cap{Kind: api.Endpoint, Object: 3, Rights: 7}, 3, api.Cap{Kind: api.Endpoint, Object: 3, Rights: 3}},
		{api.Cap{Kind: api.Endpoint, Object: 3, Rights: 7}, 4, api.Cap{Kind: api.Endpoint, Object: 3, Rights: 4}},
		{api.Cap{Kind: api.Endpoint, Object: 3, Rights: 7}, 0, api.Cap{Kind: api.Endpoint, Object: 3}},
		{api.Cap{Kind: api.Endpoint, Object: 3, Rights: 1}, 7, api.Cap{Kind: api.Endpoint, Object: 3, Rights: 1}},
		{api.Cap{Kind: api.Endpoint, Object: 3, Rights: 1}, 6, api.Cap{Kind: api.Endpoint, Object: 3}},
		{api.Cap{Kind: api.Endpoint, Object: 3}, 7, api.Cap{Kind: api.Endpoint, Object: 3}},
		{api.Cap{Kind: api.Notice, Object: 0, Rights: 6}, 3, api.Cap{Kind: api.Notice, Object: 0, Rights: 2}},
		{api.Cap{Kind: api.Frame, Object: 63, Rights: 3}, 7, api.Cap{Kind: api.Frame, Object: 63, Rights: 3}},
		{api.Cap{Kind: api.Frame, Object: 63, Rights: 3}, 5, api.Cap{Kind: api.Frame, Object: 63, Rights: 1}},
		// A badge stays.
		{api.Cap{Kind: api.Endpoint, Object: 3, Rights: 5, Badge: 9}, 7, api.Cap{Kind: api.Endpoint, Object: 3, Rights: 5, Badge: 9}},
		{api.Cap{Kind: api.Endpoint, Object: 3, Rights: 5, Badge: 9}, 2, api.Cap{Kind: api.Endpoint, Object: 3, Badge: 9}},
		{api.Cap{Kind: api.Notice, Object: 3, Rights: 3, Badge: 1<<28 - 1}, 1, api.Cap{Kind: api.Notice, Object: 3, Rights: 1, Badge: 1<<28 - 1}},
		// A guard stays.
		{api.Cap{Kind: api.Node, Object: 9}, 7, api.Cap{Kind: api.Node, Object: 9}},
		{api.Cap{Kind: api.Node, Object: 9, Guard: 5, Bits: 3}, 0, api.Cap{Kind: api.Node, Object: 9, Guard: 5, Bits: 3}},
		{api.Cap{Kind: api.Node, Object: 9, Bits: 16}, 1, api.Cap{Kind: api.Node, Object: 9, Bits: 16}},
		{api.Cap{Kind: api.Node, Object: 9, Guard: 1<<16 - 1, Bits: 16}, 7, api.Cap{Kind: api.Node, Object: 9, Guard: 1<<16 - 1, Bits: 16}},
		// Nothing more is there.
		{api.Cap{Kind: api.Thread, Object: 1}, 7, api.Cap{Kind: api.Thread, Object: 1}},
		{api.Cap{Kind: api.Table, Object: 3}, 0, api.Cap{Kind: api.Table, Object: 3}},
		{api.Cap{Kind: api.Space, Object: 2}, 5, api.Cap{Kind: api.Space, Object: 2}},
		{api.Cap{Kind: api.Irq, Object: 7}, 1, api.Cap{Kind: api.Irq, Object: 7}},
	} {
		n := bare(t)
		k := copyOf(at('b'), at('e'), c.rights)
		must(t, n, plant(at('b'), c.x), child(at('b'), at('c'), c.x), k)
		wantCap(t, n, at('b'), c.x, k.name)
		wantCap(t, n, at('e'), c.want, k.name)
		if l := letters(n.Children(at('b'))); l != "ce" {
			t.Errorf("%s: Children: %s", k.name, l)
		}
		if !cap.Weaker(c.want, c.x) {
			t.Errorf("%s: %+v is not weaker", k.name, c.want)
		}
		inStep(t, n, k.name)
	}
}

// Copies of copies come of those of which they are made.
func TestCopyOfCopies(t *testing.T) {
	c := grown(t, "a")
	must(t, c, copyOf(at('a'), at('b'), 7), copyOf(at('b'), at('c'), 7), copyOf(at('a'), at('d'), 7), copyOf(at('b'), at('e'), 7), copyOf(at('c'), at('f'), 7))
	wantText(t, c, "a(bA(cA(fA)eA)dA)", "Copy")
	if n := c.Count(api.Endpoint, 0); n != 6 {
		t.Errorf("Count: %d", n)
	}
	must(t, c, mint(at('f'), at('g'), 3, 0, 0, 0), copyOf(at('g'), at('h'), 6), copyOf(at('h'), at('i'), 5))
	for letter, rights := range map[byte]int{'f': 7, 'g': 3, 'h': 2, 'i': 0} {
		wantCap(t, c, at(letter), api.Cap{Kind: api.Endpoint, Rights: rights}, "Copy, fewer and fewer")
	}
}

// noRights are numbers that are no rights: about the bounds, and far out.
func noRights() []int { return []int{-1, 8, 9, 15, -8, 1 << 32, 1<<32 + 1, math.MinInt, math.MaxInt} }

func TestCopyRefused(t *testing.T) {
	for _, x := range kinds() {
		c := bare(t)
		must(t, c, plant(at('a'), x), child(at('a'), at('b'), x), child(at('b'), at('c'), x))
		want := api.ErrRights
		switch x.Kind {
		case api.Untyped, api.Control, api.Reply:
			want = api.ErrKind
			refuses(t, c, copyOf(at('b'), at('d'), 7), want)
			refuses(t, c, copyOf(at('b'), at('d'), 0), want)
			refuses(t, c, mint(at('b'), at('d'), 7, 0, 0, 0), want)
			refuses(t, c, mint(at('b'), at('d'), 7, 1<<28, 1, 0), want)
		}
		for _, rights := range noRights() {
			refuses(t, c, copyOf(at('b'), at('d'), rights), want)
			refuses(t, c, mint(at('b'), at('d'), rights, 0, 0, 0), want)
			refuses(t, c, mint(at('b'), at('d'), rights, 1<<28, 1, 0), want)
		}
	}
}

// mintCase is what Mint makes of a capability; beside an error, nothing.
type mintCase struct {
	x            api.Cap
	rights       int
	badge, guard uint64
	bits         int
	want         api.Cap
	e            api.Errno
}

func mintCases() []mintCase {
	endpoint := func(rights int, badge uint64) api.Cap {
		return api.Cap{Kind: api.Endpoint, Object: 3, Rights: rights, Badge: badge}
	}
	notice := func(rights int, badge uint64) api.Cap {
		return api.Cap{Kind: api.Notice, Object: 63, Rights: rights, Badge: badge}
	}
	nodeCap := func(guard uint64, bits int) api.Cap {
		return api.Cap{Kind: api.Node, Object: 9, Guard: guard, Bits: bits}
	}
	frame, thread, irq := api.Cap{Kind: api.Frame, Object: 5, Rights: 3}, api.Cap{Kind: api.Thread, Object: 1}, api.Cap{Kind: api.Irq, Object: 7}
	const most = math.MaxUint64
	return []mintCase{
		{endpoint(7, 0), 1, 7, 0, 0, endpoint(1, 7), api.OK},
		{endpoint(7, 0), 7, 0, 0, 0, endpoint(7, 0), api.OK},
		{endpoint(3, 0), 6, 1<<28 - 1, 0, 0, endpoint(2, 1<<28-1), api.OK},
		{endpoint(3, 0), 0, 1, most, -7, endpoint(0, 1), api.OK}, // a guard is not its own
		{endpoint(3, 0), 7, 1 << 28, 0, 0, api.Cap{}, api.ErrField},
		{endpoint(3, 0), 7, most, 0, 0, api.Cap{}, api.ErrField},
		{endpoint(3, 7), 7, 0, 0, 0, endpoint(3, 7), api.OK},
		{endpoint(3, 7), 1, 0, 9, 99, endpoint(1, 7), api.OK},
		{endpoint(3, 7), 7, 9, 0, 0, api.Cap{}, api.ErrState},
		{endpoint(3, 7), 7, 7, 0, 0, api.Cap{}, api.ErrState},
		{endpoint(3, 7), 7, 1 << 28, 0, 0, api.Cap{}, api.ErrState},
		{endpoint(3, 7), 8, 9, 0, 0, api.Cap{}, api.ErrRights},
		{notice(7, 0), 5, 12, 0, 0, notice(5, 12), api.OK},
		{notice(2, 12), 5, 0, 0, 0, notice(0, 12), api.OK},
		{notice(2, 12), 5, 12, 0, 0, api.Cap{}, api.ErrState},
		{notice(2, 0), 5, 1 << 63, 0, 0, api.Cap{}, api.ErrField},
		{nodeCap(0, 0), 7, 0, 5, 3, nodeCap(5, 3), api.OK},
		{nodeCap(5, 3), 0, most, 0, 0, nodeCap(0, 0), api.OK}, // a badge is not its own
		{nodeCap(5, 3), 7, 0, 1<<16 - 1, 16, nodeCap(1<<16-1, 16), api.OK},
		{nodeCap(5, 3), 7, 0, 0, 16, nodeCap(0, 16), api.OK},
		{nodeCap(5, 3), 7, 0, 1 << 16, 16, api.Cap{}, api.ErrField},
		{nodeCap(5, 3), 7, 0, 8, 3, api.Cap{}, api.ErrField},
		{nodeCap(5, 3), 7, 0, 1, 0, api.Cap{}, api.ErrField},
		{nodeCap(5, 3), 7, 0, 0, 17, api.Cap{}, api.ErrField},
		{nodeCap(5, 3), 7, 0, 0, -1, api.Cap{}, api.ErrField},
		{nodeCap(5, 3), 7, 0, 0, math.MinInt, api.Cap{}, api.ErrField},
		{nodeCap(5, 3), 7, 0, 0, math.MaxInt, api.Cap{}, api.ErrField},
		{nodeCap(5, 3), -1, 0, 0, 17, api.Cap{}, api.ErrRights},
		{frame, 2, 7, 5, 3, api.Cap{Kind: api.Frame, Object: 5, Rights: 2}, api.OK},
		{frame, 4, most, most, -1, api.Cap{Kind: api.Frame, Object: 5}, api.OK},
		{thread, 7, 7, 5, 3, thread, api.OK},
		{irq, 0, most, most, 99, irq, api.OK},
	}
}

func TestMint(t *testing.T) {
	for _, c := range mintCases() {
		n := bare(t)
		k := mint(at('b'), at('e'), c.rights, c.badge, c.guard, c.bits)
		must(t, n, plant(at('a'), c.x), child(at('a'), at('b'), c.x), child(at('b'), at('c'), c.x))
		if c.e != api.OK {
			refuses(t, n, k, c.e)
			continue
		}
		must(t, n, k)
		wantCap(t, n, at('b'), c.x, k.name)
		wantCap(t, n, at('e'), c.want, k.name)
		if l := letters(n.Children(at('b'))); l != "ce" {
			t.Errorf("%s: Children: %s", k.name, l)
		}
		if l := letters(n.Kin(at('a'))); l != "bce" {
			t.Errorf("%s: Kin: %s", k.name, l)
		}
		if p, ok := n.Parent(at('e')); p != at('b') || !ok {
			t.Errorf("%s: Parent: %v, %t", k.name, p, ok)
		}
		if !cap.Weaker(c.want, c.x) {
			t.Errorf("%s: %+v is not weaker", k.name, c.want)
		}
		inStep(t, n, k.name)
	}
}

// moveCase is where a slot moves from, and where to.
type moveCase struct {
	before   string
	src, dst byte
	after    string
}

func moveCases() []moveCase {
	return []moveCase{
		{"a", 'a', 'b', "bA"},
		{"b", 'b', 'a', "aB"},
		{"ac", 'a', 'b', "bAc"},
		{"a(b)", 'a', 'c', "cA(b)"},
		{"a(bcd)", 'a', 'e', "eA(bcd)"},
		{"a(b(cd)e)f", 'a', 'g', "fgA(b(cd)e)"},
		{"a(b)", 'b', 'c', "a(cB)"},
		{"a(b(c))", 'b', 'd', "a(dB(c))"},
		{"a(bcd)", 'b', 'e', "a(eBcd)"},
		{"a(bcd)", 'c', 'e', "a(beCd)"},
		{"a(bcd)", 'd', 'e', "a(bceD)"},
		{"a(b(fgh)cd)", 'b', 'e', "a(eB(fgh)cd)"},
		{"a(bc(hgf)d)", 'c', 'e', "a(beC(hgf)d)"},
		{"a(bcd(f))", 'd', 'e', "a(bceD(f))"},
		{"a(b(c(d(e))))", 'c', 'f', "a(b(fC(d(e))))"},
		{"b(d)", 'b', 'c', "cB(d)"}, // 0, 1 and 1, 0
		{"h(i)", 'h', 'g', "gH(i)"}, // 15, 15 and 63, 15
		{"i(h)", 'i', 'j', "jI(h)"}, // 63, 0 and 15, 0
	}
}

func TestMove(t *testing.T) {
	for _, c := range moveCases() {
		n := grown(t, c.before)
		must(t, n, move(at(c.src), at(c.dst)))
		wantText(t, n, c.after, c.before+": Move")
		refuses(t, n, move(at(c.src), at(c.dst)), api.ErrNone)
		must(t, n, move(at(c.dst), at(c.src)))
		wantText(t, n, shown(grown(t, c.before)), c.before+": Move, and back")
	}
}

// Each kind is moved as it is, also those of which nothing may be derived.
func TestMoveEachKind(t *testing.T) {
	for _, x := range kinds() {
		c := bare(t)
		must(t, c, plant(at('a'), x), child(at('a'), at('b'), x), move(at('a'), at('g')), move(at('b'), at('a')))
		wantCap(t, c, at('g'), x, "Move")
		wantCap(t, c, at('a'), x, "Move")
		wantCap(t, c, at('b'), api.Cap{}, "Move")
		if l := letters(c.Kin(at('g'))); l != "a" || len(c.Kin(at('a'))) != 0 {
			t.Errorf("Move: Kin: %s", l)
		}
		if n := c.Count(x.Kind, x.Object); n != 2 {
			t.Errorf("Move: Count: %d", n)
		}
		inStep(t, c, "Move")
	}
}

// guards are guards of so many bits at their edges; beyond are such as are not below 2^bits.
func guards(bits int) (within, beyond []uint64) {
	all := uint64(1)<<bits - 1
	within = []uint64{0, all, all / 2, all & 1}
	return within, []uint64{all + 1, all + 2, 2*all + 2, 1 << 16, 1 << 32, 1 << 63, math.MaxUint64}
}

func TestMutate(t *testing.T) {
	old := []api.Cap{
		{Kind: api.Node, Object: 0},
		{Kind: api.Node, Object: 63, Guard: 5, Bits: 3},
		{Kind: api.Node, Object: 9, Guard: 1<<16 - 1, Bits: 16},
	}
	for _, x := range old {
		for bits := 0; bits <= 16; bits++ {
			c := bare(t)
			must(t, c, plant(at('a'), own('a')), child(at('a'), at('b'), x), child(at('a'), at('c'), own('c')), child(at('b'), at('d'), own('d')))
			within, beyond := guards(bits)
			for _, g := range beyond {
				refuses(t, c, mutate(at('b'), at('e'), g, bits), api.ErrField)
			}
			for _, g := range within {
				must(t, c, mutate(at('b'), at('e'), g, bits))
				wantCap(t, c, at('e'), api.Cap{Kind: api.Node, Object: x.Object, Guard: g, Bits: bits}, "Mutate")
				wantText(t, c, "a(e!(d)c)", "Mutate")
				must(t, c, mutate(at('e'), at('b'), x.Guard, x.Bits))
				wantCap(t, c, at('b'), x, "Mutate, and back")
				wantText(t, c, "a(b!(d)c)", "Mutate, and back")
			}
		}
	}
}

// In the tree it is as Move, whatever has its place there.
func TestMutateAsMove(t *testing.T) {
	for _, k := range moveCases() {
		// The text's capabilities are all Nodes now, of the same objects.
		nodes := func(text string) *Caps {
			c := grown(t, text)
			for _, s := range c.Full() {
				x, _ := c.Get(s)
				c.Store.Take(s)
				c.Put(s, api.Cap{Kind: api.Node, Object: x.Object, Guard: 1, Bits: 2})
			}
			return c
		}
		moved, mutated := nodes(k.before), nodes(k.before)
		must(t, moved, move(at(k.src), at(k.dst)))
		must(t, mutated, mutate(at(k.src), at(k.dst), 1, 2))
		if told(moved) != told(mutated) {
			t.Errorf("%s: Mutate: %s, not %s", k.before, shown(mutated), shown(moved))
		}
	}
}

func TestMutateRefused(t *testing.T) {
	for _, x := range kinds() {
		c := bare(t)
		must(t, c, plant(at('a'), x), child(at('a'), at('b'), x), child(at('b'), at('c'), x))
		if x.Kind != api.Node {
			refuses(t, c, mutate(at('b'), at('d'), 0, 0), api.ErrKind)
			refuses(t, c, mutate(at('b'), at('d'), 5, 3), api.ErrKind)
			refuses(t, c, mutate(at('b'), at('d'), 0, 17), api.ErrKind)
			refuses(t, c, mutate(at('b'), at('d'), 8, 3), api.ErrKind)
			continue
		}
		for _, bits := range []int{-1, -2, -16, 17, 18, 32, 63, 64, 65, 1 << 32, 1<<32 + 3, math.MinInt, math.MaxInt} {
			for _, g := range []uint64{0, 1, 5, 1 << 16, math.MaxUint64} {
				refuses(t, c, mutate(at('b'), at('d'), g, bits), api.ErrField)
			}
		}
	}
}

func TestRotate(t *testing.T) {
	for _, c := range []struct {
		before          string
		dst, pivot, src byte
		after           string
	}{
		// Neither comes of the other.
		{"bc", 'e', 'b', 'c', "bCeB"},
		{"a(bc)", 'e', 'b', 'c', "a(eBbC)"},
		{"a(cb)", 'e', 'b', 'c', "a(bCeB)"},
		{"a(bcd)", 'e', 'b', 'd', "a(eBcbD)"},
		{"a(bcd)", 'e', 'd', 'b', "a(dBceD)"},
		{"a(b(f)c(g))", 'e', 'b', 'c', "a(eB(f)bC(g))"},
		{"a(b(f))c(g)", 'e', 'b', 'c', "a(eB(f))bC(g)"},
		{"a(b(f)d(c(g)h))", 'e', 'b', 'c', "a(eB(f)d(bC(g)h))"},
		{"b(f)c", 'a', 'b', 'c', "aB(f)bC"},
		{"a(b)c(d)", 'e', 'a', 'c', "aC(d)eA(b)"},
		{"a(b)c(d)", 'e', 'c', 'a', "cA(b)eC(d)"},
		// What is in src comes of what is in pivot.
		{"b(c)", 'e', 'b', 'c', "eB(bC)"},
		{"b(c(d))", 'e', 'b', 'c', "eB(bC(d))"},
		{"b(d(c))", 'e', 'b', 'c', "eB(d(bC))"},
		{"a(b(fc(d)g)h)", 'e', 'b', 'c', "a(eB(fbC(d)g)h)"},
		{"a(b)", 'c', 'a', 'b', "cA(aB)"},
		{"b(a)", 'c', 'b', 'a', "cB(bA)"},
		{"b(c)", 'a', 'b', 'c', "aB(bC)"},
		// The other way round.
		{"c(b)", 'e', 'b', 'c', "bC(eB)"},
		{"c(b(d))", 'e', 'b', 'c', "bC(eB(d))"},
		{"c(d(b(f)))", 'e', 'b', 'c', "bC(d(eB(f)))"},
		{"a(hc(db(f)g)i)", 'e', 'b', 'c', "a(hbC(deB(f)g)i)"},
		{"a(b)", 'c', 'b', 'a', "bA(cB)"},
		{"c(b)", 'a', 'b', 'c', "bC(aB)"},
		// They change places.
		{"bc", 'c', 'b', 'c', "bCcB"},
		{"a(bc)", 'c', 'b', 'c', "a(cBbC)"},
		{"a(bc)", 'b', 'c', 'b', "a(cBbC)"},
		{"a(bcd)", 'd', 'b', 'd', "a(dBcbD)"},
		{"a(b(f)c(g))", 'c', 'b', 'c', "a(cB(f)bC(g))"},
		{"a(b(f))c(g)", 'c', 'b', 'c', "a(cB(f))bC(g)"},
		{"b(c)", 'c', 'b', 'c', "cB(bC)"},
		{"b(c(d)e)", 'c', 'b', 'c', "cB(bC(d)e)"},
		{"c(b)", 'c', 'b', 'c', "bC(cB)"},
		{"c(b(d)e)", 'c', 'b', 'c', "bC(cB(d)e)"},
		{"b(d(c))", 'c', 'b', 'c', "cB(d(bC))"},
		{"c(d(b))", 'c', 'b', 'c', "bC(d(cB))"},
		{"a(b(fc(d)g)h)", 'c', 'b', 'c', "a(cB(fbC(d)g)h)"},
		{"a(b)", 'b', 'a', 'b', "bA(aB)"},
		{"a(b)", 'a', 'b', 'a', "bA(aB)"},
		// Slots that are alike in a field.
		{"g(h)", 'i', 'g', 'h', "iG(gH)"},
		{"h(g)", 'j', 'g', 'h', "gH(jG)"},
		{"i(j)", 'j', 'i', 'j', "jI(iJ)"},
	} {
		n := grown(t, c.before)
		k := rotate(at(c.dst), at(c.pivot), at(c.src))
		must(t, n, k)
		wantText(t, n, c.after, c.before+": "+k.name)
	}
}

// Each kind is rotated as it is.
func TestRotateEachKind(t *testing.T) {
	for _, x := range kinds() {
		for _, y := range kinds() {
			c := bare(t)
			must(t, c, plant(at('a'), x), child(at('a'), at('b'), y), rotate(at('c'), at('a'), at('b')))
			wantCap(t, c, at('c'), x, "Rotate")
			wantCap(t, c, at('a'), y, "Rotate")
			wantCap(t, c, at('b'), api.Cap{}, "Rotate")
			must(t, c, rotate(at('a'), at('c'), at('a')))
			wantCap(t, c, at('a'), x, "Rotate, to change places")
			wantCap(t, c, at('c'), y, "Rotate, to change places")
			if l := letters(c.Children(at('a'))); l != "c" || len(c.Kin(at('c'))) != 0 {
				t.Errorf("Rotate: Children(a): %s", l)
			}
			inStep(t, c, "Rotate")
		}
	}
}

// Behind two rotations that change places, and behind three that go round, all is as it was.
func TestRotateBack(t *testing.T) {
	for _, text := range []string{"b(c)", "c(b)", "bc", "a(bc)", "a(b(d)c(f))", "a(b(d(c(f))))"} {
		c := grown(t, text)
		before := told(c)
		must(t, c, rotate(at('c'), at('b'), at('c')), rotate(at('c'), at('b'), at('c')))
		if told(c) != before {
			t.Errorf("%s: changed twice: %s", text, shown(c))
		}
		must(t, c, rotate(at('e'), at('b'), at('c')), rotate(at('c'), at('e'), at('b')), rotate(at('b'), at('c'), at('e')))
		if told(c) != before {
			t.Errorf("%s: gone round: %s", text, shown(c))
		}
	}
}

func TestRotateRefused(t *testing.T) {
	c := grown(t, "a(b(c))g")
	a, b, f, g := at('a'), at('b'), at('f'), at('g') // f is empty
	d, h := at('d'), at('h')                         // so are they
	away := absent()
	every := append([]api.Slot{a, b, g, d, f, h}, away...)
	for _, s := range every {
		for _, other := range every {
			refuses(t, c, rotate(s, s, other), api.ErrField) // pivot is dst
			refuses(t, c, rotate(other, s, s), api.ErrField) // pivot is src
		}
	}
	for _, pivot := range away {
		for _, src := range every {
			if src == pivot {
				continue
			}
			for _, dst := range []api.Slot{src, a, b, f, {Node: 4}} {
				refuses(t, c, rotate(dst, pivot, src), api.ErrLookup)
			}
		}
	}
	for _, src := range every {
		if src == f {
			continue
		}
		for _, dst := range []api.Slot{src, a, b, d, h, away[0]} {
			refuses(t, c, rotate(dst, f, src), api.ErrNone) // pivot is empty
		}
	}
	for _, pivot := range []api.Slot{a, b, g} {
		for _, src := range away {
			for _, dst := range []api.Slot{src, at('c'), f, {Node: 4}} {
				refuses(t, c, rotate(dst, pivot, src), api.ErrLookup)
			}
		}
		for _, src := range []api.Slot{d, f, h} {
			for _, dst := range []api.Slot{src, at('c'), at('e'), away[0]} {
				refuses(t, c, rotate(dst, pivot, src), api.ErrNone)
			}
		}
		for _, dst := range away {
			refuses(t, c, rotate(dst, pivot, at('c')), api.ErrLookup)
		}
	}
	for _, k := range []call{rotate(a, b, g), rotate(a, g, b), rotate(g, a, b), rotate(b, a, at('c')), rotate(at('c'), a, b)} {
		refuses(t, c, k, api.ErrTwice)
	}
}

func TestTake(t *testing.T) {
	for _, c := range []struct {
		before string
		at     byte
		after  string
	}{
		{"a", 'a', ""},
		{"ab", 'a', "b"},
		{"a(b)", 'a', "b"},
		{"a(bcd)", 'a', "bcd"},
		{"a(b(cd)e)f", 'a', "b(cd)ef"},
		{"a(b)", 'b', "a"},
		{"a(b(c))", 'b', "a(c)"},
		{"a(b(edc))", 'b', "a(edc)"},
		{"a(b(efg)cd)", 'b', "a(efgcd)"},
		{"a(bc(gfe)d)", 'c', "a(bgfed)"},
		{"a(bcd(efg))", 'd', "a(bcefg)"},
		{"a(bc(e(g)f(hi))d)", 'c', "a(be(g)f(hi)d)"},
		{"a(b(c(d(e))))", 'd', "a(b(c(e)))"},
		{"b(c(d))", 'c', "b(d)"},
		{"c(b(d))", 'b', "c(d)"},
		{"g(h(i))", 'h', "g(i)"},
	} {
		n := grown(t, c.before)
		if x, e := n.Take(at(c.at)); x != own(c.at) || e != api.OK {
			t.Errorf("%s: Take(%c): %+v, %v", c.before, c.at, x, e)
		}
		wantText(t, n, c.after, c.before+": Take")
		refuses(t, n, take(at(c.at)), api.ErrNone)
		must(t, n, plant(at(c.at), own(c.at)))
		if p, ok := n.Parent(at(c.at)); p != (api.Slot{}) || ok || len(n.Kin(at(c.at))) != 0 {
			t.Errorf("%s: Plant behind Take: it comes of %v, %t; Kin: %v", c.before, p, ok, n.Kin(at(c.at)))
		}
		inStep(t, n, "Take")
	}
}

func TestTakeEachKind(t *testing.T) {
	for _, x := range kinds() {
		c := bare(t)
		must(t, c, plant(at('a'), x), child(at('a'), at('b'), x), child(at('b'), at('c'), x))
		for i, letter := range []byte("bac") {
			if y, e := c.Take(at(letter)); y != x || e != api.OK {
				t.Errorf("Take(%c): %+v, %v; not %+v", letter, y, e, x)
			}
			if n := c.Count(x.Kind, x.Object); n != 2-i {
				t.Errorf("Take(%c): Count: %d", letter, n)
			}
			inStep(t, c, "Take")
		}
		if told(c) != told(bare(t)) {
			t.Errorf("Take of all: %s", told(c))
		}
	}
}

func TestTakeRefused(t *testing.T) {
	c := grown(t, "a(b(c)d)g")
	for _, s := range absent() {
		refuses(t, c, take(s), api.ErrLookup)
	}
	for _, letter := range []byte("efhijklmnop") {
		refuses(t, c, take(at(letter)), api.ErrNone)
	}
}
