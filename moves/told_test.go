package moves

import (
	"fmt"
	"math"
	"slices"
	"strings"
	"testing"

	"donjon/api"
)

// 10.3

// nd is short for the tables.
func nd(object int, guard uint64, bits int) api.Cap {
	return api.Cap{Kind: api.Node, Object: object, Guard: guard, Bits: bits}
}

// wantSlot holds Slot against an answer.
func wantSlot(t *testing.T, c *Caps, root api.Cap, ptr uint64, depth int, want api.Slot, wantE api.Errno) {
	t.Helper()
	if s, e := c.Slot(root, ptr, depth); s != want || e != wantE {
		t.Errorf("Slot(%+v, %b, %d): %v, %v; not %v, %v", root, ptr, depth, s, e, want, wantE)
	}
}

// wantFound holds Find against an answer.
func wantFound(t *testing.T, c *Caps, root api.Cap, ptr uint64, want api.Slot, wantX api.Cap, wantE api.Errno) {
	t.Helper()
	if s, x, e := c.Find(root, ptr); s != want || x != wantX || e != wantE {
		t.Errorf("Find(%+v, %b): %v, %+v, %v; not %v, %+v, %v", root, ptr, s, x, e, want, wantX, wantE)
	}
}

// What addresses lead to, and how it changes with what is done with the slots on the way.
func TestFindAndSlot(t *testing.T) {
	c := bare(t)
	root, none, end := nd(1, 5, 3), api.Slot{}, own('f')
	must(t, c, plant(at('e'), nd(2, 0, 0)), plant(at('f'), end)) // 1, 2 leads on to node 2; something lies in 2, 1
	before := told(c)
	wantSlot(t, c, root, 0b10110, 5, at('e'), api.OK)
	wantSlot(t, c, root, 0b101101, 6, at('f'), api.OK)
	wantSlot(t, c, root, 0b101100, 6, at('k'), api.OK)
	wantSlot(t, c, root, 0b1011010, 7, none, api.ErrLookup) // a bit is left
	wantSlot(t, c, root, 0b100101, 6, none, api.ErrLookup)  // another guard
	wantSlot(t, c, root, 0b1011, 4, none, api.ErrLookup)    // too few
	wantSlot(t, c, nd(3, 0, 0), 0, 16, none, api.ErrLookup) // no such node
	wantSlot(t, c, root, 0, 0, none, api.ErrRange)
	wantSlot(t, c, root, 0, 17, none, api.ErrRange)
	wantSlot(t, c, root, 32, 5, none, api.ErrRange)
	wantSlot(t, c, root, 0, math.MinInt, none, api.ErrRange)
	wantSlot(t, c, api.Cap{}, 0b10110, 5, none, api.ErrKind)
	wantSlot(t, c, end, 0b10110, 5, none, api.ErrKind)
	wantFound(t, c, root, 0b101101<<10, at('f'), end, api.OK)
	wantFound(t, c, root, 0b101101<<10|77, at('f'), end, api.OK) // bits may be left
	wantFound(t, c, root, 0b101100<<10, none, api.Cap{}, api.ErrNone)
	wantFound(t, c, root, 0b101110<<10, none, api.Cap{}, api.ErrNone)
	wantFound(t, c, root, 0b100101<<10, none, api.Cap{}, api.ErrLookup)
	wantFound(t, c, root, 1<<16, none, api.Cap{}, api.ErrRange)
	wantFound(t, c, root, math.MaxUint64, none, api.Cap{}, api.ErrRange)
	wantFound(t, c, end, 0b101101<<10, none, api.Cap{}, api.ErrKind)
	if told(c) != before {
		t.Errorf("to ask changed it: %s", told(c))
	}
	must(t, c, move(at('e'), at('p'))) // 1, 3
	wantSlot(t, c, root, 0b101101, 6, none, api.ErrLookup)
	wantSlot(t, c, root, 0b101111, 6, at('f'), api.OK)
	must(t, c, mutate(at('p'), at('e'), 1, 2))
	wantSlot(t, c, root, 0b101111, 6, none, api.ErrLookup)
	wantSlot(t, c, root, 0b10110011, 8, at('f'), api.OK)
	wantFound(t, c, root, 0b10110011<<8, at('f'), end, api.OK)
	must(t, c, mint(at('e'), at('c'), 7, 0, 0, 0), copyOf(at('e'), at('d'), 7))
	wantFound(t, c, root, 0b101001<<10, at('f'), end, api.OK)
	wantFound(t, c, root, 0b10101011<<8, at('f'), end, api.OK)
	must(t, c, rotate(at('k'), at('f'), at('c'))) // what was at 2, 1 is at 2, 0 now, and 2, 1 leads to node 2 itself
	wantFound(t, c, root, 0b10110010<<8, at('k'), end, api.OK)
	wantFound(t, c, root, 0b1011001110<<6, at('k'), end, api.OK)
	must(t, c, take(at('k')), take(at('f')), clearNode(2))
	wantFound(t, c, root, 0b10110011<<8, none, api.Cap{}, api.ErrLookup)
}

// What is told behind each call, one by one, written out.
func TestToldBehindEach(t *testing.T) {
	c := New()
	x := api.Cap{Kind: api.Frame, Object: 4, Rights: 3}
	s := func(n int) api.Slot { return api.Slot{Node: 6, At: n} }
	for _, step := range []struct {
		k             call
		full          string // the slots' numbers
		count, radix  int
		children, kin string // of slot 0
		parent        int    // of slot 2; -1: none
	}{
		{node(6, 3), "", 0, 3, "", "", -1},
		{plant(s(0), x), "0", 1, 3, "", "", -1},
		{copyOf(s(0), s(3), 1), "03", 2, 3, "3", "3", -1},
		{mint(s(3), s(2), 1, 0, 0, 0), "023", 3, 3, "3", "32", 3},
		{child(s(0), s(1), x), "0123", 4, 3, "31", "321", 3},
		{child(s(2), s(7), api.Cap{Kind: api.Table, Object: 4}), "01237", 4, 3, "31", "3271", 3},
		{move(s(3), s(5)), "01257", 4, 3, "51", "5271", 5},
		{rotate(s(3), s(2), s(1)), "02357", 4, 3, "52", "5372", 0},
		{rotate(s(5), s(2), s(5)), "02357", 4, 3, "25", "2375", 0},
		{take(s(2)), "0357", 3, 3, "35", "375", -1},
		{take(s(0)), "357", 2, 3, "", "", -1},
		{take(s(3)), "57", 1, 3, "", "", -1},
		{take(s(5)), "7", 0, 3, "", "", -1},
		{take(s(7)), "", 0, 3, "", "", -1},
		{clearNode(6), "", 0, 0, "", "", -1},
	} {
		must(t, c, step.k)
		numbers := func(l []api.Slot) string {
			var text strings.Builder
			for _, at := range l {
				fmt.Fprint(&text, at.At)
			}
			return text.String()
		}
		if l := numbers(c.Full()); l != step.full {
			t.Errorf("%s: Full: %s, not %s", step.k.name, l, step.full)
		}
		if n := c.Count(api.Frame, 4); n != step.count {
			t.Errorf("%s: Count: %d, not %d", step.k.name, n, step.count)
		}
		if r := c.Radix(6); r != step.radix {
			t.Errorf("%s: Radix: %d, not %d", step.k.name, r, step.radix)
		}
		if l := numbers(c.Children(s(0))); l != step.children {
			t.Errorf("%s: Children: %s, not %s", step.k.name, l, step.children)
		}
		if l := numbers(c.Kin(s(0))); l != step.kin {
			t.Errorf("%s: Kin: %s, not %s", step.k.name, l, step.kin)
		}
		want, wantOk := s(step.parent), true
		if step.parent < 0 {
			want, wantOk = api.Slot{}, false
		}
		if p, ok := c.Parent(s(2)); p != want || ok != wantOk {
			t.Errorf("%s: Parent: %v, %t; not %v, %t", step.k.name, p, ok, want, wantOk)
		}
	}
}

func TestCount(t *testing.T) {
	c := bare(t)
	must(t, c, plant(at('a'), api.Cap{Kind: api.Frame, Object: 4, Rights: 3}), copyOf(at('a'), at('b'), 1), copyOf(at('b'), at('c'), 0),
		plant(at('d'), api.Cap{Kind: api.Frame, Object: 5}), plant(at('e'), api.Cap{Kind: api.Table, Object: 4}), plant(at('f'), api.Cap{Kind: api.Control}))
	for _, k := range []struct{ kind, object, want int }{
		{api.Frame, 4, 3}, {api.Frame, 5, 1}, {api.Table, 4, 1}, {api.Control, 0, 1}, {api.Frame, 0, 0}, {api.Table, 5, 0},
		{api.Null, 0, 0}, {api.Null, 4, 0}, {-1, 4, 0}, {12, 4, 0}, {api.Frame, -1, 0}, {api.Frame, 64, 0}, {math.MinInt, math.MaxInt, 0},
	} {
		if n := c.Count(k.kind, k.object); n != k.want {
			t.Errorf("Count(%d, %d): %d, not %d", k.kind, k.object, n, k.want)
		}
	}
}

func TestKin(t *testing.T) {
	for _, k := range []struct {
		text          string
		at            byte
		children, kin string
	}{
		{"", 'a', "", ""},
		{"a", 'a', "", ""},
		{"a(b)", 'a', "b", "b"},
		{"a(dcb)", 'a', "dcb", "dcb"},
		{"a(b(c(d)))", 'a', "b", "bcd"},
		{"a(c(gf)b(ed))h(i)", 'a', "cb", "cgfbed"},
		{"a(b(c(de)f)g(h(ij(k))l))m(n)", 'a', "bg", "bcdefghijkl"},
		{"a(b(c(de)f)g(h(ij(k))l))m(n)", 'g', "hl", "hijkl"},
		{"a(b(c(de)f)g(h(ij(k))l))m(n)", 'o', "", ""},
	} {
		c := grown(t, k.text)
		if l := letters(c.Children(at(k.at))); l != k.children {
			t.Errorf("%s: Children(%c): %s, not %s", k.text, k.at, l, k.children)
		}
		if l := letters(c.Kin(at(k.at))); l != k.kin {
			t.Errorf("%s: Kin(%c): %s, not %s", k.text, k.at, l, k.kin)
		}
		for _, s := range absent() {
			if p, ok := c.Parent(s); p != (api.Slot{}) || ok || len(c.Children(s)) != 0 || len(c.Kin(s)) != 0 {
				t.Errorf("%s: %v comes of %v, %t; Kin: %v", k.text, s, p, ok, c.Kin(s))
			}
		}
	}
}

// spoil writes over a list, and into the spare room behind it.
func spoil(l []api.Slot) {
	for i := range l {
		l[i] = api.Slot{Node: 99, At: 99}
	}
	for range 64 { // the first ones come into the spare room, if there is any
		l = append(l, api.Slot{Node: 99, At: 99})
	}
}

// What is done with a list that was handed out changes neither what is kept nor another list.
func TestListsAreTheCallers(t *testing.T) {
	c := grown(t, "a(bc(defg)h(i))j(k)")
	before := told(c)
	for _, ask := range []func(s api.Slot) []api.Slot{c.Children, c.Kin, func(api.Slot) []api.Slot { return c.Full() }} {
		for _, s := range places {
			l, other := ask(s), ask(s)
			want := slices.Clone(other)
			spoil(l)
			if !slices.Equal(other, want) {
				t.Errorf("lists of %v share: %v, not %v", s, other, want)
			}
			if told(c) != before {
				t.Fatalf("a list of %v is shared: %s", s, told(c))
			}
		}
	}
	// What is laid in behind a list's end is not the list's.
	for of, s := range map[byte]byte{'a': 'l', 'c': 'm', 'h': 'n', 'b': 'o'} {
		lists := [][]api.Slot{c.Children(at(of)), c.Kin(at(of)), c.Full()}
		must(t, c, child(at(of), at(s), own(s)))
		for _, l := range lists {
			spoil(l)
		}
	}
	wantText(t, c, "a(b(o)c(defgm)h(in)l)j(k)", "lists were spoilt")
}

// What is done with slots changes nothing in a list that was handed out.
func TestListsStay(t *testing.T) {
	c := grown(t, "a(bc(efg)d)")
	lists := map[string][]api.Slot{"bcd": c.Children(at('a')), "bcefgd": c.Kin(at('a')), "efg": c.Children(at('c')), "abcdefg": c.Full()}
	for _, k := range []call{
		move(at('b'), at('h')), rotate(at('e'), at('f'), at('e')), copyOf(at('c'), at('b'), 7), take(at('d')), take(at('c')),
		rotate(at('c'), at('a'), at('g')), plant(at('d'), own('d')),
	} {
		must(t, c, k)
		for want, l := range lists {
			if letters(l) != want {
				t.Errorf("%s: a list is %s, not %s", k.name, letters(l), want)
			}
		}
	}
}
