package moves

import (
	"fmt"
	"maps"
	"slices"
	"strings"
	"testing"

	"donjon/api"
	"donjon/cap"
)

// 10.1 to 10.3 together

// calls is every call with slots of a list, and with a capability.
func calls(l []api.Slot, x api.Cap) []call {
	var all []call
	for _, a := range l {
		all = append(all, plant(a, x), take(a))
		for _, b := range l {
			all = append(all, child(a, b, x), copyOf(a, b, 3), mint(a, b, 5, 7, 2, 2), move(a, b), mutate(a, b, 1, 2))
			for _, c := range l {
				all = append(all, rotate(a, b, c))
			}
		}
	}
	return all
}

// shaped is nodes with slots in a shape, each slot with a capability of its own.
func shaped(t *testing.T, shape []int, l []api.Slot, x api.Cap) both {
	t.Helper()
	b := fresh(t, l)
	for id, radix := range radixes() {
		b.do(node(id, radix))
	}
	var above []api.Slot
	for i, depth := range shape {
		x.Object = i
		above = append(above[:depth], l[i])
		if depth == 0 {
			b.do(plant(l[i], x))
		} else {
			b.do(child(above[depth-1], l[i], x))
		}
	}
	return b
}

// Each call in each shape of up to four slots, with two that are empty and two
// that are not there: of Endpoints, and of Nodes.
func TestEachShape(t *testing.T) {
	for _, x := range []api.Cap{{Kind: api.Endpoint, Object: 9, Rights: 7}, {Kind: api.Node, Object: 9}} {
		for n := range 5 {
			l := append(slices.Clone(places[:n+2]), api.Slot{Node: -1}, api.Slot{Node: 0, At: 2})
			all := calls(l, x)
			for _, shape := range forests(n) {
				b := shaped(t, shape, l, x)
				b.same("laid in")
				for _, k := range all {
					changed := b.do(k)
					b.same(k.name)
					if changed {
						b = shaped(t, shape, l, x)
					}
				}
			}
		}
	}
}

// drawer draws calls, right ones and wrong ones, for what is there.
type drawer struct {
	draw func(n int) int
	c    *Caps
	l    []api.Slot
}

func (d drawer) any() api.Slot { return d.l[d.draw(len(d.l))] }

// source is mostly a slot that is not empty.
func (d drawer) source() api.Slot {
	if full := d.c.Full(); len(full) > 0 && d.draw(8) != 0 {
		return full[d.draw(len(full))]
	}
	return d.any()
}

// place is mostly a slot that is there, and empty.
func (d drawer) place() api.Slot {
	s := d.any()
	for range 6 {
		if x, e := d.c.Get(s); x == (api.Cap{}) && e == api.OK {
			return s
		}
		s = d.any()
	}
	return s
}

func (d drawer) rights() int { return []int{7, 7, 7, 7, 3, 5, 6, 1, 0, 8, -1}[d.draw(11)] }

func (d drawer) badge() uint64 { return []uint64{0, 0, 1, 7, 1<<28 - 1, 1 << 28}[d.draw(6)] }

func (d drawer) guard() uint64 { return []uint64{0, 0, 1, 2, 5, 1<<16 - 1}[d.draw(6)] }

func (d drawer) bits() int { return d.draw(20) - 2 }

func (d drawer) cap() api.Cap {
	switch d.draw(8) {
	case 0, 1:
		return api.Cap{Kind: api.Endpoint, Object: 5, Rights: 7}
	case 2, 3:
		return nd(d.draw(4), 0, d.draw(2))
	case 4:
		wrong := slices.SortedFunc(maps.Keys(wrongCaps()), func(a, b api.Cap) int { return strings.Compare(fmt.Sprint(a), fmt.Sprint(b)) })
		return wrong[d.draw(len(wrong))]
	}
	return kinds()[d.draw(11)]
}

// call leaves Child to those that ask for it, because what it lays in need not be weaker.
func (d drawer) call(withChild bool) call {
	switch d.draw(20) {
	case 0:
		return node(d.any().Node, d.draw(6))
	case 1:
		return clearNode(d.any().Node)
	case 2, 3:
		return plant(d.place(), d.cap())
	case 4, 5:
		if withChild {
			return child(d.source(), d.place(), d.cap())
		}
		return mint(d.source(), d.place(), 7, 0, 0, 0)
	case 6, 7, 8:
		return copyOf(d.source(), d.place(), d.rights())
	case 9, 10, 11:
		return mint(d.source(), d.place(), d.rights(), d.badge(), d.guard(), d.bits())
	case 12:
		return move(d.source(), d.place())
	case 13, 14:
		return mutate(d.source(), d.place(), d.guard(), d.bits())
	case 15:
		return rotate(d.place(), d.source(), d.source())
	case 16:
		src := d.source()
		return rotate(src, d.source(), src)
	case 17:
		return rotate(d.any(), d.any(), d.any())
	}
	return take(d.source())
}

// watched is all slots that nodes may have, and some that none has.
func watched(ids ...int) []api.Slot {
	var l []api.Slot
	for _, id := range ids {
		for i := range 16 {
			l = append(l, api.Slot{Node: id, At: i})
		}
	}
	return append(l, api.Slot{Node: -1}, api.Slot{Node: 64}, api.Slot{Node: ids[0], At: -1}, api.Slot{Node: ids[0], At: 16})
}

// Long walks of drawn calls, in few slots, so that they meet, and in many.
func TestWalks(t *testing.T) {
	done := map[string]int{}
	for seed := range uint64(24) {
		ids := [][]int{{0}, {0, 1}, {2, 63}, {0, 1, 2, 3}}[seed%4]
		draw, b := draws(seed), fresh(t, watched(ids...))
		for _, id := range ids {
			b.do(node(id, 1+draw(4)))
		}
		d := drawer{draw, b.c, b.asked}
		for step := range 700 {
			k := d.call(true)
			if b.do(k) {
				done[k.name[:strings.IndexAny(k.name, "[{")]]++
			}
			b.same(k.name)
			b.found(nd(ids[draw(len(ids))], 0, draw(2)), uint64(draw(1<<16)), 1+draw(16))
			if step%100 == 0 {
				b.counted(k.name)
			}
		}
		b.same("the end of a walk")
		b.counted("the end of a walk")
	}
	for _, name := range []string{"Node", "Clear", "Plant", "Child", "Copy", "Mint", "Move", "Mutate", "Rotate", "Take"} {
		if done[name] < 30 {
			t.Errorf("%s was done %d times", name, done[name])
		}
	}
}

// 10.4

// What comes of what by Copy and Mint is weaker, behind whatever else is done
// with the slots: so it is of all kin, because weaker than weaker is weaker.
func TestWalksAreWeaker(t *testing.T) {
	most := 0
	for seed := range uint64(24) {
		ids := [][]int{{0}, {0, 1}, {2, 63}, {0, 1, 2, 3}}[seed%4]
		draw, c := draws(seed+100), New()
		for _, id := range ids {
			must(t, c, node(id, 1+draw(4)))
		}
		d := drawer{draw, c, watched(ids...)}
		for range 700 {
			k := d.call(false)
			k.do(c)
			inStep(t, c, k.name)
			for _, s := range c.Full() {
				above, _ := c.Get(s)
				kin := c.Kin(s)
				most = max(most, len(kin))
				for _, of := range kin {
					if x, _ := c.Get(of); !cap.Weaker(x, above) {
						t.Fatalf("%s: %+v comes of %+v, and is not weaker", k.name, x, above)
					}
				}
			}
		}
	}
	if most < 12 {
		t.Errorf("no more than %d slots came of one", most)
	}
}

// Each capability of each kind, and all that Mint and Copy may make of it.
func TestDerivedIsWeaker(t *testing.T) {
	for _, c := range mintCases() {
		for rights := range 8 {
			n := bare(t)
			must(t, n, plant(at('a'), c.x))
			n.Mint(at('a'), at('b'), rights, c.badge, c.guard, c.bits)
			n.Copy(at('a'), at('c'), rights)
			n.Copy(at('b'), at('d'), 7-rights)
			for _, s := range n.Kin(at('a')) {
				p, _ := n.Parent(s)
				x, _ := n.Get(s)
				above, _ := n.Get(p)
				if !cap.Weaker(x, above) {
					t.Errorf("%+v comes of %+v, and is not weaker", x, above)
				}
			}
			if x, _ := n.Get(at('c')); x == (api.Cap{}) {
				t.Errorf("no copy of %+v", c.x)
			}
		}
	}
}

// All slots that there can be: a line of copies through all of them.
func TestAllSlots(t *testing.T) {
	c := New()
	s := func(i int) api.Slot { return api.Slot{Node: i / 16, At: i % 16} }
	for id := range 64 {
		must(t, c, node(id, 4))
	}
	must(t, c, plant(s(0), own('b')))
	for i := range 1023 {
		must(t, c, copyOf(s(i), s(i+1), 7))
	}
	refuses(t, c, copyOf(s(0), s(1023), 7), api.ErrTwice)
	kin := c.Kin(s(0))
	for i, of := range kin {
		if of != s(i+1) {
			t.Fatalf("Kin: %v at %d", of, i)
		}
	}
	if n := c.Count(api.Endpoint, 1); n != 1024 || len(kin) != 1023 || len(c.Full()) != 1024 {
		t.Errorf("Count %d, Kin of %d, Full of %d", n, len(kin), len(c.Full()))
	}
	must(t, c, rotate(s(1023), s(0), s(1023))) // the ends change places
	if k := c.Kin(s(1023)); len(k) != 1023 || k[1022] != s(0) {
		t.Errorf("Rotate: Kin of %d", len(k))
	}
	for i := 1; i < 1023; i++ {
		must(t, c, take(s(i)))
	}
	if l := c.Children(s(1023)); !slices.Equal(l, []api.Slot{s(0)}) {
		t.Errorf("Children: %v", l)
	}
	inStep(t, c, "Take")
}
