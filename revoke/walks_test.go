package revoke

import (
	"fmt"
	"slices"
	"testing"

	"donjon/api"
	"donjon/moves"
)

// 11.2 to 11.4 together

// forests is each way in which so many slots may come of one another: of each
// one the number of the one that it comes of, or -1.
func forests(n int) [][]int {
	all := [][]int{{}}
	for i := range n {
		var longer [][]int
		for _, f := range all {
			for of := -1; of < n; of++ {
				if of != i {
					longer = append(longer, append(slices.Clone(f), of))
				}
			}
		}
		all = longer
	}
	return slices.DeleteFunc(all, hasRing)
}

func hasRing(forest []int) bool {
	for i := range forest {
		j := i
		for range forest {
			if j >= 0 {
				j = forest[j]
			}
		}
		if j >= 0 {
			return true
		}
	}
	return false
}

// contents is each way to lay some capabilities, or none, into so many slots.
func contents(n int, caps ...api.Cap) [][]api.Cap {
	all := [][]api.Cap{{}}
	for range n {
		var longer [][]api.Cap
		for _, l := range all {
			for _, x := range append(caps, api.Cap{}) {
				longer = append(longer, append(slices.Clone(l), x))
			}
		}
		all = longer
	}
	return all
}

// grown is nodes a and b of two slots each, with what is in them, and a forest
// of those that are not empty.
func grown(t *testing.T, in []api.Cap, forest []int) *moves.Caps {
	t.Helper()
	c := moves.New()
	must(t, c.Node(0, 1), "a1")
	must(t, c.Node(1, 1), "b1")
	var full []api.Slot
	for i := range in {
		if in[i] != (api.Cap{}) {
			full = append(full, api.Slot{Node: i / 2, At: i % 2})
		}
	}
	var lay func(i int)
	lay = func(i int) {
		x := in[full[i].Node*2+full[i].At]
		there, _ := c.Get(full[i])
		switch of := forest[i]; {
		case there == x: // another one that comes of it came first
		case of < 0:
			must(t, c.Plant(full[i], x), in)
		default:
			lay(of)
			must(t, c.Child(full[of], full[i], x), in)
		}
	}
	for i := range full {
		lay(i)
	}
	return c
}

// Each call, with one step and with all, at each of the four slots of two nodes,
// whatever is in them and whatever comes of what: nodes that have their own, and
// one another's, among them.
func TestEachWorld(t *testing.T) {
	trees := [][][]int{forests(0), forests(1), forests(2), forests(3), forests(4)}
	for _, in := range contents(4, capOf("Na"), capOf("Nb"), capOf("F1")) {
		n := 0
		for _, x := range in {
			if x != (api.Cap{}) {
				n++
			}
		}
		for _, forest := range trees[n] {
			for i := range 8 {
				for _, steps := range []int{1, 1000} {
					c := grown(t, in, forest)
					hold(t, c, ask{i >= 4, api.Slot{Node: i % 4 / 2, At: i % 2}, steps})
				}
			}
		}
	}
}

// drawer draws what is there, and calls, for few nodes, so that they meet.
type drawer struct {
	draw  func(n int) int
	c     *moves.Caps
	nodes int
}

// slot is one of a node that may be there.
func (d drawer) slot() api.Slot {
	return api.Slot{Node: ids[d.draw(d.nodes)], At: d.draw(4)}
}

// full is mostly a slot that is not empty.
func (d drawer) full() api.Slot {
	if l := d.c.Full(); len(l) > 0 && d.draw(16) != 0 {
		return l[d.draw(len(l))]
	}
	return d.slot()
}

// cap is a node's half of the time, mostly of one that may be there.
func (d drawer) cap() api.Cap {
	switch d.draw(10) {
	case 0, 1, 2, 3, 4:
		return api.Cap{Kind: api.Node, Object: ids[d.draw(d.nodes)], Bits: d.draw(3)}
	case 5:
		return capOf("Nz")
	case 6, 7:
		return api.Cap{Kind: api.Frame, Object: d.draw(3), Rights: d.draw(8)}
	}
	return kinds()[d.draw(len(kinds()))]
}

// lay makes a call of moves; it may be refused.
func (d drawer) lay() {
	switch d.draw(12) {
	case 0, 1:
		d.c.Node(ids[d.draw(d.nodes)], 1+d.draw(2))
	case 2, 3, 4:
		d.c.Plant(d.slot(), d.cap())
	case 5, 6, 7:
		d.c.Child(d.full(), d.slot(), d.cap())
	case 8, 9:
		d.c.Copy(d.full(), d.slot(), d.draw(8))
	case 10:
		d.c.Move(d.full(), d.slot())
	case 11:
		d.c.Rotate(d.slot(), d.full(), d.full())
	}
}

// ask is mostly of a slot that is not empty, with few steps or with many.
func (d drawer) ask() ask {
	steps := []int{1, 1, 2, 3, 4, 5, 8, 13, 999, 1000, 1000, 0, 1001, -1}
	return ask{d.draw(2) == 0, d.full(), steps[d.draw(len(steps))]}
}

// drawn is nodes and what is in them.
func drawn(seed uint64, nodes, calls int) drawer {
	d := drawer{draws(seed), moves.New(), nodes}
	for i := range nodes {
		d.c.Node(ids[i], 1+d.draw(2))
	}
	for range calls {
		d.lay()
	}
	return d
}

// Long walks of drawn calls: what is taken away is laid in again.
func TestWalks(t *testing.T) {
	answers, stays := map[string]int{}, 0
	for seed := range uint64(160) {
		d := drawn(seed, 1+int(seed%6), 20)
		for step := range 120 {
			k, before := d.ask(), look(d.c)
			a := hold(t, d.c, k)
			answers[fmt.Sprint(k.revoke, int(a.e), len(a.told) > 1)]++
			for _, x := range a.told {
				if x.Kind == api.Node && before.radix[x.Object] != 0 && d.c.Radix(x.Object) != 0 {
					stays++
				}
			}
			if step%40 == 0 {
				told(t, d.c, look(d.c), k.String())
			}
			for range d.draw(12) {
				d.lay()
			}
		}
	}
	for _, revoke := range []bool{false, true} {
		for _, e := range []api.Errno{api.OK, api.ErrMore} {
			for _, several := range []bool{false, true} {
				if n := answers[fmt.Sprint(revoke, int(e), several)]; n < 20 {
					t.Errorf("%t, %v, %t: %d times", revoke, e, several, n)
				}
			}
		}
	}
	if stays < 20 {
		t.Errorf("%d nodes stayed behind their last capability", stays)
	}
}

// The same call again and again, as long as the answer is ErrMore: it is done
// behind as many steps as there were capabilities, and what is told, and what
// there is then, is as with one call. But Revoke of a slot that was taken away
// itself on the way has nothing to ask for any more.
func TestAgainAndAgain(t *testing.T) {
	itself, longest := 0, 0
	for seed := range uint64(1500) {
		first := drawn(seed+1000, 2+int(seed%5), 40)
		before := look(first.c)
		if len(before.rows) == 0 {
			continue
		}
		k := ask{seed%2 == 0, first.full(), 1000}
		once := k.of(first.c)
		for steps := 1; steps <= 4; steps++ {
			k.steps = steps
			c := drawn(seed+1000, 2+int(seed%5), 40).c
			var all []api.Cap
			calls, a := 0, answer{e: api.ErrMore}
			for ; a.e == api.ErrMore; calls++ {
				a = hold(t, c, k)
				all = append(all, a.told...)
			}
			if (calls-1)*steps >= len(before.rows) {
				t.Fatalf("%s: %v: %d calls", before.text(), k, calls)
			}
			longest = max(longest, calls)
			if k.revoke && once.e == api.OK && a.e != api.OK && isCleared(once.told, k.at.Node) {
				itself++
				continue
			}
			if a.done != once.done || a.e != once.e || !slices.Equal(all, once.told) || !look(c).same(look(first.c)) {
				t.Fatalf("%s: %v: %v, all told: %s, and %s; not %v, and %s", before.text(), k, a, capsText(all), look(c).text(), once, look(first.c).text())
			}
			world := look(c)
			follows(t, before, world, ask{k.revoke, k.at, 1000}, answer{all, a.done, a.e})
		}
	}
	if itself < 5 || longest < 10 {
		t.Errorf("%d took themselves away; %d calls at most", itself, longest)
	}
}

// allSlots is all nodes that there can be, with all slots empty.
func allSlots(t *testing.T) *moves.Caps {
	t.Helper()
	c := moves.New()
	for id := range 64 {
		must(t, c.Node(id, 4), id)
	}
	return c
}

// All slots that there can be, with copies of one: more than a call may take away.
func TestAllCopies(t *testing.T) {
	s := func(i int) api.Slot { return api.Slot{Node: i / 16, At: i % 16} }
	for _, deep := range []bool{true, false} {
		c := allSlots(t)
		must(t, c.Plant(s(0), capOf("F9")), "Plant")
		for i := 1; i < 1024; i++ {
			of := 0
			if deep {
				of = i - 1
			}
			must(t, c.Copy(s(of), s(i), 7), i)
		}
		if a := hold(t, c, ask{true, s(0), 1000}); !a.same(answer{nil, false, api.ErrMore}) || len(c.Kin(s(0))) != 23 || Final(c, s(0)) {
			t.Errorf("%v, and %d are left", a, len(c.Kin(s(0))))
		}
		if a := hold(t, c, ask{true, s(0), 22}); !a.same(answer{nil, false, api.ErrMore}) || Final(c, s(0)) {
			t.Errorf("once more: %v", a)
		}
		if a := hold(t, c, ask{true, s(0), 1}); !a.same(answer{nil, true, api.OK}) || !Final(c, s(0)) {
			t.Errorf("at last: %v", a)
		}
		if l := c.Full(); !slices.Equal(l, []api.Slot{s(0)}) {
			t.Errorf("%v is left", l)
		}
	}
}

// A thousand and one capabilities come of one: a thousand steps are one fewer than are wanted.
func TestThousandSteps(t *testing.T) {
	for _, n := range []int{999, 1000, 1001} {
		c := allSlots(t)
		top := api.Slot{Node: 63, At: 15}
		must(t, c.Plant(top, capOf("F9")), "Plant")
		for i := range n {
			must(t, c.Copy(top, api.Slot{Node: i / 16, At: i % 16}, 7), i)
		}
		want := answer{nil, true, api.OK}
		if n > 1000 {
			want = answer{nil, false, api.ErrMore}
		}
		if a := hold(t, c, ask{true, top, 1000}); !a.same(want) || len(c.Full()) != 1+max(n-1000, 0) {
			t.Errorf("%d: %v, and %d are left", n, a, len(c.Full()))
		}
	}
}

// Each node lies in the one ahead, all of them full: the last one goes first.
// With the ring closed the first one's slot is the only one that is not asked.
func TestAllNodesInOneAnother(t *testing.T) {
	for _, ring := range []bool{false, true} {
		c := allSlots(t)
		for id := range 64 {
			for i := range 16 {
				x := api.Cap{Kind: api.Endpoint, Object: id, Rights: 7}
				switch {
				case i == 15 && (id < 63 || ring):
					x = api.Cap{Kind: api.Node, Object: (id + 1) % 64}
				case i > 0:
					x = api.Cap{Kind: api.Untyped, Object: id}
				}
				must(t, c.Plant(api.Slot{Node: id, At: i}, x), id)
			}
		}
		top := api.Slot{Node: 0, At: 15}
		wanted := 63*16 + 1
		if ring {
			wanted = 64 * 16
		}
		a := hold(t, c, ask{false, top, 1000})
		if a.e != api.ErrMore || len(c.Full()) != 24 {
			t.Errorf("%v, and %d are left", a.e, len(c.Full()))
		}
		a = hold(t, c, ask{false, top, wanted - 1001})
		if a.e != api.ErrMore || len(c.Full()) != 1025-wanted {
			t.Errorf("once more: %v, and %d are left", a.e, len(c.Full()))
		}
		a = hold(t, c, ask{false, top, 1})
		if !a.same(answer{[]api.Cap{capOf("Nb")}, true, api.OK}) || c.Radix(0) != 4 || c.Radix(1) != 0 || c.Radix(63) != 0 {
			t.Errorf("at last: %v", a)
		}
	}
}
