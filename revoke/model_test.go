package revoke

import (
	"fmt"
	"slices"
	"testing"

	"donjon/api"
	"donjon/moves"
)

// answer is what Delete and Revoke answer.
type answer struct {
	told []api.Cap
	done bool
	e    api.Errno
}

func (a answer) same(b answer) bool {
	return slices.Equal(a.told, b.told) && a.done == b.done && a.e == b.e
}

func (a answer) String() string { return fmt.Sprintf("[%s], %t, %v", capsText(a.told), a.done, a.e) }

// ask is one of the two calls, with all but the Caps.
type ask struct {
	revoke bool
	at     api.Slot
	steps  int
}

func (k ask) String() string {
	name := "Delete"
	if k.revoke {
		name = "Revoke"
	}
	return fmt.Sprintf("%s(%s%x, %d)", name, letterOf(k.at.Node), k.at.At, k.steps)
}

func (k ask) of(c *moves.Caps) answer {
	call := Delete
	if k.revoke {
		call = Revoke
	}
	told, done, e := call(c, k.at, k.steps)
	return answer{told, done, e}
}

// next is the slot out of which the next step takes a capability, while what is
// in another slot is being taken away. It is looked for from that one on at
// each step, so that nothing is kept of where the steps are.
func (w *world) next(first api.Slot) api.Slot {
	way := []api.Slot{first}
	for {
		last := way[len(way)-1]
		x := w.get(last)
		if x.Kind != api.Node || w.count(x.Kind, x.Object) != 1 {
			return last
		}
		within := slices.IndexFunc(w.full(), func(s api.Slot) bool { return s.Node == x.Object && !slices.Contains(way, s) })
		if within < 0 {
			return last
		}
		way = append(way, w.full()[within])
	}
}

// step takes a capability out, and tells it, if it was final.
func (w *world) step(s api.Slot) []api.Cap {
	i, x := w.index(s), w.get(s)
	final := w.count(x.Kind, x.Object) == 1
	kin := w.rows[i+1 : w.end(i)]
	for j := range kin {
		kin[j].depth--
	}
	w.rows = slices.Delete(w.rows, i, i+1)
	if !final {
		return nil
	}
	if x.Kind == api.Node && !slices.ContainsFunc(w.rows, func(r row) bool { return r.slot.Node == x.Object }) {
		delete(w.radix, x.Object)
	}
	return []api.Cap{x}
}

// refused is the error of a call that begins nothing.
func (w *world) refused(k ask) api.Errno {
	switch {
	case k.steps < 1 || k.steps > 1000:
		return api.ErrRange
	case !w.has(k.at):
		return api.ErrLookup
	case !w.isFull(k.at):
		return api.ErrNone
	}
	return api.OK
}

// do is what a call must answer; behind it the world is as it must be.
func (w *world) do(k ask) answer {
	if e := w.refused(k); e != api.OK {
		return answer{e: e}
	}
	var a answer
	goal, left := k.at, k.steps
	if k.revoke {
		goal = w.lastKin(k.at)
	}
	for w.isFull(goal) {
		if left == 0 {
			a.e = api.ErrMore
			return a
		}
		left--
		a.told = append(a.told, w.step(w.next(goal))...)
		if k.revoke && !w.isFull(goal) {
			goal = w.lastKin(k.at)
		}
	}
	a.done = true
	return a
}

// lastKin is the last one of a slot's kin; if there is none, a slot that is not there.
func (w *world) lastKin(s api.Slot) api.Slot {
	if l := w.kin(s, len(w.rows)); len(l) > 0 {
		return l[len(l)-1]
	}
	return api.Slot{Node: -1}
}

// hold makes a call, and holds its answer, and what there is behind it, against
// what a world says.
func hold(t *testing.T, c *moves.Caps, k ask) answer {
	t.Helper()
	before := look(c)
	after := before.clone()
	want := after.do(k)
	got := k.of(c)
	if !got.same(want) {
		t.Fatalf("%s: %v: %v, not %v", before.text(), k, got, want)
	}
	if w := look(c); !w.same(after) {
		t.Fatalf("%s: %v: %s, not %s", before.text(), k, w.text(), after.text())
	}
	follows(t, before, look(c), k, got)
	return got
}

// follows holds one call against what follows of the chapter, whatever the
// order is in which it takes capabilities away.
func follows(t *testing.T, before, after *world, k ask, a answer) {
	t.Helper()
	gone := len(before.rows) - len(after.rows)
	switch a.e {
	case api.OK:
		if !a.done || gone > k.steps {
			t.Fatalf("%s: %v: done %t, behind %d steps", before.text(), k, a.done, gone)
		}
		behind(t, before, after, k, a.told)
	case api.ErrMore:
		if a.done || gone != k.steps || k.steps >= len(before.rows) {
			t.Fatalf("%s: %v: more is wanted, done %t, behind %d steps", before.text(), k, a.done, gone)
		}
	default:
		if a.done || len(a.told) != 0 || !before.same(after) {
			t.Fatalf("%s: %v: %v, and %s is left", before.text(), k, a, after.text())
		}
	}
	toldOnce(t, before, after, k, a.told)
	if a.e == api.OK {
		othersStay(t, before, after, k, a.told)
	}
}

// behind is what is said of the slot, if all is done.
func behind(t *testing.T, before, after *world, k ask, told []api.Cap) {
	t.Helper()
	switch {
	case !k.revoke && after.isFull(k.at):
		t.Fatalf("%s: %v: the slot is not empty", before.text(), k)
	case k.revoke && len(after.kin(k.at, len(after.rows))) > 0:
		t.Fatalf("%s: %v: %s: something comes of it", before.text(), k, after.text())
	case k.revoke && !isCleared(told, k.at.Node) && after.get(k.at) != before.get(k.at):
		t.Fatalf("%s: %v: %s: it is not as it was", before.text(), k, after.text())
	}
}

// isCleared tells whether a node's last capability was taken away, and what was
// in the node with it. The node itself stays, if that was done on account of a
// slot of its own.
func isCleared(told []api.Cap, id int) bool {
	return slices.ContainsFunc(told, func(x api.Cap) bool { return x.Kind == api.Node && x.Object == id })
}

// toldOnce is that what is told as final has no capability any more, and that
// each object that had one ahead, and has none behind, is told just once, as
// one of its capabilities was.
func toldOnce(t *testing.T, before, after *world, k ask, told []api.Cap) {
	t.Helper()
	times := map[[2]int]int{}
	for _, x := range told {
		times[[2]int{x.Kind, x.Object}]++
		if after.count(x.Kind, x.Object) != 0 {
			t.Fatalf("%s: %v: %s is told, and is there", before.text(), k, capText(x))
		}
		if !slices.ContainsFunc(before.rows, func(r row) bool { return r.x == x }) {
			t.Fatalf("%s: %v: %+v is told, and was not there", before.text(), k, x)
		}
	}
	for _, r := range before.rows {
		want := 0
		if after.count(r.x.Kind, r.x.Object) == 0 {
			want = 1
		}
		if n := times[[2]int{r.x.Kind, r.x.Object}]; n != want {
			t.Fatalf("%s: %v: %s is told %d times, not %d", before.text(), k, capText(r.x), n, want)
		}
	}
}

// othersStay is that all slots that do not come of the one, and lie in no node
// that was cleared, are as they were; with Delete those that come of it, too.
func othersStay(t *testing.T, before, after *world, k ask, told []api.Cap) {
	t.Helper()
	taken := []api.Slot{k.at}
	if k.revoke {
		taken = before.kin(k.at, len(before.rows))
	}
	for _, r := range before.rows {
		if !slices.Contains(taken, r.slot) && !isCleared(told, r.slot.Node) && after.get(r.slot) != r.x {
			t.Fatalf("%s: %v: %s: another slot is not as it was", before.text(), k, after.text())
		}
	}
}

// draws hands out numbers below n that are drawn by a rule of their own, the
// same at each run.
func draws(seed uint64) func(n int) int {
	return func(n int) int {
		seed = seed*6364136223846793005 + 1442695040888963407
		return int(seed >> 33 % uint64(n))
	}
}
