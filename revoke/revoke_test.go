package revoke

import (
	"fmt"
	"math"
	"slices"
	"testing"

	"donjon/api"
	"donjon/moves"
)

// wrongSteps are numbers of steps that no call takes.
func wrongSteps() []int {
	return []int{0, -1, 1001, 1002, -1000, 1<<32 + 1, math.MinInt, math.MaxInt}
}

// absent are slots that are not there, if the nodes are a1, b2, h4.
func absent() []api.Slot {
	return []api.Slot{
		{Node: 2}, {Node: 62}, {Node: -1}, {Node: 64}, {Node: 1 << 32}, {Node: math.MinInt}, {Node: math.MaxInt, At: math.MaxInt},
		{Node: 0, At: 2}, {Node: 0, At: -1}, {Node: 0, At: 1 << 32}, {Node: 0, At: math.MinInt}, {Node: 0, At: math.MaxInt},
		{Node: 1, At: 4}, {Node: 63, At: 16}, {Node: 63, At: -1},
	}
}

// kinds is a right capability of each kind but Null, with all fields that it may have.
func kinds() []api.Cap {
	return []api.Cap{
		{Kind: api.Untyped, Object: 63},
		{Kind: api.Node, Object: 9, Guard: 5, Bits: 3},
		{Kind: api.Thread, Object: 1},
		{Kind: api.Endpoint, Object: 5, Rights: 7, Badge: 1<<28 - 1},
		{Kind: api.Notice, Object: 5, Rights: 2, Badge: 7},
		{Kind: api.Frame, Object: 62, Rights: 3},
		{Kind: api.Table, Object: 3},
		{Kind: api.Space, Object: 2},
		{Kind: api.Irq, Object: 7},
		{Kind: api.Control},
		{Kind: api.Reply, Object: 63},
	}
}

// The chapter's example.
func TestExample(t *testing.T) {
	c := moves.New()
	s := func(n int) api.Slot { return api.Slot{Node: 4, At: n} }
	frame := api.Cap{Kind: api.Frame, Object: 9, Rights: 3}
	for i, e := range []api.Errno{c.Node(4, 2), c.Plant(s(0), frame), c.Copy(s(0), s(1), 3), c.Copy(s(0), s(2), 1)} {
		must(t, e, i)
	}
	for i, want := range []answer{{nil, false, api.ErrMore}, {nil, true, api.OK}} {
		if Final(c, s(0)) {
			t.Errorf("Revoke %d: the Frame is final ahead of it", i)
		}
		if told, done, e := Revoke(c, s(0), 1); !want.same(answer{told, done, e}) {
			t.Errorf("Revoke %d: %v, %t, %v; not %v", i, told, done, e, want)
		}
	}
	if !Final(c, s(0)) {
		t.Error("the Frame is not final, though both are gone")
	}
	if told, done, e := Delete(c, s(0), 1); !slices.Equal(told, []api.Cap{frame}) || !done || e != api.OK {
		t.Errorf("Delete: %v, %t, %v", told, done, e)
	}
	if x, e := c.Get(s(0)); x != (api.Cap{}) || e != api.OK {
		t.Errorf("Get: %+v, %v", x, e)
	}
}

// 11.1

func TestFinal(t *testing.T) {
	for _, k := range []struct{ text, final, not string }{
		{"a1", "", "a0 a1"},
		{"a1 a0:F9", "a0", "a1"},
		{"a1 a1:F9", "a1", "a0"},
		{"a1 a0:F9(a1:F9)", "", "a0 a1"},
		{"a1 a0:F9 a1:F9", "", "a0 a1"},
		{"a1 a0:F9 a1:F8", "a0 a1", ""},
		{"a1 a0:F9 a1:G9", "a0 a1", ""},
		{"a1 a0:F9(a1:G9)", "a0 a1", ""},
		{"a1 b1 a0:F9 b1:F9", "", "a0 a1 b0 b1"},
		{"a1 h4 a0:C0 hf:C0", "", "a0 hf"},
		{"a1 h4 a0:C0 hf:R0", "a0 hf", "a1 h0"},
		{"a1 b1 a0:Nb b0:Na b1:Nz", "a0 b0 b1", "a1"},
		{"a1 a0:Na", "a0", "a1"},
		{"a1 b1 a0:Nb b0:Nb", "", "a0 b0 a1 b1"},
		{"a2 a0:E1(a1:E1(a2:E1)) a3:E2", "a3", "a0 a1 a2"},
		{"a1 a0:F0", "a0", "a1 b0 z0"},
	} {
		c := laid(t, k.text)
		before := look(c)
		for want, l := range map[bool]string{true: k.final, false: k.not} {
			for i := 0; i < len(l); i += 3 {
				if got := Final(c, at(l[i:])); got != want {
					t.Errorf("%s: Final(%s): %t", k.text, l[i:i+2], got)
				}
			}
		}
		if w := look(c); !w.same(before) {
			t.Errorf("%s: to ask changed it: %s", k.text, w.text())
		}
	}
}

// Other fields than Kind and Object do not matter, and each kind is alike.
func TestFinalOfEachKind(t *testing.T) {
	for _, x := range kinds() {
		c := laid(t, "a1 b2 h4")
		must(t, c.Plant(at("b1"), x), x)
		if !Final(c, at("b1")) || Final(c, at("b0")) {
			t.Errorf("%+v is not final", x)
		}
		same := api.Cap{Kind: x.Kind, Object: x.Object}
		must(t, c.Plant(at("h7"), same), same)
		if Final(c, at("b1")) || Final(c, at("h7")) {
			t.Errorf("%+v is final beside %+v", x, same)
		}
		for _, s := range absent() {
			if Final(c, s) {
				t.Errorf("%v is not there, and final", s)
			}
		}
		for _, other := range kinds() {
			if other.Kind == x.Kind {
				continue
			}
			must(t, c.Plant(at("a0"), other), other)
			if !Final(c, at("a0")) || Final(c, at("b1")) {
				t.Errorf("%+v beside %+v", other, x)
			}
			c.Take(at("a0"))
		}
	}
}

// 11.2

// tried is a call, what it answers, and what is left behind it.
type tried struct {
	text, at    string
	steps       int
	told, after string
	e           api.Errno
}

// tryEach makes calls, each in what its text says, and holds them against what is
// written out, and against a world.
func tryEach(t *testing.T, revoke bool, l []tried) {
	t.Helper()
	for _, k := range l {
		call := ask{revoke, at(k.at), k.steps}
		name := k.text + ": " + call.String()
		c := laid(t, k.text)
		wanted := len(c.Full())
		a := hold(t, c, call)
		if want := (answer{capsOf(k.told), k.e == api.OK, k.e}); !a.same(want) {
			t.Errorf("%s: %v, not %v", name, a, want)
		}
		if got := look(c).text(); got != k.after {
			t.Errorf("%s: %s, not %s", name, got, k.after)
		}
		told(t, c, look(c), name)
		if wanted -= len(c.Full()); a.e == api.OK && wanted > 0 {
			justEnough(t, k, call, wanted, a)
			oneByOne(t, k, call, wanted, a)
		}
	}
}

// justEnough makes a call with as many steps as are wanted, and with one fewer.
func justEnough(t *testing.T, k tried, call ask, wanted int, a answer) {
	t.Helper()
	call.steps = wanted
	c := laid(t, k.text)
	if got := hold(t, c, call); !got.same(a) || look(c).text() != k.after {
		t.Errorf("%s: %v: %v, %s; not %v, %s", k.text, call, got, look(c).text(), a, k.after)
	}
	if wanted == 1 {
		return
	}
	call.steps = wanted - 1
	c = laid(t, k.text)
	before := len(c.Full())
	got := hold(t, c, call)
	if got.e != api.ErrMore || got.done || len(got.told) > len(a.told) || !slices.Equal(got.told, a.told[:len(got.told)]) {
		t.Errorf("%s: %v: %v, of %v", k.text, call, got, a)
	}
	if n := before - len(c.Full()); n != wanted-1 {
		t.Errorf("%s: %v: %d are gone", k.text, call, n)
	}
}

// oneByOne makes a call again and again, with one step each. It ends early only
// where the slot itself is gone, with what it was asked for not done yet.
func oneByOne(t *testing.T, k tried, call ask, wanted int, a answer) {
	t.Helper()
	call.steps = 1
	c := laid(t, k.text)
	var all []api.Cap
	for i := range wanted {
		got := hold(t, c, call)
		all = append(all, got.told...)
		if got.e == api.ErrNone && call.revoke && isCleared(a.told, call.at.Node) {
			return
		}
		if want := i == wanted-1; got.done != want || (got.e == api.OK) != want {
			t.Fatalf("%s: %v, the %dth time of %d: %v", k.text, call, i+1, wanted, got)
		}
	}
	if !slices.Equal(all, a.told) || look(c).text() != k.after {
		t.Errorf("%s: %v, %d times: %s, %s; not %s, %s", k.text, call, wanted, capsText(all), look(c).text(), capsText(a.told), k.after)
	}
}

func TestDelete(t *testing.T) {
	tryEach(t, false, []tried{
		{"a1 a0:F9", "a0", 1, "F9", "a1", api.OK},
		{"a1 a0:F9", "a0", 1000, "F9", "a1", api.OK},
		{"a1 a0:F9 a1:F9", "a0", 1, "", "a1 a1:F9", api.OK},
		{"a1 a0:F9 a1:F9", "a1", 1, "", "a1 a0:F9", api.OK},
		{"a1 a0:F9 a1:F8", "a1", 1, "F8", "a1 a0:F9", api.OK},
		{"a1 a0:F9 a1:G9", "a0", 1, "F9", "a1 a1:G9", api.OK},
		// What comes of it stays, and comes of what it came of.
		{"a2 a0:F9(a1:F9(a2:F9) a3:F9)", "a0", 1, "", "a2 a1:F9(a2:F9) a3:F9", api.OK},
		{"a2 a0:F9(a1:F9(a2:F9) a3:F9)", "a1", 1, "", "a2 a0:F9(a2:F9 a3:F9)", api.OK},
		{"a2 a0:F9(a1:F9(a2:F9) a3:F9)", "a2", 5, "", "a2 a0:F9(a1:F9 a3:F9)", api.OK},
		{"a2 a0:U1(a1:T2(a2:F3) a3:F4)", "a1", 5, "T2", "a2 a0:U1(a2:F3 a3:F4)", api.OK},
		// A node that is not there, and one that has another object's number.
		{"a1 a0:Nz", "a0", 1, "Nz", "a1", api.OK},
		{"a1 b1 a0:T1", "a0", 1, "T1", "a1 b1", api.OK},
		{"a1 b1 a0:T1 b0:F1", "a0", 9, "T1", "a1 b1 b0:F1", api.OK},
		{"a1 b1 b0:C0", "b0", 9, "C0", "a1 b1", api.OK},
	})
}

func TestDeleteOfNodes(t *testing.T) {
	tryEach(t, false, []tried{
		// One that is empty, that has one slot that is not, that has several.
		{"a1 b1 a0:Nb", "a0", 1, "Nb", "a1", api.OK},
		{"a1 b4 a1:Nb", "a1", 1000, "Nb", "a1", api.OK},
		{"a1 b1 a0:Nb b1:F9", "a0", 1, "F9", "a1 b1 a0:Nb", api.ErrMore},
		{"a1 b1 a0:Nb b1:F9", "a0", 2, "F9 Nb", "a1", api.OK},
		{"a1 b2 a0:Nb b3:F9 b0:E1 b2:E1", "a0", 1, "", "a1 b2 a0:Nb b2:E1 b3:F9", api.ErrMore},
		{"a1 b2 a0:Nb b3:F9 b0:E1 b2:E1", "a0", 2, "E1", "a1 b2 a0:Nb b3:F9", api.ErrMore},
		{"a1 b2 a0:Nb b3:F9 b0:E1 b2:E1", "a0", 3, "E1 F9", "a1 b2 a0:Nb", api.ErrMore},
		{"a1 b2 a0:Nb b3:F9 b0:E1 b2:E1", "a0", 4, "E1 F9 Nb", "a1", api.OK},
		{"a1 h4 a1:Nh hf:F1 h0:F2 h7:F3 ha:F4", "a1", 9, "F2 F3 F4 F1 Nh", "a1", api.OK},
		{"h1 a4 h1:Na af:F1 a0:F2(a9:F3)", "h1", 9, "F2 F3 F1 Na", "h1", api.OK},
		// What is in it may have a copy elsewhere, may come of what stays, and what stays may come of it.
		{"a2 b1 a0:Nb a1:F1 b0:F1 b1:F2", "a0", 9, "F2 Nb", "a2 a1:F1", api.OK},
		{"a2 b1 a0:Nb a1:F1(b0:F1(a2:F1) b1:E1)", "a0", 9, "E1 Nb", "a2 a1:F1(a2:F1)", api.OK},
		{"a2 b1 a0:Nb(b0:F1(a1:F1 a2:F1) b1:E1)", "a0", 9, "E1 Nb", "a2 a1:F1 a2:F1", api.OK},
		// Another one of the node is left: it is as it was.
		{"a1 b1 a0:Nb a1:Nb", "a0", 9, "", "a1 b1 a1:Nb", api.OK},
		{"a1 b1 a0:Nb(a1:Nb) b0:F1", "a0", 9, "", "a1 b1 a1:Nb b0:F1", api.OK},
		{"a1 b1 a0:Nb(a1:Nb) b0:F1", "a1", 9, "", "a1 b1 a0:Nb b0:F1", api.OK},
		// Its own is in one of its slots.
		{"a1 a0:Na", "a0", 1, "Na", "", api.OK},
		{"a2 a0:F1 a1:Na a3:F2", "a1", 9, "F1 F2 Na", "", api.OK},
		{"a2 a0:F1 a1:Na a3:F2", "a1", 1, "F1", "a2 a1:Na a3:F2", api.ErrMore},
		{"a2 a0:F1 a1:Na a3:F2", "a1", 2, "F1 F2", "a2 a1:Na", api.ErrMore},
		{"a2 a0:F1 a1:Na a3:F2", "a3", 9, "F2", "a2 a0:F1 a1:Na", api.OK},
		{"a1 a0:Na a1:Na", "a0", 9, "", "a1 a1:Na", api.OK},
		{"a1 b1 a0:Nb b0:Nb b1:F1", "a0", 9, "", "a1 b1 b0:Nb b1:F1", api.OK},
		{"a1 b1 a0:Nb b0:Nb b1:F1", "b0", 9, "", "a1 b1 a0:Nb b1:F1", api.OK},
		{"a1 b1 b0:Nb b1:F1 a0:F2", "b0", 9, "F1 Nb", "a1 a0:F2", api.OK},
	})
}

func TestDeleteOfNodesInNodes(t *testing.T) {
	tryEach(t, false, []tried{
		// A node's last one lies in another that is being taken away.
		{"a1 b1 c1 a0:Nb b0:Nc c1:F1", "a0", 9, "F1 Nc Nb", "a1", api.OK},
		{"a1 b1 c1 a0:Nb b0:Nc c1:F1", "b0", 9, "F1 Nc", "a1 b1 a0:Nb", api.OK},
		{"a1 b1 c1 a0:Nb b0:Nc c1:F1", "a0", 2, "F1 Nc", "a1 b1 a0:Nb", api.ErrMore},
		{"a1 b1 c1 d1 a0:Nb b1:Nc c0:Nd d0:F1 d1:F2 c1:F3 b0:F4", "a0", 9, "F4 F1 F2 Nd F3 Nc Nb", "a1", api.OK},
		{"a1 b1 c1 d1 a0:Nb b1:Nc c0:Nd d0:F1 d1:F2 c1:F3 b0:F4", "a0", 3, "F4 F1 F2", "a1 b1 c1 d1 a0:Nb b1:Nc c0:Nd c1:F3", api.ErrMore},
		{"a1 b2 c1 d1 a0:Nb b0:Nc b1:Nd b3:F3 c0:F1 d1:F2", "a0", 9, "F1 Nc F2 Nd F3 Nb", "a1", api.OK},
		// Both of a node's lie there: with the first one nothing goes, with the second one all.
		{"a1 b1 c1 a0:Nb b0:Nc b1:Nc c0:F1", "a0", 9, "F1 Nc Nb", "a1", api.OK},
		{"a1 b1 c1 a0:Nb b0:Nc b1:Nc c0:F1", "a0", 1, "", "a1 b1 c1 a0:Nb b1:Nc c0:F1", api.ErrMore},
		// One lies there, and another one elsewhere, or in the node itself.
		{"a1 b1 c1 a0:Nb a1:Nc b0:Nc c0:F1", "a0", 9, "Nb", "a1 c1 a1:Nc c0:F1", api.OK},
		{"a1 b1 c1 a0:Nb b0:Nc c0:Nc c1:F1", "a0", 9, "Nb", "a1 c1 c0:Nc c1:F1", api.OK},
		// Two nodes, and three, have one another's: the one that has the slot itself stays, with nothing in it.
		{"a1 b1 a0:Nb b0:Na", "a0", 9, "Na Nb", "a1", api.OK},
		{"a1 b1 a0:Nb b0:Na", "b0", 9, "Nb Na", "b1", api.OK},
		{"a1 b1 a0:Nb a1:F1 b0:Na b1:F2", "a0", 9, "F1 Na F2 Nb", "a1", api.OK},
		{"a1 b1 a0:Nb a1:F1 b0:Na b1:F2", "a0", 1, "F1", "a1 b1 a0:Nb b0:Na b1:F2", api.ErrMore},
		{"a1 b1 a0:Nb a1:F1 b0:Na b1:F2", "a0", 2, "F1 Na", "a1 b1 a0:Nb b1:F2", api.ErrMore},
		{"a1 b1 a0:Nb a1:F1 b0:Na b1:F2", "b0", 9, "F2 Nb F1 Na", "b1", api.OK},
		{"a1 b1 c1 a0:Nb b0:Nc c0:Na", "b0", 9, "Nb Na Nc", "b1", api.OK},
		{"a1 b1 c1 a0:Nb a1:F1 b0:Nc b1:F2 c0:Na c1:F3", "a0", 9, "F1 Na F3 Nc F2 Nb", "a1", api.OK},
		{"a1 b1 c1 a0:Nb a1:F1 b0:Nc b1:F2 c0:Na c1:F3", "a0", 4, "F1 Na F3 Nc", "a1 b1 a0:Nb b1:F2", api.ErrMore},
		{"a1 b1 c1 a1:Nb a0:F1 b1:Nc b0:F2 c1:Na c0:F3", "a1", 9, "F2 F3 F1 Na Nc Nb", "a1", api.OK},
		// A ring to which another one leads: what leads to it is not the last one.
		{"a1 b1 c1 a0:Nb b0:Nc c0:Nb", "a0", 9, "", "a1 b1 c1 b0:Nc c0:Nb", api.OK},
		// Two of a node's, the first one of them in a ring.
		{"a2 b2 a0:Nb a1:Na b1:Na b2:F1", "a0", 9, "F1 Nb", "a2 a1:Na", api.OK},
	})
}

func TestRevoke(t *testing.T) {
	tryEach(t, true, []tried{
		// Nothing comes of it.
		{"a1 a0:F9", "a0", 1, "", "a1 a0:F9", api.OK},
		{"a1 a0:F9", "a0", 1000, "", "a1 a0:F9", api.OK},
		{"a1 a0:F9 a1:F9", "a1", 1, "", "a1 a0:F9 a1:F9", api.OK},
		{"a1 a0:F9(a1:F9)", "a1", 1, "", "a1 a0:F9(a1:F9)", api.OK},
		{"a1 b1 a0:Nb b0:F1", "a0", 9, "", "a1 b1 a0:Nb b0:F1", api.OK},
		// Copies of it, several levels deep, the last one first.
		{"a1 a0:F9(a1:F9)", "a0", 1, "", "a1 a0:F9", api.OK},
		{"a2 a0:F9(a1:F9(a2:F9) a3:F9)", "a0", 1, "", "a2 a0:F9(a1:F9(a2:F9))", api.ErrMore},
		{"a2 a0:F9(a1:F9(a2:F9) a3:F9)", "a0", 2, "", "a2 a0:F9(a1:F9)", api.ErrMore},
		{"a2 a0:F9(a1:F9(a2:F9) a3:F9)", "a0", 3, "", "a2 a0:F9", api.OK},
		{"a2 a0:F9(a1:F9(a2:F9) a3:F9)", "a1", 1, "", "a2 a0:F9(a1:F9 a3:F9)", api.OK},
		{"a3 a4:E1(a0:E1(a1:E1(a2:E1(a3:E1)))) a5:E2(a6:E2)", "a0", 9, "", "a3 a4:E1(a0:E1) a5:E2(a6:E2)", api.OK},
		// What is told, in order.
		{"a2 a0:U1(a1:F1 a2:E2(a3:E2))", "a0", 9, "E2 F1", "a2 a0:U1", api.OK},
		{"a2 a0:U1(a3:F1 a2:F2 a1:F3)", "a0", 9, "F3 F2 F1", "a2 a0:U1", api.OK},
		{"a2 a0:U1(a1:F3(a2:F1) a3:F2)", "a0", 2, "F2 F1", "a2 a0:U1(a1:F3)", api.ErrMore},
		{"a2 b1 a0:U1(a1:F1 a2:F2) b0:F1", "a0", 9, "F2", "a2 b1 a0:U1 b0:F1", api.OK},
	})
}

func TestRevokeOfNodes(t *testing.T) {
	tryEach(t, true, []tried{
		{"a2 b1 a0:U1(a1:Nb) b0:F5 b1:U1", "a0", 9, "F5 Nb", "a2 a0:U1", api.OK},
		{"a2 b1 a0:U1(a1:Nb) b0:F5 b1:U1", "a0", 2, "F5", "a2 b1 a0:U1(a1:Nb)", api.ErrMore},
		{"a2 b1 a0:U1(a1:Nz)", "a0", 1, "Nz", "a2 b1 a0:U1", api.OK},
		{"a2 b1 a0:Nb(a1:Nb(a2:Nb)) b0:F1", "a0", 9, "", "a2 b1 a0:Nb b0:F1", api.OK},
		{"a2 b1 a0:U1(a1:Nb(a2:Nb)) b0:F1", "a0", 1, "", "a2 b1 a0:U1(a1:Nb) b0:F1", api.ErrMore},
		{"a2 b1 a0:U1(a1:Nb(a2:Nb)) b0:F1", "a0", 9, "F1 Nb", "a2 a0:U1", api.OK},
		// What is in the node comes of the slot, too.
		{"a1 b1 a0:U1(a1:Nb(b0:F1 b1:F2))", "a0", 9, "F2 F1 Nb", "a1 a0:U1", api.OK},
		{"a2 b1 a0:U1(b0:F5(b1:F5) a1:Nb)", "a0", 9, "F5 Nb", "a2 a0:U1", api.OK},
		{"a2 b1 a0:U1(b1:F5 b0:F6 a2:F7 a1:Nb)", "a0", 9, "F6 F5 Nb F7", "a2 a0:U1", api.OK},
		{"a2 b1 a0:U1(b1:F5 b0:F6 a2:F7 a1:Nb)", "a0", 3, "F6 F5 Nb", "a2 a0:U1(a2:F7)", api.ErrMore},
		{"a2 b1 c1 a0:U1(a1:Nb a2:Nc) b0:F1 c1:F2", "a0", 9, "F2 Nc F1 Nb", "a2 a0:U1", api.OK},
		{"a2 b1 c1 a0:U1(a1:Nb) b0:Nc c0:F1 c1:F2", "a0", 9, "F1 F2 Nc Nb", "a2 a0:U1", api.OK},
		// What comes of what is in the node, and lies elsewhere, stays where it does not come of the slot.
		{"a2 b1 a0:U1(a1:Nb) b0:F5(a2:F5)", "a0", 9, "Nb", "a2 a0:U1 a2:F5", api.OK},
		// The node has its own, or is in a ring.
		{"a1 b1 a0:U1(b0:Nb) b1:F1", "a0", 9, "F1 Nb", "a1 a0:U1", api.OK},
		{"a1 b1 c1 a0:U1(b0:Nc) b1:F1 c0:Nb c1:F2", "a0", 9, "F1 Nb F2 Nc", "a1 b1 a0:U1", api.OK},
		{"a1 b1 c1 a0:U1(a1:Nb) b0:Nc c0:Nb", "a0", 9, "", "a1 b1 c1 a0:U1 b0:Nc c0:Nb", api.OK},
	})
}

// The slot itself lies in a node that is cleared on the way: it goes like what
// else is in the node, and what came of it and is left comes of it no longer.
func TestRevokeTakesItself(t *testing.T) {
	tryEach(t, true, []tried{
		{"a1 b1 b0:U1(a0:Nb) b1:F2 a1:F3", "b0", 1, "U1", "a1 b1 a0:Nb a1:F3 b1:F2", api.ErrMore},
		{"a1 b1 b0:U1(a0:Nb) b1:F2 a1:F3", "b0", 2, "U1 F2", "a1 b1 a0:Nb a1:F3", api.ErrMore},
		{"a1 b1 b0:U1(a0:Nb) b1:F2 a1:F3", "b0", 3, "U1 F2 Nb", "a1 a1:F3", api.OK},
		{"a1 b1 b1:U1(a0:Nb) b0:F2 a1:F3", "b1", 9, "F2 U1 Nb", "a1 a1:F3", api.OK},
		{"a1 b1 b0:U1(a1:F3 a0:Nb)", "b0", 9, "U1 Nb", "a1 a1:F3", api.OK},
		{"a1 b1 b0:U1(a1:F3(a0:Nb))", "b0", 9, "U1 Nb", "a1 a1:F3", api.OK},
		{"a2 b1 a3:U9(b0:U1(a1:F3(a2:F3) a0:Nb))", "b0", 9, "U1 Nb", "a2 a3:U9(a1:F3(a2:F3))", api.OK},
		{"a2 b1 b0:U1(a1:F3 a0:Nb a2:F4)", "b0", 9, "F4 U1 Nb", "a2 a1:F3", api.OK},
		{"b1 b0:U1(b1:Nb)", "b0", 9, "U1 Nb", "", api.OK},
		{"b1 b0:U1(b1:Nb)", "b0", 1, "U1", "b1 b1:Nb", api.ErrMore},
		{"a1 b1 c1 c0:U1(a0:Nb) b0:Nc c1:F1 a1:F2", "c0", 9, "U1 F1 Nc Nb", "a1 a1:F2", api.OK},
		{"a1 b1 a0:U1(a1:Nb) b0:Na", "a0", 9, "U1 Na Nb", "a1", api.OK},
	})
	// Behind it there is nothing of which anything could come.
	for steps, want := range map[int]api.Errno{1: api.ErrNone, 2: api.ErrNone, 3: api.ErrLookup, 1000: api.ErrLookup} {
		c := laid(t, "a1 b1 b0:U1(a0:Nb) b1:F2 a1:F3")
		hold(t, c, ask{true, at("b0"), steps})
		if a := hold(t, c, ask{true, at("b0"), steps}); !a.same(answer{e: want}) {
			t.Errorf("once more with %d: %v, not %v", steps, a, want)
		}
	}
}

// What is told is the capability that was taken out, with all its fields, of each kind.
func TestToldWhole(t *testing.T) {
	for _, x := range kinds() {
		c := laid(t, "a1 b2 h4")
		must(t, c.Plant(at("b2"), x), x)
		if a := hold(t, c, ask{false, at("b2"), 1}); !a.same(answer{[]api.Cap{x}, true, api.OK}) {
			t.Errorf("Delete: %+v, not %+v", a, x)
		}
		must(t, c.Plant(at("a0"), capOf("U5")), x)
		must(t, c.Child(at("a0"), at("hf"), x), x)
		if a := hold(t, c, ask{true, at("a0"), 1}); !a.same(answer{[]api.Cap{x}, true, api.OK}) {
			t.Errorf("Revoke: %+v, not %+v", a, x)
		}
		must(t, c.Plant(at("hf"), x), x)
		must(t, c.Plant(at("b0"), x), x)
		for i, want := range []answer{{nil, true, api.OK}, {[]api.Cap{x}, true, api.OK}} {
			if a := hold(t, c, ask{false, []api.Slot{at("hf"), at("b0")}[i], 1}); !a.same(want) {
				t.Errorf("Delete %d: %v, not %v", i, a, want)
			}
		}
	}
}

// The one that is told is the one that was the last, not the first one that there was.
func TestToldIsTheLast(t *testing.T) {
	c := laid(t, "a3 a0:E5")
	for i, e := range []api.Errno{
		c.Mint(at("a0"), at("a1"), 3, 7, 0, 0), c.Copy(at("a1"), at("a2"), 1), c.Mint(at("a0"), at("a3"), 5, 9, 0, 0),
		c.Plant(at("a4"), capOf("Nz")), c.Mint(at("a4"), at("a5"), 7, 0, 5, 3),
	} {
		must(t, e, i)
	}
	for _, k := range []struct {
		at   string
		want []api.Cap
	}{
		{"a0", nil}, {"a3", nil}, {"a1", nil}, {"a2", []api.Cap{{Kind: api.Endpoint, Object: 5, Rights: 1, Badge: 7}}},
		{"a4", nil}, {"a5", []api.Cap{{Kind: api.Node, Object: 40, Guard: 5, Bits: 3}}},
	} {
		if a := hold(t, c, ask{false, at(k.at), 1}); !a.same(answer{k.want, true, api.OK}) {
			t.Errorf("%s: %+v, not %+v", k.at, a, k.want)
		}
	}
}

// A node's guard does not matter to what is in it.
func TestGuardedNode(t *testing.T) {
	c := laid(t, "a2 b1 b1:F1")
	guarded := api.Cap{Kind: api.Node, Object: 1, Guard: 5, Bits: 3}
	must(t, c.Plant(at("a0"), guarded), "Plant")
	must(t, c.Mint(at("a0"), at("a1"), 7, 0, 0, 0), "Mint")
	if a := hold(t, c, ask{true, at("a0"), 1}); !a.same(answer{nil, true, api.OK}) {
		t.Errorf("Revoke: %v", a)
	}
	if a := hold(t, c, ask{false, at("a0"), 2}); !a.same(answer{[]api.Cap{capOf("F1"), guarded}, true, api.OK}) || c.Radix(1) != 0 {
		t.Errorf("Delete: %v", a)
	}
}

// Wrong inputs: each error, the order of them, and that nothing is changed.
func TestRefused(t *testing.T) {
	c := laid(t, "a1 b2 h4 a0:U1(b0:F1(b1:F1) b2:Nh) hf:F2 h0:E3")
	before := look(c)
	none := []api.Slot{at("a1"), at("b3"), at("h1"), at("he")}
	full := []api.Slot{at("a0"), at("b0"), at("b1"), at("b2"), at("hf"), at("h0")}
	for _, revoke := range []bool{false, true} {
		refuses := func(s api.Slot, steps int, want api.Errno) {
			k := ask{revoke, s, steps}
			if a := hold(t, c, k); !a.same(answer{e: want}) {
				t.Errorf("%v: %v, not %v", k, a, want)
			}
		}
		for _, steps := range wrongSteps() {
			for _, s := range slices.Concat(absent(), none, full) {
				refuses(s, steps, api.ErrRange)
			}
		}
		for _, steps := range []int{1, 2, 8, 999, 1000} {
			for _, s := range absent() {
				refuses(s, steps, api.ErrLookup)
			}
			for _, s := range none {
				refuses(s, steps, api.ErrNone)
			}
		}
	}
	told(t, c, before, "refused")
	// Without nodes nothing is there, and of a node without capabilities all is empty.
	for _, revoke := range []bool{false, true} {
		if a := (ask{revoke, api.Slot{}, 1}).of(moves.New()); !a.same(answer{e: api.ErrLookup}) {
			t.Errorf("without nodes: %v", a)
		}
		if a := (ask{revoke, api.Slot{}, 1}).of(laid(t, "a1")); !a.same(answer{e: api.ErrNone}) {
			t.Errorf("without capabilities: %v", a)
		}
	}
}

// A list that was handed out is the caller's own: what is done with it changes
// neither what there is nor another list, and later calls do not change it.
func TestListsAreTheCallers(t *testing.T) {
	for steps := 1; steps <= 8; steps++ {
		for _, atOnce := range []bool{true, false} {
			c := laid(t, "a2 b2 a0:U1(a1:Nb a2:F1 a3:F2) b0:F3 b1:F4 b2:F5 b3:F6")
			var lists, kept [][]api.Cap
			for e := api.ErrMore; e == api.ErrMore; {
				var l []api.Cap
				l, _, e = Revoke(c, at("a0"), steps)
				lists, kept = append(lists, l), append(kept, slices.Clone(l))
				if atOnce {
					spoil(l)
				}
			}
			if l, want := slices.Concat(kept...), capsOf("F2 F1 F3 F4 F5 F6 Nb"); !slices.Equal(l, want) {
				t.Errorf("%d steps: %s is told, not %s", steps, capsText(l), capsText(want))
			}
			for i, l := range lists {
				if !atOnce && !slices.Equal(l, kept[i]) {
					t.Errorf("%d steps: a list is %s, not %s", steps, capsText(l), capsText(kept[i]))
				}
				spoil(l)
			}
			if got := look(c).text(); got != "a2 a0:U1" {
				t.Errorf("%d steps: %s", steps, got)
			}
			told(t, c, look(c), fmt.Sprint(steps, " steps"))
		}
	}
}

// spoil writes over a list, and into the spare room behind it.
func spoil(l []api.Cap) {
	l = l[:cap(l)]
	for i := range l {
		l[i] = capOf("R9")
	}
}
