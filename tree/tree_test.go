package tree

import (
	"math"
	"slices"
	"strings"
	"testing"

	"donjon/api"
)

// places are the slots that the letters from a on stand for: the zero value,
// slots that are alike in one field, or that have another one's fields the
// other way round, numbers that are alike in their low bits, and far out.
var places = []api.Slot{
	{Node: 0, At: 0}, // a
	{Node: 0, At: 1}, // b
	{Node: 1, At: 0}, // c
	{Node: 1, At: 1}, // d
	{Node: 1, At: 2}, // e
	{Node: 2, At: 1}, // f
	{Node: -1, At: 0},
	{Node: 0, At: -1},
	{Node: 1 << 32, At: 0},
	{Node: 0, At: 1 << 32},
	{Node: math.MaxInt, At: math.MinInt},
	{Node: math.MinInt, At: math.MaxInt},
	{Node: math.MaxInt, At: math.MaxInt},
	{Node: math.MinInt, At: math.MinInt},
	{Node: 63, At: 15},
	{Node: 15, At: 63},
}

// sl is a letter's slot.
func sl(letter byte) api.Slot { return places[letter-'a'] }

// sls is the slots of letters.
func sls(letters string) []api.Slot {
	var l []api.Slot
	for i := range len(letters) {
		l = append(l, sl(letters[i]))
	}
	return l
}

// letters is slots in letters; one that is none of the places is a question mark.
func letters(l []api.Slot) string {
	var text strings.Builder
	for _, s := range l {
		text.WriteByte(letterOf(s))
	}
	return text.String()
}

func letterOf(s api.Slot) byte {
	if i := slices.Index(places, s); i >= 0 {
		return 'a' + byte(i)
	}
	return '?'
}

// grown is the tree of a text: letters, and in brackets behind each one its
// children: in a(bc(d))e b and c come of a, d of c, and a and e of none.
func grown(t *testing.T, text string) *Tree {
	t.Helper()
	x := New()
	var above []api.Slot
	var last api.Slot
	for i := range len(text) {
		e := api.OK
		switch {
		case text[i] == '(':
			above = append(above, last)
		case text[i] == ')':
			above = above[:len(above)-1]
		case len(above) == 0:
			last = sl(text[i])
			e = x.Root(last)
		default:
			last = sl(text[i])
			e = x.Child(above[len(above)-1], last)
		}
		if e != api.OK {
			t.Fatalf("%s: letter %d: %v", text, i, e)
		}
	}
	return x
}

// shown is a tree's text. Those that come of none stand in the order of their
// letters, because the tree has no order of them.
func shown(x *Tree) string {
	var text strings.Builder
	for _, s := range places {
		if _, ok := x.Parent(s); !ok && x.Has(s) {
			show(x, s, &text, 0)
		}
	}
	return text.String()
}

// show ends at a depth that no tree of the places has, so that a ring would not go on for ever.
func show(x *Tree, s api.Slot, text *strings.Builder, depth int) {
	text.WriteByte(letterOf(s))
	l := x.Children(s)
	if len(l) == 0 || depth > len(places) {
		return
	}
	text.WriteByte('(')
	for _, c := range l {
		show(x, c, text, depth+1)
	}
	text.WriteByte(')')
}

// model is the slots of a tree in the order in which a text has them, each
// with the number of brackets that are open there.
type model struct{ rows []row }

type row struct {
	slot  api.Slot
	depth int
}

func (m *model) index(s api.Slot) int {
	return slices.IndexFunc(m.rows, func(r row) bool { return r.slot == s })
}

// end is the number of the row behind a row's kin.
func (m *model) end(i int) int {
	j := i + 1
	for j < len(m.rows) && m.rows[j].depth > m.rows[i].depth {
		j++
	}
	return j
}

func (m *model) root(s api.Slot) api.Errno {
	if m.index(s) >= 0 {
		return api.ErrTwice
	}
	m.rows = append(m.rows, row{s, 0})
	return api.OK
}

func (m *model) child(of, s api.Slot) api.Errno {
	i := m.index(of)
	switch {
	case i < 0:
		return api.ErrNone
	case m.index(s) >= 0:
		return api.ErrTwice
	}
	m.rows = slices.Insert(m.rows, m.end(i), row{s, m.rows[i].depth + 1})
	return api.OK
}

func (m *model) drop(s api.Slot) api.Errno {
	i := m.index(s)
	if i < 0 {
		return api.ErrNone
	}
	kin := m.rows[i+1 : m.end(i)]
	for j := range kin {
		kin[j].depth--
	}
	m.rows = slices.Delete(m.rows, i, i+1)
	return api.OK
}

func (m *model) move(from, to api.Slot) api.Errno {
	i := m.index(from)
	switch {
	case i < 0:
		return api.ErrNone
	case m.index(to) >= 0:
		return api.ErrTwice
	}
	m.rows[i].slot = to
	return api.OK
}

func (m *model) parent(s api.Slot) (api.Slot, bool) {
	for i := m.index(s) - 1; i >= 0; i-- {
		if m.rows[i].depth < m.rows[m.index(s)].depth {
			return m.rows[i].slot, true
		}
	}
	return api.Slot{}, false
}

// below is the slots of a slot's kin that are at most so many levels below it.
func (m *model) below(s api.Slot, levels int) []api.Slot {
	i := m.index(s)
	if i < 0 {
		return nil
	}
	var l []api.Slot
	for _, r := range m.rows[i+1 : m.end(i)] {
		if r.depth <= m.rows[i].depth+levels {
			l = append(l, r.slot)
		}
	}
	return l
}

func (m *model) children(s api.Slot) []api.Slot { return m.below(s, 1) }

func (m *model) kin(s api.Slot) []api.Slot { return m.below(s, len(m.rows)) }

// both is a tree with its model, which are held against one another at each call.
type both struct {
	*testing.T
	x *Tree
	m *model
}

func fresh(t *testing.T) both { return both{t, New(), &model{}} }

func (b both) root(s api.Slot) {
	b.Helper()
	if e, want := b.x.Root(s), b.m.root(s); e != want {
		b.Fatalf("Root(%v): %v, not %v", s, e, want)
	}
}

func (b both) child(of, s api.Slot) {
	b.Helper()
	if e, want := b.x.Child(of, s), b.m.child(of, s); e != want {
		b.Fatalf("Child(%v, %v): %v, not %v", of, s, e, want)
	}
}

func (b both) drop(s api.Slot) {
	b.Helper()
	if e, want := b.x.Drop(s), b.m.drop(s); e != want {
		b.Fatalf("Drop(%v): %v, not %v", s, e, want)
	}
}

func (b both) move(from, to api.Slot) {
	b.Helper()
	if e, want := b.x.Move(from, to), b.m.move(from, to); e != want {
		b.Fatalf("Move(%v, %v): %v, not %v", from, to, e, want)
	}
}

// same holds what is told of each place, and how many there are, against the model.
func (b both) same(after string) {
	b.Helper()
	for _, s := range places {
		if has, want := b.x.Has(s), b.m.index(s) >= 0; has != want {
			b.Fatalf("%s: Has(%v): %t, not %t", after, s, has, want)
		}
		p, ok := b.x.Parent(s)
		if want, wantOk := b.m.parent(s); p != want || ok != wantOk {
			b.Fatalf("%s: Parent(%v): %v, %t; not %v, %t", after, s, p, ok, want, wantOk)
		}
		if l, want := b.x.Children(s), b.m.children(s); !slices.Equal(l, want) {
			b.Fatalf("%s: Children(%v): %v, not %v", after, s, l, want)
		}
		if l, want := b.x.Kin(s), b.m.kin(s); !slices.Equal(l, want) {
			b.Fatalf("%s: Kin(%v): %v, not %v", after, s, l, want)
		}
	}
	if n := b.x.Len(); n != len(b.m.rows) {
		b.Fatalf("%s: Len: %d, not %d", after, n, len(b.m.rows))
	}
}

// call is one of the calls that change a tree.
type call struct {
	name string
	a, b api.Slot
}

func (b both) do(c call) {
	b.Helper()
	switch c.name {
	case "Root":
		b.root(c.a)
	case "Child":
		b.child(c.a, c.b)
	case "Drop":
		b.drop(c.a)
	case "Move":
		b.move(c.a, c.b)
	}
}

// calls is every call with slots of a list.
func calls(l []api.Slot) []call {
	var all []call
	for _, a := range l {
		all = append(all, call{"Root", a, a}, call{"Drop", a, a})
		for _, b := range l {
			all = append(all, call{"Child", a, b}, call{"Move", a, b})
		}
	}
	return all
}

// draws hands out numbers below n that are drawn by a rule of their own, the
// same at each run.
func draws(seed uint64) func(n int) int {
	return func(n int) int {
		seed = seed*6364136223846793005 + 1442695040888963407
		return int(seed >> 33 % uint64(n))
	}
}

// told is all that a tree tells of the places.
func told(x *Tree) []string {
	l := []string{shown(x), strings.Repeat("i", x.Len())}
	for _, s := range places {
		p, ok := x.Parent(s)
		has := "no "
		if x.Has(s) {
			has = "has "
		}
		if ok {
			has += "of "
		}
		l = append(l, has+letters([]api.Slot{p})+" "+letters(x.Children(s))+" "+letters(x.Kin(s)))
	}
	return l
}

// wantTree holds a tree against its text, written out.
func wantTree(t *testing.T, x *Tree, want, after string) {
	t.Helper()
	if got := shown(x); got != want {
		t.Errorf("%s: %s, not %s", after, got, want)
	}
	all := letters(places)
	for i := range len(all) {
		if has, in := x.Has(sl(all[i])), strings.Contains(want, all[i:i+1]); has != in {
			t.Errorf("%s: Has(%c): %t, not %t", after, all[i], has, in)
		}
	}
	if n, count := x.Len(), len(want)-2*strings.Count(want, "("); n != count {
		t.Errorf("%s: Len: %d, not %d", after, n, count)
	}
}

// The chapter's example.
func TestExample(t *testing.T) {
	x := New()
	a, b, c, d := sl('a'), sl('b'), sl('c'), sl('d')
	for i, e := range []api.Errno{x.Root(a), x.Child(a, b), x.Child(b, c), x.Child(a, d)} {
		if e != api.OK {
			t.Errorf("call %d: %v", i, e)
		}
	}
	if l := x.Kin(a); !slices.Equal(l, []api.Slot{b, c, d}) {
		t.Errorf("Kin: %v", l)
	}
	if e := x.Drop(b); e != api.OK {
		t.Errorf("Drop: %v", e)
	}
	if l := x.Children(a); !slices.Equal(l, []api.Slot{c, d}) {
		t.Errorf("Children: %v", l)
	}
}

// 9.1

func TestNew(t *testing.T) {
	b := fresh(t)
	b.same("New")
	for _, s := range places {
		b.drop(s)
		for _, to := range places {
			b.child(s, to)
			b.move(s, to)
		}
	}
	b.same("New, and what it refuses")
}

// Nothing is shared by two trees.
func TestTreesAreApart(t *testing.T) {
	x, y := grown(t, "a(bc)"), New()
	wantTree(t, y, "", "a new one beside another one")
	if e := y.Root(sl('b')); e != api.OK {
		t.Errorf("Root of what is in another tree: %v", e)
	}
	if e := y.Child(sl('b'), sl('a')); e != api.OK {
		t.Errorf("Child of what is in another tree: %v", e)
	}
	wantTree(t, x, "a(bc)", "another one was changed")
	x.Drop(sl('b'))
	x.Move(sl('a'), sl('d'))
	wantTree(t, x, "d(c)", "Drop and Move")
	wantTree(t, y, "b(a)", "another one's were dropped and moved")
}

func TestRoot(t *testing.T) {
	b := fresh(t)
	for _, s := range places {
		b.root(s)
		b.same("one more that comes of none")
	}
	if b.x.Len() != len(places) {
		t.Errorf("Len: %d", b.x.Len())
	}
}

// A slot comes of none also where others come of others, and comes of none
// again where it was a child.
func TestRootBesideOthers(t *testing.T) {
	x := grown(t, "a(bc(d))")
	x.Drop(sl('b'))
	for _, c := range []byte("be") {
		if e := x.Root(sl(c)); e != api.OK {
			t.Errorf("Root(%c): %v", c, e)
		}
	}
	wantTree(t, x, "a(c(d))be", "Root")
}

func TestChild(t *testing.T) {
	for _, c := range []struct {
		before string
		of, s  byte
		after  string
	}{
		{"a", 'a', 'b', "a(b)"},
		{"b", 'b', 'a', "b(a)"},
		{"a(b)", 'a', 'c', "a(bc)"},
		{"a(c)", 'a', 'b', "a(cb)"},
		{"a(b)", 'b', 'c', "a(b(c))"},
		{"a(b(c))", 'a', 'd', "a(b(c)d)"},
		{"a(b(c)d)", 'b', 'e', "a(b(ce)d)"},
		{"a(b(c)d)", 'd', 'e', "a(b(c)d(e))"},
		{"a(b(c)d)", 'a', 'e', "a(b(c)de)"},
		{"a(b(c)d)", 'c', 'e', "a(b(c(e))d)"},
		{"ab", 'b', 'c', "ab(c)"},
		{"a(c)b", 'b', 'd', "a(c)b(d)"},
		{"k(lmn)", 'k', 'j', "k(lmnj)"},
		{"g", 'g', 'h', "g(h)"},
		{"i", 'i', 'a', "i(a)"},
		{"o", 'o', 'p', "o(p)"},
	} {
		x := grown(t, c.before)
		if e := x.Child(sl(c.of), sl(c.s)); e != api.OK {
			t.Errorf("%s: Child(%c, %c): %v", c.before, c.of, c.s, e)
		}
		wantTree(t, x, c.after, c.before+": Child")
	}
}

// All places in one line, each of the one ahead; and all of the first one.
func TestChildAll(t *testing.T) {
	deep, wide := fresh(t), fresh(t)
	deep.root(places[0])
	wide.root(places[0])
	for i, s := range places[1:] {
		deep.child(places[i], s)
		wide.child(places[0], s)
		deep.same("one more level")
		wide.same("one more child")
	}
	wantTree(t, deep.x, "a(b(c(d(e(f(g(h(i(j(k(l(m(n(o(p)))))))))))))))", "one line")
	wantTree(t, wide.x, "a(bcdefghijklmnop)", "children of one")
}

func TestDrop(t *testing.T) {
	for _, c := range []struct {
		before string
		s      byte
		after  string
	}{
		// One that comes of none.
		{"a", 'a', ""},
		{"ab", 'a', "b"},
		{"a(b)", 'a', "b"},
		{"a(bcd)", 'a', "bcd"},
		{"a(b(cd)e)f", 'a', "b(cd)ef"},
		{"b(c)a(d)e(f)", 'a', "b(c)de(f)"},
		// An only child.
		{"a(b)", 'b', "a"},
		{"a(b(c))", 'b', "a(c)"},
		{"a(b(cde))", 'b', "a(cde)"},
		{"a(b(edc))", 'b', "a(edc)"},
		// A first one.
		{"a(bcd)", 'b', "a(cd)"},
		{"a(b(e)cd)", 'b', "a(ecd)"},
		{"a(b(efg)cd)", 'b', "a(efgcd)"},
		// A middle one.
		{"a(bcd)", 'c', "a(bd)"},
		{"a(bc(e)d)", 'c', "a(bed)"},
		{"a(bc(efg)d)", 'c', "a(befgd)"},
		{"a(bc(gfe)d)", 'c', "a(bgfed)"},
		// A last one.
		{"a(bcd)", 'd', "a(bc)"},
		{"a(bcd(e))", 'd', "a(bce)"},
		{"a(bcd(efg))", 'd', "a(bcefg)"},
		// Several levels: what comes of its children stays with them.
		{"a(bc(e(g)f(hi))d)", 'c', "a(be(g)f(hi)d)"},
		{"a(b(c(d(e))))", 'b', "a(c(d(e)))"},
		{"a(b(c(d(e))))", 'd', "a(b(c(e)))"},
		{"a(b(c(d(e))))", 'e', "a(b(c(d)))"},
		{"a(b(c(de)f)g)h", 'c', "a(b(def)g)h"},
		// Parents whose slots are alike in a field, or far out.
		{"b(c(d))", 'c', "b(d)"},
		{"c(b(d))", 'b', "c(d)"},
		{"k(l(m(n)))", 'l', "k(m(n))"},
		{"n(a(b))", 'a', "n(b)"},
	} {
		x := grown(t, c.before)
		if e := x.Drop(sl(c.s)); e != api.OK {
			t.Errorf("%s: Drop(%c): %v", c.before, c.s, e)
		}
		wantTree(t, x, c.after, c.before+": Drop")
	}
}

// Behind a Drop the youngest is still the last one.
func TestChildBehindDrop(t *testing.T) {
	for _, c := range []struct {
		before string
		drop   byte
		after  string
	}{
		{"a(bcd)", 'b', "a(cdp)"},
		{"a(bcd)", 'c', "a(bdp)"},
		{"a(bcd)", 'd', "a(bcp)"},
		{"a(b(ef)cd)", 'b', "a(efcdp)"},
		{"a(bc(ef)d)", 'c', "a(befdp)"},
		{"a(bcd(ef))", 'd', "a(bcefp)"},
		{"a(b(ef))", 'b', "a(efp)"},
		{"a(b)", 'b', "a(p)"},
	} {
		x := grown(t, c.before)
		x.Drop(sl(c.drop))
		if e := x.Child(sl('a'), sl('p')); e != api.OK {
			t.Errorf("%s: Child behind Drop(%c): %v", c.before, c.drop, e)
		}
		wantTree(t, x, c.after, c.before+": Drop, Child")
	}
}

// What is dropped may come again, and has nothing of what it had.
func TestDroppedComesAgain(t *testing.T) {
	x := grown(t, "a(b(c)d)")
	x.Drop(sl('b'))
	if e := x.Child(sl('a'), sl('b')); e != api.OK {
		t.Errorf("Child: %v", e)
	}
	wantTree(t, x, "a(cdb)", "a child again")
	x.Drop(sl('b'))
	if e := x.Child(sl('d'), sl('b')); e != api.OK {
		t.Errorf("Child: %v", e)
	}
	wantTree(t, x, "a(cd(b))", "another one's child")
	x.Drop(sl('a'))
	if e := x.Child(sl('b'), sl('a')); e != api.OK {
		t.Errorf("Child: %v", e)
	}
	wantTree(t, x, "cd(b(a))", "a child of what came of it")
	x.Drop(sl('d'))
	if e := x.Root(sl('d')); e != api.OK {
		t.Errorf("Root: %v", e)
	}
	wantTree(t, x, "b(a)cd", "one that comes of none again")
}

func TestMove(t *testing.T) {
	for _, c := range []struct {
		before   string
		from, to byte
		after    string
	}{
		// One that comes of none.
		{"a", 'a', 'b', "b"},
		{"ac", 'a', 'b', "bc"},
		{"a(b)", 'a', 'c', "c(b)"},
		{"a(bcd)", 'a', 'e', "e(bcd)"},
		{"a(b(cd)e)f", 'a', 'g', "fg(b(cd)e)"},
		// An only child.
		{"a(b)", 'b', 'c', "a(c)"},
		{"a(b(c))", 'b', 'd', "a(d(c))"},
		// A first one.
		{"a(bcd)", 'b', 'e', "a(ecd)"},
		{"a(b(f)cd)", 'b', 'e', "a(e(f)cd)"},
		{"a(b(fgh)cd)", 'b', 'e', "a(e(fgh)cd)"},
		// A middle one.
		{"a(bcd)", 'c', 'e', "a(bed)"},
		{"a(bc(f)d)", 'c', 'e', "a(be(f)d)"},
		{"a(bc(hgf)d)", 'c', 'e', "a(be(hgf)d)"},
		// A last one.
		{"a(bcd)", 'd', 'e', "a(bce)"},
		{"a(bcd(f))", 'd', 'e', "a(bce(f))"},
		{"a(bcd(fgh))", 'd', 'e', "a(bce(fgh))"},
		// Several levels.
		{"a(b(c(d(e))))", 'c', 'f', "a(b(f(d(e))))"},
		{"a(b(c(de)f)g)", 'b', 'h', "a(h(c(de)f)g)"},
		// To and from slots that are alike in a field, or far out.
		{"d(e)", 'd', 'a', "a(e)"},
		{"b(d)", 'b', 'c', "c(d)"},
		{"a(b)", 'a', 'k', "k(b)"},
		{"k(b)", 'k', 'l', "l(b)"},
		{"m(b)", 'm', 'a', "a(b)"},
		{"c(b(d))", 'b', 'j', "c(j(d))"},
	} {
		x := grown(t, c.before)
		if e := x.Move(sl(c.from), sl(c.to)); e != api.OK {
			t.Errorf("%s: Move(%c, %c): %v", c.before, c.from, c.to, e)
		}
		wantTree(t, x, c.after, c.before+": Move")
	}
}

// What was moved is as any other slot: it has children, is moved on and
// dropped, and where it was another one may come.
func TestBehindMove(t *testing.T) {
	x := grown(t, "a(bc(d)e)")
	for i, e := range []api.Errno{
		x.Move(sl('c'), sl('f')),
		x.Child(sl('f'), sl('c')),
		x.Move(sl('a'), sl('g')),
		x.Move(sl('g'), sl('a')),
		x.Child(sl('a'), sl('h')),
	} {
		if e != api.OK {
			t.Errorf("call %d: %v", i, e)
		}
	}
	wantTree(t, x, "a(bf(dc)eh)", "moves")
	if e := x.Drop(sl('f')); e != api.OK {
		t.Errorf("Drop: %v", e)
	}
	wantTree(t, x, "a(bdceh)", "Drop of what was moved")
	if e := x.Move(sl('d'), sl('f')); e != api.OK {
		t.Errorf("Move: %v", e)
	}
	if e := x.Root(sl('d')); e != api.OK {
		t.Errorf("Root: %v", e)
	}
	wantTree(t, x, "a(bfceh)d", "Root of what was moved away")
}

// What is refused, and by which error: the first one that applies. Behind it
// all is as it was.
func TestRefused(t *testing.T) {
	for _, text := range []string{"", "a", "b", "a(b)", "b(a)", "a(bc)", "a(b(c))d", "a(b(cd)e(f))g", "k(l)m(n)", "a(bc(efg)d)h"} {
		x := grown(t, text)
		before := told(x)
		refused := func(name string, a, b api.Slot, got, want api.Errno) {
			t.Helper()
			if got != want {
				t.Errorf("%s: %s(%c, %c): %v, not %v", text, name, letterOf(a), letterOf(b), got, want)
			}
		}
		var in, out []api.Slot
		for _, s := range places {
			if strings.IndexByte(text, letterOf(s)) >= 0 {
				in = append(in, s)
			} else {
				out = append(out, s)
			}
		}
		for _, a := range out {
			refused("Drop", a, a, x.Drop(a), api.ErrNone)
			for _, b := range places { // those that are in the tree, that are not, and a itself
				refused("Child", a, b, x.Child(a, b), api.ErrNone)
				refused("Move", a, b, x.Move(a, b), api.ErrNone)
			}
		}
		for _, a := range in {
			refused("Root", a, a, x.Root(a), api.ErrTwice)
			for _, b := range in { // a's parent, its children, and a itself among them
				refused("Child", a, b, x.Child(a, b), api.ErrTwice)
				refused("Move", a, b, x.Move(a, b), api.ErrTwice)
			}
		}
		if after := told(x); !slices.Equal(after, before) {
			t.Errorf("%s: what was refused changed it: %q, not %q", text, after, before)
		}
		wantTree(t, x, shown(grown(t, text)), text+": what was refused")
	}
}

// 9.2

func TestHas(t *testing.T) {
	x := grown(t, "a(cf(k))n")
	for _, s := range places {
		if want := strings.IndexByte("acfkn", letterOf(s)) >= 0; x.Has(s) != want {
			t.Errorf("Has(%v): %t", s, !want)
		}
	}
	// Slots that are none of the places, each alike to one that is there.
	for _, s := range []api.Slot{{Node: 1, At: 1 << 32}, {Node: 1<<32 + 1, At: 0}, {Node: -1, At: -1}, {Node: 2, At: 2}, {Node: math.MaxInt, At: 0}, {Node: math.MinInt, At: 0}} {
		if x.Has(s) {
			t.Errorf("Has(%v)", s)
		}
	}
}

func TestParent(t *testing.T) {
	x := grown(t, "a(bc(d(g)e)f)k(l(m(n)))")
	for _, c := range []struct{ s, parent byte }{
		{'b', 'a'}, {'c', 'a'}, {'f', 'a'}, {'d', 'c'}, {'e', 'c'}, {'g', 'd'}, {'l', 'k'}, {'m', 'l'}, {'n', 'm'},
	} {
		if p, ok := x.Parent(sl(c.s)); p != sl(c.parent) || !ok {
			t.Errorf("Parent(%c): %v, %t", c.s, p, ok)
		}
	}
	for _, c := range []byte("akhijop") { // they come of none, or are not there
		if p, ok := x.Parent(sl(c)); p != (api.Slot{}) || ok {
			t.Errorf("Parent(%c): %v, %t", c, p, ok)
		}
	}
}

// What comes of none behind a Drop has no parent any more, not even its name.
func TestParentBehindDrop(t *testing.T) {
	x := grown(t, "k(l(m))")
	x.Drop(sl('k'))
	for _, c := range []byte("kl") {
		if p, ok := x.Parent(sl(c)); p != (api.Slot{}) || ok {
			t.Errorf("Parent(%c): %v, %t", c, p, ok)
		}
	}
	if p, ok := x.Parent(sl('m')); p != sl('l') || !ok {
		t.Errorf("Parent(m): %v, %t", p, ok)
	}
}

func TestChildrenAndKin(t *testing.T) {
	for _, c := range []struct {
		text          string
		s             byte
		children, kin string
	}{
		{"", 'a', "", ""},
		{"b", 'a', "", ""},
		{"a", 'a', "", ""},
		{"a(b)", 'a', "b", "b"},
		{"a(b)", 'b', "", ""},
		{"a(b)", 'c', "", ""},
		{"a(bcd)", 'a', "bcd", "bcd"},
		{"a(dcb)", 'a', "dcb", "dcb"},
		{"a(b(c(d)))", 'a', "b", "bcd"},
		{"a(b(c(d)))", 'b', "c", "cd"},
		{"a(b(c(d)))", 'c', "d", "d"},
		{"a(b(c(d)))", 'd', "", ""},
		{"a(b(c)d)", 'a', "bd", "bcd"},
		{"a(b(de)c(fg))", 'a', "bc", "bdecfg"},
		{"a(b(de)c(fg))", 'b', "de", "de"},
		{"a(b(de)c(fg))", 'c', "fg", "fg"},
		{"a(c(gf)b(ed))h(i)", 'a', "cb", "cgfbed"},
		{"a(c(gf)b(ed))h(i)", 'h', "i", "i"},
		{"a(b(c(de)f)g(h(ij(k))l))m(n)", 'a', "bg", "bcdefghijkl"},
		{"a(b(c(de)f)g(h(ij(k))l))m(n)", 'b', "cf", "cdef"},
		{"a(b(c(de)f)g(h(ij(k))l))m(n)", 'g', "hl", "hijkl"},
		{"a(b(c(de)f)g(h(ij(k))l))m(n)", 'h', "ij", "ijk"},
		{"a(b(c(de)f)g(h(ij(k))l))m(n)", 'm', "n", "n"},
		{"a(b(c(de)f)g(h(ij(k))l))m(n)", 'o', "", ""},
	} {
		x := grown(t, c.text)
		if l := letters(x.Children(sl(c.s))); l != c.children {
			t.Errorf("%s: Children(%c): %s, not %s", c.text, c.s, l, c.children)
		}
		if l := letters(x.Kin(sl(c.s))); l != c.kin {
			t.Errorf("%s: Kin(%c): %s, not %s", c.text, c.s, l, c.kin)
		}
	}
}

// The order is that of the tree, not that in which slots came in.
func TestKinInAnotherOrder(t *testing.T) {
	x := New()
	x.Root(sl('a'))
	for _, c := range []struct{ of, s byte }{{'a', 'f'}, {'a', 'b'}, {'b', 'h'}, {'f', 'c'}, {'b', 'd'}, {'f', 'g'}, {'c', 'e'}} {
		if e := x.Child(sl(c.of), sl(c.s)); e != api.OK {
			t.Errorf("Child(%c, %c): %v", c.of, c.s, e)
		}
	}
	wantTree(t, x, "a(f(c(e)g)b(hd))", "Child")
	if l := letters(x.Kin(sl('a'))); l != "fcegbhd" {
		t.Errorf("Kin: %s", l)
	}
}

func TestLen(t *testing.T) {
	x := New()
	want := 0
	for i, e := range []api.Errno{
		x.Root(sl('a')), x.Child(sl('a'), sl('b')), x.Child(sl('b'), sl('c')), x.Root(sl('d')),
	} {
		if e == api.OK {
			want++
		}
		if want != i+1 {
			t.Errorf("call %d: %v", i, e)
		}
	}
	for i, c := range []struct{ got, want int }{
		{x.Len(), 4},
		{int(x.Move(sl('b'), sl('e'))), 0}, {x.Len(), 4},
		{int(x.Drop(sl('e'))), 0}, {x.Len(), 3},
		{int(x.Drop(sl('e'))), int(api.ErrNone)}, {x.Len(), 3},
		{int(x.Root(sl('a'))), int(api.ErrTwice)}, {x.Len(), 3},
		{int(x.Drop(sl('a'))), 0}, {x.Len(), 2},
		{int(x.Drop(sl('d'))), 0}, {int(x.Drop(sl('c'))), 0}, {x.Len(), 0},
	} {
		if c.got != c.want {
			t.Errorf("step %d: %d, not %d", i, c.got, c.want)
		}
	}
}

// To ask changes nothing, also where nothing is to be told.
func TestAskingChangesNothing(t *testing.T) {
	for _, text := range []string{"", "a", "a(b(cd)e)f"} {
		x := grown(t, text)
		before := told(x)
		for range 3 {
			for _, s := range places {
				x.Has(s)
				x.Parent(s)
				x.Children(s)
				x.Kin(s)
			}
		}
		if after := told(x); !slices.Equal(after, before) {
			t.Errorf("%s: %q, not %q", text, after, before)
		}
		wantTree(t, x, text, text+": asked")
	}
}

// spoil writes over a list, and into the spare room behind it.
func spoil(l []api.Slot) {
	l = l[:cap(l)]
	for i := range l {
		l[i] = api.Slot{Node: 99, At: 99}
	}
}

// What is done with a list that was handed out changes neither the tree nor another list.
func TestListsAreTheCallers(t *testing.T) {
	const text = "a(bc(defg)h(i))j(k)"
	x := grown(t, text)
	before := told(x)
	for _, s := range places {
		children, kin := x.Children(s), x.Kin(s)
		others := [][]api.Slot{x.Children(s), x.Kin(s)}
		want := [][]api.Slot{slices.Clone(others[0]), slices.Clone(others[1])}
		spoil(children)
		spoil(kin)
		if !slices.EqualFunc(others, want, slices.Equal[[]api.Slot]) {
			t.Errorf("lists of %v share: %v, not %v", s, others, want)
		}
		if after := told(x); !slices.Equal(after, before) {
			t.Errorf("the tree shares a list of %v: %q, not %q", s, after, before)
		}
	}
	// Spare room of a list that is kept is not handed out: what comes there stays.
	for of, s := range map[byte]byte{'a': 'l', 'c': 'm', 'h': 'n', 'b': 'o'} {
		l := x.Children(sl(of))
		x.Child(sl(of), sl(s))
		spoil(l)
		if l := x.Children(sl(of)); len(l) == 0 || l[len(l)-1] != sl(s) {
			t.Errorf("Children(%c): %v", of, l)
		}
	}
	wantTree(t, x, "a(b(o)c(defgm)h(in)l)j(k)", "lists were spoilt")
}

// What becomes of the tree changes nothing in a list that was handed out.
func TestListsStay(t *testing.T) {
	type list struct {
		got  []api.Slot
		want string
	}
	x := grown(t, "a(bc(efg)d)")
	lists := []list{
		{x.Children(sl('a')), "bcd"},
		{x.Kin(sl('a')), "bcefgd"},
		{x.Children(sl('c')), "efg"},
		{x.Kin(sl('c')), "efg"},
	}
	for i, e := range []api.Errno{
		x.Move(sl('b'), sl('h')), // in a list's first place
		x.Move(sl('f'), sl('i')),
		x.Child(sl('c'), sl('b')),
		x.Drop(sl('d')),
		x.Drop(sl('c')),
		x.Child(sl('a'), sl('c')),
		x.Drop(sl('h')),
		x.Move(sl('a'), sl('d')),
	} {
		if e != api.OK {
			t.Fatalf("call %d: %v", i, e)
		}
		for j, l := range lists {
			if letters(l.got) != l.want {
				t.Errorf("call %d: list %d: %s, not %s", i, j, letters(l.got), l.want)
			}
		}
	}
	wantTree(t, x, "d(eigbc)", "calls")
}

// 9.1 and 9.2 together

// forests is each shape of so many slots, as the depths of the model's rows.
func forests(n int) [][]int {
	if n == 0 {
		return [][]int{nil}
	}
	var l [][]int
	for _, f := range forests(n - 1) {
		most := 0
		if len(f) > 0 {
			most = f[len(f)-1] + 1
		}
		for depth := range most + 1 {
			l = append(l, append(slices.Clone(f), depth))
		}
	}
	return l
}

// planted is a tree of a shape, with the slots of a list in their turn.
func planted(t *testing.T, shape []int, l []api.Slot) both {
	t.Helper()
	b := fresh(t)
	var above []api.Slot
	for i, depth := range shape {
		above = append(above[:depth], l[i])
		if depth == 0 {
			b.root(l[i])
		} else {
			b.child(above[depth-1], l[i])
		}
	}
	return b
}

// Each call, in each shape of up to six slots.
func TestEachShape(t *testing.T) {
	for n := range 7 {
		shapes := forests(n)
		if want := []int{1, 1, 2, 5, 14, 42, 132}[n]; len(shapes) != want {
			t.Fatalf("%d shapes of %d", len(shapes), n)
		}
		for _, shape := range shapes {
			planted(t, shape, places).same("planted")
			for i := range n + 1 {
				for _, c := range []call{
					{"Root", places[i], places[i]},
					{"Drop", places[i], places[i]},
					{"Child", places[i], places[n]},
					{"Move", places[i], places[n]},
					{"Child", places[i], places[0]},
					{"Move", places[i], places[0]},
				} {
					b := planted(t, shape, places)
					b.do(c)
					b.same(c.name)
				}
			}
		}
	}
}

// state is a model's rows, as a key.
func (m *model) state() string {
	var text strings.Builder
	for _, r := range m.rows {
		text.WriteByte(letterOf(r.slot))
		text.WriteByte('0' + byte(r.depth))
	}
	return text.String()
}

// Every call of four slots in every tree that there is of them.
func TestEachTreeOfFour(t *testing.T) {
	all := calls(places[:4])
	ways := map[string][]call{"": nil} // to each state, the calls that lead there
	for todo := []string{""}; len(todo) > 0; todo = todo[1:] {
		for _, c := range all {
			b := fresh(t)
			for _, before := range ways[todo[0]] {
				b.do(before)
			}
			b.do(c)
			b.same(c.name)
			state := b.m.state()
			if _, seen := ways[state]; !seen {
				ways[state] = append(slices.Clone(ways[todo[0]]), c)
				todo = append(todo, state)
			}
		}
	}
	// Of k slots: which ones, in which turn, in which shape.
	if want := 1 + 4*1 + 12*2 + 24*5 + 24*14; len(ways) != want {
		t.Errorf("%d states, not %d", len(ways), want)
	}
}

// Long walks of drawn calls: few slots and all of them, so that trees are now
// bare and now full.
func TestWalks(t *testing.T) {
	for seed := range uint64(60) {
		draw, b := draws(seed), fresh(t)
		l := places[:5+int(seed)%(len(places)-4)]
		all := calls(l)
		for range 400 {
			c := all[draw(len(all))]
			// There are many more calls of two slots than of one, so that a tree
			// would be full nearly always.
			if draw(3) == 0 {
				c = call{"Drop", l[draw(len(l))], api.Slot{}}
			}
			b.do(c)
			b.same(c.name)
			follows(t, b.x)
		}
	}
}

// 9.3

// leads tells whether Parent leads from one slot to another one, in fewer
// calls than there are slots.
func leads(x *Tree, from, to api.Slot) bool {
	for range x.Len() {
		p, ok := x.Parent(from)
		if !ok {
			return false
		}
		if p == to {
			return true
		}
		from = p
	}
	return false
}

// follows holds Kin against Parent alone.
func follows(t *testing.T, x *Tree) {
	t.Helper()
	for _, s := range places {
		kin := x.Kin(s)
		if slices.Contains(kin, s) {
			t.Fatalf("Kin(%v) has it: %v", s, kin)
		}
		count := 0
		for _, other := range places {
			led := leads(x, other, s)
			if led {
				count++
			}
			if led != slices.Contains(kin, other) {
				t.Fatalf("Parent leads from %v to %v: %t; Kin: %v", other, s, led, kin)
			}
		}
		if count != len(kin) {
			t.Fatalf("Kin(%v) has %d slots, not %d: %v", s, len(kin), count, kin)
		}
	}
}

func TestFollows(t *testing.T) {
	for _, text := range []string{"", "a", "a(b)", "b(a)", "ab(c)", "a(b(cd)e)f", "k(l(m(n(o(p)))))", "a(bcdefghijklmnop)", "p(onm(lkj(ihg(fedcba))))"} {
		x := grown(t, text)
		follows(t, x)
		for x.Len() > 0 {
			x.Drop(firstOf(x))
			follows(t, x)
		}
	}
}

// firstOf is the first place that is in a tree.
func firstOf(x *Tree) api.Slot {
	return places[slices.IndexFunc(places, x.Has)]
}

// A slot that comes of what came of it makes no ring.
func TestNoRing(t *testing.T) {
	x := grown(t, "a(b(c))")
	for i, c := range []struct{ got, want api.Errno }{
		{x.Child(sl('c'), sl('a')), api.ErrTwice},
		{x.Move(sl('a'), sl('c')), api.ErrTwice},
		{x.Child(sl('a'), sl('a')), api.ErrTwice},
		{x.Drop(sl('a')), api.OK},
		{x.Child(sl('c'), sl('a')), api.OK},
		{x.Child(sl('a'), sl('b')), api.ErrTwice},
	} {
		if c.got != c.want {
			t.Errorf("call %d: %v, not %v", i, c.got, c.want)
		}
		follows(t, x)
	}
	wantTree(t, x, "b(c(a))", "turned round")
}

// Many

// A line that is deeper than any limit is told whole, from each end.
func TestDeep(t *testing.T) {
	const depth = 1 << 17
	x := New()
	x.Root(api.Slot{})
	for i := range depth {
		if e := x.Child(api.Slot{Node: i}, api.Slot{Node: i + 1}); e != api.OK {
			t.Fatalf("Child %d: %v", i, e)
		}
	}
	kin := x.Kin(api.Slot{})
	for i, s := range kin {
		if s != (api.Slot{Node: i + 1}) {
			t.Fatalf("Kin: %v at %d", s, i)
		}
	}
	if len(kin) != depth || x.Len() != depth+1 {
		t.Errorf("Kin of %d, Len %d", len(kin), x.Len())
	}
	for i := range depth {
		if e := x.Drop(api.Slot{Node: i}); e != api.OK {
			t.Fatalf("Drop %d: %v", i, e)
		}
	}
	if p, ok := x.Parent(api.Slot{Node: depth}); ok || p != (api.Slot{}) || x.Len() != 1 {
		t.Errorf("the last one comes of %v, %t; Len %d", p, ok, x.Len())
	}
}

// Many children of one, with a child each; those are dropped that are odd, and
// the others are moved.
func TestWide(t *testing.T) {
	const width = 1 << 11
	x, root := New(), api.Slot{Node: -1}
	x.Root(root)
	for i := range width {
		x.Child(root, api.Slot{Node: i})
		x.Child(api.Slot{Node: i}, api.Slot{Node: i, At: 1})
	}
	for i := range width {
		e := api.OK
		if i%2 == 1 {
			e = x.Drop(api.Slot{Node: i})
		} else {
			e = x.Move(api.Slot{Node: i}, api.Slot{Node: i, At: 2})
		}
		if e != api.OK {
			t.Fatalf("%d: %v", i, e)
		}
	}
	var children, kin []api.Slot
	for i := range width {
		if i%2 == 0 {
			children = append(children, api.Slot{Node: i, At: 2})
			kin = append(kin, api.Slot{Node: i, At: 2})
		} else {
			children = append(children, api.Slot{Node: i, At: 1})
		}
		kin = append(kin, api.Slot{Node: i, At: 1})
	}
	if !slices.Equal(x.Children(root), children) || !slices.Equal(x.Kin(root), kin) {
		t.Error("children or kin are not as they must be")
	}
}
