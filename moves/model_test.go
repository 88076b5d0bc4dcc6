package moves

import (
	"fmt"
	"maps"
	"math"
	"slices"
	"strings"
	"testing"

	"donjon/api"
	"donjon/cap"
	"donjon/guard"
	"donjon/slots"
)

// face is all calls that the chapter lists, as it writes them.
type face interface {
	Node(id, radix int) api.Errno
	Clear(id int) api.Errno
	Get(at api.Slot) (api.Cap, api.Errno)
	Plant(at api.Slot, x api.Cap) api.Errno
	Child(of, at api.Slot, x api.Cap) api.Errno
	Copy(src, dst api.Slot, rights int) api.Errno
	Mint(src, dst api.Slot, rights int, badge, guard uint64, bits int) api.Errno
	Move(src, dst api.Slot) api.Errno
	Mutate(src, dst api.Slot, guard uint64, bits int) api.Errno
	Rotate(dst, pivot, src api.Slot) api.Errno
	Take(at api.Slot) (api.Cap, api.Errno)
	Find(root api.Cap, ptr uint64) (api.Slot, api.Cap, api.Errno)
	Slot(root api.Cap, ptr uint64, depth int) (api.Slot, api.Errno)
	Radix(id int) int
	Count(kind, object int) int
	Full() []api.Slot
	Children(at api.Slot) []api.Slot
	Kin(at api.Slot) []api.Slot
	Parent(at api.Slot) (api.Slot, bool)
}

var (
	_ face = (*Caps)(nil)
	_ face = (*model)(nil)
)

// model is what a Caps must have, kept in another way: what lies where, and
// the slots that are not empty in the order in which a text has them, each
// with the number of brackets that are open there.
type model struct {
	radix map[int]int
	caps  map[api.Slot]api.Cap
	rows  []row
}

type row struct {
	slot  api.Slot
	depth int
}

func newModel() *model { return &model{radix: map[int]int{}, caps: map[api.Slot]api.Cap{}} }

func (m *model) index(s api.Slot) int {
	return slices.IndexFunc(m.rows, func(r row) bool { return r.slot == s })
}

// end is the number of the row behind a row's kin.
func (m *model) end(i int) int {
	j := i + 1
	for j < len(m.rows) && m.rows[j].depth > m.rows[i].depth {
		j++
	}
	return j
}

func (m *model) has(at api.Slot) bool {
	return at.At >= 0 && at.At < []int{0, 2, 4, 8, 16}[m.radix[at.Node]]
}

func (m *model) isFull(at api.Slot) bool { return m.caps[at] != api.Cap{} }

func (m *model) source(at api.Slot) api.Errno {
	switch {
	case !m.has(at):
		return api.ErrLookup
	case !m.isFull(at):
		return api.ErrNone
	}
	return api.OK
}

func (m *model) place(at api.Slot) api.Errno {
	switch {
	case !m.has(at):
		return api.ErrLookup
	case m.isFull(at):
		return api.ErrTwice
	}
	return api.OK
}

// put is the error of slots' Put.
func (m *model) put(at api.Slot, x api.Cap) api.Errno {
	switch wrong := cap.Check(x); {
	case !m.has(at):
		return api.ErrLookup
	case wrong != api.OK:
		return wrong
	case x == api.Cap{}:
		return api.ErrNone
	case m.isFull(at):
		return api.ErrTwice
	}
	return api.OK
}

// firstOf is the first error of several.
func firstOf(l ...api.Errno) api.Errno {
	for _, e := range l {
		if e != api.OK {
			return e
		}
	}
	return api.OK
}

func (m *model) Node(id, radix int) api.Errno {
	switch {
	case id < 0 || id > 63 || radix < 1 || radix > 4:
		return api.ErrRange
	case m.radix[id] != 0:
		return api.ErrTwice
	}
	m.radix[id] = radix
	return api.OK
}

func (m *model) Clear(id int) api.Errno {
	if m.radix[id] == 0 {
		return api.ErrNone
	}
	for at := range m.caps {
		if at.Node == id {
			return api.ErrState
		}
	}
	delete(m.radix, id)
	return api.OK
}

func (m *model) Get(at api.Slot) (api.Cap, api.Errno) {
	if !m.has(at) {
		return api.Cap{}, api.ErrLookup
	}
	return m.caps[at], api.OK
}

func (m *model) Plant(at api.Slot, x api.Cap) api.Errno {
	e := m.put(at, x)
	if e == api.OK {
		m.caps[at] = x
		m.rows = append(m.rows, row{at, 0})
	}
	return e
}

func (m *model) Child(of, at api.Slot, x api.Cap) api.Errno {
	e := firstOf(m.source(of), m.place(at), m.put(at, x))
	if e == api.OK {
		i := m.index(of)
		m.caps[at] = x
		m.rows = slices.Insert(m.rows, m.end(i), row{at, m.rows[i].depth + 1})
	}
	return e
}

func (m *model) Copy(src, dst api.Slot, rights int) api.Errno {
	return m.Mint(src, dst, rights, 0, m.caps[src].Guard, m.caps[src].Bits)
}

func (m *model) Mint(src, dst api.Slot, rights int, badge, guard uint64, bits int) api.Errno {
	x, wrong := cap.Derive(m.caps[src], rights, badge, guard, bits)
	e := firstOf(m.source(src), m.place(dst), wrong)
	if e == api.OK {
		m.Child(src, dst, x)
	}
	return e
}

// rename puts slots into other ones' places, all at once.
func (m *model) rename(names map[api.Slot]api.Slot) {
	caps := map[api.Slot]api.Cap{}
	for i, r := range m.rows {
		name, ok := names[r.slot]
		if !ok {
			name = r.slot
		}
		m.rows[i].slot, caps[name] = name, m.caps[r.slot]
	}
	m.caps = caps
}

func (m *model) Move(src, dst api.Slot) api.Errno {
	e := firstOf(m.source(src), m.place(dst))
	if e == api.OK {
		m.rename(map[api.Slot]api.Slot{src: dst})
	}
	return e
}

func (m *model) Mutate(src, dst api.Slot, guard uint64, bits int) api.Errno {
	x, e := m.caps[src], firstOf(m.source(src), m.place(dst))
	switch {
	case e != api.OK:
		return e
	case x.Kind != api.Node:
		return api.ErrKind
	case bits < 0 || bits > 16 || guard >= 1<<bits:
		return api.ErrField
	}
	m.rename(map[api.Slot]api.Slot{src: dst})
	m.caps[dst] = api.Cap{Kind: api.Node, Object: x.Object, Guard: guard, Bits: bits}
	return api.OK
}

func (m *model) Rotate(dst, pivot, src api.Slot) api.Errno {
	if pivot == dst || pivot == src {
		return api.ErrField
	}
	e := firstOf(m.source(pivot), m.source(src))
	if dst != src {
		e = firstOf(e, m.place(dst))
	}
	if e == api.OK {
		m.rename(map[api.Slot]api.Slot{pivot: dst, src: pivot})
	}
	return e
}

func (m *model) Take(at api.Slot) (api.Cap, api.Errno) {
	if e := m.source(at); e != api.OK {
		return api.Cap{}, e
	}
	i, x := m.index(at), m.caps[at]
	kin := m.rows[i+1 : m.end(i)]
	for j := range kin {
		kin[j].depth--
	}
	m.rows = slices.Delete(m.rows, i, i+1)
	delete(m.caps, at)
	return x, api.OK
}

// store is a store of its own with all that lies in the slots.
func (m *model) store() *slots.Store {
	s := slots.New()
	for id, radix := range m.radix {
		s.Add(id, radix)
	}
	for at, x := range m.caps {
		s.Put(at, x)
	}
	return s
}

func (m *model) Find(root api.Cap, ptr uint64) (api.Slot, api.Cap, api.Errno) {
	return guard.Cap(m.store(), root, ptr)
}

func (m *model) Slot(root api.Cap, ptr uint64, depth int) (api.Slot, api.Errno) {
	return guard.Find(m.store(), root, ptr, depth)
}

func (m *model) Radix(id int) int { return m.radix[id] }

func (m *model) Count(kind, object int) int {
	n := 0
	for _, x := range m.caps {
		if x.Kind == kind && x.Object == object {
			n++
		}
	}
	return n
}

// Full sorts the slots by one number each, because there are at most sixteen a node.
func (m *model) Full() []api.Slot {
	return slices.SortedFunc(maps.Keys(m.caps), func(a, b api.Slot) int { return a.Node*16 + a.At - b.Node*16 - b.At })
}

// below is the slots of a slot's kin that are at most so many levels below it.
func (m *model) below(at api.Slot, levels int) []api.Slot {
	i := m.index(at)
	if i < 0 {
		return nil
	}
	var l []api.Slot
	for _, r := range m.rows[i+1 : m.end(i)] {
		if r.depth <= m.rows[i].depth+levels {
			l = append(l, r.slot)
		}
	}
	return l
}

func (m *model) Children(at api.Slot) []api.Slot { return m.below(at, 1) }

func (m *model) Kin(at api.Slot) []api.Slot { return m.below(at, len(m.rows)) }

func (m *model) Parent(at api.Slot) (api.Slot, bool) {
	for i := m.index(at) - 1; i >= 0; i-- {
		if m.rows[i].depth < m.rows[m.index(at)].depth {
			return m.rows[i].slot, true
		}
	}
	return api.Slot{}, false
}

// call is one of the calls that change something.
type call struct {
	name string
	do   func(f face) (api.Cap, api.Errno)
}

// plain is a call that answers an error alone.
func plain(do func(f face) api.Errno, name string, args ...any) call {
	return call{fmt.Sprint(name, args), func(f face) (api.Cap, api.Errno) { return api.Cap{}, do(f) }}
}

func node(id, radix int) call {
	return plain(func(f face) api.Errno { return f.Node(id, radix) }, "Node", id, radix)
}

func clearNode(id int) call {
	return plain(func(f face) api.Errno { return f.Clear(id) }, "Clear", id)
}

func plant(at api.Slot, x api.Cap) call {
	return plain(func(f face) api.Errno { return f.Plant(at, x) }, "Plant", at, x)
}

func child(of, at api.Slot, x api.Cap) call {
	return plain(func(f face) api.Errno { return f.Child(of, at, x) }, "Child", of, at, x)
}

func copyOf(src, dst api.Slot, rights int) call {
	return plain(func(f face) api.Errno { return f.Copy(src, dst, rights) }, "Copy", src, dst, rights)
}

func mint(src, dst api.Slot, rights int, badge, guard uint64, bits int) call {
	return plain(func(f face) api.Errno { return f.Mint(src, dst, rights, badge, guard, bits) },
		"Mint", src, dst, rights, badge, guard, bits)
}

func move(src, dst api.Slot) call {
	return plain(func(f face) api.Errno { return f.Move(src, dst) }, "Move", src, dst)
}

func mutate(src, dst api.Slot, guard uint64, bits int) call {
	return plain(func(f face) api.Errno { return f.Mutate(src, dst, guard, bits) }, "Mutate", src, dst, guard, bits)
}

func rotate(dst, pivot, src api.Slot) call {
	return plain(func(f face) api.Errno { return f.Rotate(dst, pivot, src) }, "Rotate", dst, pivot, src)
}

func take(at api.Slot) call {
	return call{fmt.Sprint("Take", at), func(f face) (api.Cap, api.Errno) { return f.Take(at) }}
}

// must holds a call's answer against OK.
func must(t *testing.T, c *Caps, l ...call) {
	t.Helper()
	for _, k := range l {
		if _, e := k.do(c); e != api.OK {
			t.Fatalf("%s: %v", k.name, e)
		}
	}
}

// refuses holds a call's answer against an error, and all that is told behind
// it against what was told ahead of it.
func refuses(t *testing.T, c *Caps, k call, want api.Errno) {
	t.Helper()
	before := told(c)
	if x, e := k.do(c); x != (api.Cap{}) || e != want {
		t.Errorf("%s: %+v, %v; not %v", k.name, x, e, want)
	}
	if after := told(c); after != before {
		t.Fatalf("%s: refused, but changed:\n%s\nnot\n%s", k.name, after, before)
	}
}

// told is all that can be asked of slots, whether they are there or not.
func told(c *Caps) string {
	var text strings.Builder
	for _, id := range []int{0, 1, 2, 7, 15, 63, 3, -1, 64} {
		fmt.Fprintln(&text, id, c.Radix(id))
		for i := -1; i <= 16; i++ {
			s := api.Slot{Node: id, At: i}
			x, e := c.Get(s)
			p, ok := c.Parent(s)
			if x != (api.Cap{}) || ok || c.Has(s) || len(c.Children(s)) > 0 || len(c.Kin(s)) > 0 {
				fmt.Fprintln(&text, s, x, int(e), p, ok, c.Has(s), c.Children(s), c.Kin(s))
			} else {
				fmt.Fprint(&text, int(e), " ")
			}
		}
	}
	full := c.Full()
	fmt.Fprintln(&text, full, c.Len())
	for _, s := range full {
		x, _ := c.Get(s)
		fmt.Fprint(&text, c.Count(x.Kind, x.Object), " ")
	}
	return text.String()
}

// both is a Caps with its model, which are held against one another at each
// call, and the slots of which they are asked.
type both struct {
	*testing.T
	c     *Caps
	m     *model
	asked []api.Slot
}

func fresh(t *testing.T, asked []api.Slot) both { return both{t, New(), newModel(), asked} }

// do makes a call on both, and tells whether it was not refused.
func (b both) do(k call) bool {
	b.Helper()
	want, wantE := k.do(b.m)
	x, e := k.do(b.c)
	if x != want || e != wantE {
		b.Fatalf("%s: %+v, %v; not %+v, %v", k.name, x, e, want, wantE)
	}
	return e == api.OK
}

// same holds what is told of slots against the model.
func (b both) same(after string) {
	b.Helper()
	for _, s := range b.asked {
		x, e := b.c.Get(s)
		if want, wantE := b.m.Get(s); x != want || e != wantE {
			b.Fatalf("%s: Get(%v): %+v, %v; not %+v, %v", after, s, x, e, want, wantE)
		}
		p, ok := b.c.Parent(s)
		if want, wantOk := b.m.Parent(s); p != want || ok != wantOk {
			b.Fatalf("%s: Parent(%v): %v, %t; not %v, %t", after, s, p, ok, want, wantOk)
		}
		if l, want := b.c.Children(s), b.m.Children(s); !slices.Equal(l, want) {
			b.Fatalf("%s: Children(%v): %v, not %v", after, s, l, want)
		}
		if l, want := b.c.Kin(s), b.m.Kin(s); !slices.Equal(l, want) {
			b.Fatalf("%s: Kin(%v): %v, not %v", after, s, l, want)
		}
		if n, want := b.c.Radix(s.Node), b.m.Radix(s.Node); n != want {
			b.Fatalf("%s: Radix(%d): %d, not %d", after, s.Node, n, want)
		}
	}
	if l, want := b.c.Full(), b.m.Full(); !slices.Equal(l, want) {
		b.Fatalf("%s: Full: %v, not %v", after, l, want)
	}
	inStep(b.T, b.c, after)
}

// counted holds Count against the model: of what there is, and of what there is not.
func (b both) counted(after string) {
	b.Helper()
	for kind := -1; kind <= 12; kind++ {
		for _, object := range []int{math.MinInt, -1, 0, 1, 2, 3, 4, 5, 7, 9, 15, 62, 63, 64, math.MaxInt} {
			if n, want := b.c.Count(kind, object), b.m.Count(kind, object); n != want {
				b.Fatalf("%s: Count(%d, %d): %d, not %d", after, kind, object, n, want)
			}
		}
	}
}

// found holds Find and Slot against what guard tells of a store of its own.
func (b both) found(root api.Cap, ptr uint64, depth int) {
	b.Helper()
	s, e := b.c.Slot(root, ptr, depth)
	if want, wantE := b.m.Slot(root, ptr, depth); s != want || e != wantE {
		b.Fatalf("Slot(%+v, %b, %d): %v, %v; not %v, %v", root, ptr, depth, s, e, want, wantE)
	}
	s, x, e := b.c.Find(root, ptr)
	if want, wantX, wantE := b.m.Find(root, ptr); s != want || x != wantX || e != wantE {
		b.Fatalf("Find(%+v, %b): %v, %+v, %v; not %v, %+v, %v", root, ptr, s, x, e, want, wantX, wantE)
	}
}

// inStep is 10.4's first sentence: the slots in the tree are just those that
// are not empty.
func inStep(t *testing.T, c *Caps, after string) {
	t.Helper()
	full := c.Full()
	for _, s := range full {
		if !c.Has(s) {
			t.Fatalf("%s: %v is not empty, and not in the tree", after, s)
		}
		for _, kin := range c.Kin(s) {
			if x, e := c.Get(kin); x == (api.Cap{}) || e != api.OK {
				t.Fatalf("%s: %v is of the kin of %v, and has %+v, %v", after, kin, s, x, e)
			}
		}
	}
	if c.Len() != len(full) {
		t.Fatalf("%s: %d slots are in the tree, and %d are not empty", after, c.Len(), len(full))
	}
}

// draws hands out numbers below n that are drawn by a rule of their own, the
// same at each run.
func draws(seed uint64) func(n int) int {
	return func(n int) int {
		seed = seed*6364136223846793005 + 1442695040888963407
		return int(seed >> 33 % uint64(n))
	}
}

// forests is each shape of so many slots, as the depths of the model's rows.
func forests(n int) [][]int {
	if n == 0 {
		return [][]int{nil}
	}
	var l [][]int
	for _, f := range forests(n - 1) {
		most := 0
		if len(f) > 0 {
			most = f[len(f)-1] + 1
		}
		for depth := range most + 1 {
			l = append(l, append(slices.Clone(f), depth))
		}
	}
	return l
}
