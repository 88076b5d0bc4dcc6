package slots

import (
	"cmp"
	"maps"
	"math"
	"slices"
	"testing"

	"donjon/api"
)

// sl is short for the tables.
func sl(node, at int) api.Slot { return api.Slot{Node: node, At: at} }

// lengths are how many slots a node of each radix has, written out.
var lengths = map[int]int{1: 2, 2: 4, 3: 8, 4: 16}

// kinds is a right capability of each kind but Null, with all fields that it may have.
func kinds() []api.Cap {
	return []api.Cap{
		{Kind: api.Untyped, Object: 63},
		{Kind: api.Node, Object: 9, Guard: 5, Bits: 3},
		{Kind: api.Thread, Object: 1},
		{Kind: api.Endpoint, Object: 5, Rights: 7, Badge: 1<<28 - 1},
		{Kind: api.Notice, Object: 5, Rights: 2, Badge: 7},
		{Kind: api.Frame, Object: 62, Rights: 3},
		{Kind: api.Table, Object: 33},
		{Kind: api.Space, Object: 2},
		{Kind: api.Irq, Object: 7},
		{Kind: api.Control},
		{Kind: api.Reply, Object: 63},
	}
}

// plain is a capability of each kind but Null with nothing but its kind: of
// object 0, so that it differs from a Null in its kind alone.
func plain() []api.Cap {
	var l []api.Cap
	for kind := api.Untyped; kind <= api.Reply; kind++ {
		l = append(l, api.Cap{Kind: kind})
	}
	return l
}

// wrongCaps are capabilities that are not right, and what is wrong with them.
func wrongCaps() map[api.Cap]api.Errno {
	return map[api.Cap]api.Errno{
		{Kind: -1}:                             api.ErrKind,
		{Kind: 12}:                             api.ErrKind,
		{Kind: math.MinInt}:                    api.ErrKind,
		{Kind: math.MaxInt}:                    api.ErrKind,
		{Kind: 16}:                             api.ErrKind,
		{Kind: 1 << 32}:                        api.ErrKind,
		{Kind: 12, Object: 64, Bits: -1}:       api.ErrKind,
		{Kind: api.Null, Object: 1}:            api.ErrField,
		{Kind: api.Null, Rights: 1}:            api.ErrField,
		{Kind: api.Null, Badge: 1}:             api.ErrField,
		{Kind: api.Null, Bits: 1}:              api.ErrField,
		{Kind: api.Null, Guard: 1}:             api.ErrField,
		{Kind: api.Control, Object: 1}:         api.ErrField,
		{Kind: api.Thread, Object: -1}:         api.ErrField,
		{Kind: api.Thread, Object: 64}:         api.ErrField,
		{Kind: api.Thread, Rights: 1}:          api.ErrField,
		{Kind: api.Endpoint, Rights: 8}:        api.ErrField,
		{Kind: api.Endpoint, Badge: 1 << 28}:   api.ErrField,
		{Kind: api.Frame, Badge: 1}:            api.ErrField,
		{Kind: api.Node, Bits: 17}:             api.ErrField,
		{Kind: api.Node, Bits: 3, Guard: 8}:    api.ErrField,
		{Kind: api.Reply, Object: math.MaxInt}: api.ErrField,
	}
}

// noIds are ids that no node can have: about the bounds, and far out.
func noIds() []int {
	return []int{-1, -2, -64, -1 << 32, math.MinInt, 64, 65, 127, 128, 256, 1 << 32, 1<<32 + 3, math.MaxInt}
}

func noRadixes() []int {
	return []int{0, -1, -4, -64, -1 << 32, math.MinInt, 5, 6, 16, 63, 64, 65, 1 << 32, 1<<32 + 1, math.MaxInt}
}

// noPlaces are slots' numbers that a node of so many slots does not have.
func noPlaces(length int) []int {
	l := []int{-1, -2, -length, -16, -1 << 32, math.MinInt, 16, 17, 31, 32, 64, 1 << 32, 1<<32 + 1, math.MaxInt}
	for i := length; i < 16; i++ {
		l = append(l, i)
	}
	return l
}

// model is what a store must have: which nodes there are, with how many slots,
// and what lies where.
type model struct {
	radix map[int]int
	caps  map[api.Slot]api.Cap
}

func newModel() model { return model{map[int]int{}, map[api.Slot]api.Cap{}} }

func (m model) add(id, radix int) api.Errno {
	if id < 0 || id > 63 || lengths[radix] == 0 {
		return api.ErrRange
	}
	if m.radix[id] != 0 {
		return api.ErrTwice
	}
	m.radix[id] = radix
	return api.OK
}

func (m model) drop(id int) api.Errno {
	if m.radix[id] == 0 {
		return api.ErrNone
	}
	for at := range m.caps {
		if at.Node == id {
			return api.ErrState
		}
	}
	delete(m.radix, id)
	return api.OK
}

func (m model) has(at api.Slot) bool { return at.At >= 0 && at.At < lengths[m.radix[at.Node]] }

// put is handed what is wrong with the capability, because that is not this layer's.
func (m model) put(at api.Slot, c api.Cap, wrong api.Errno) api.Errno {
	_, full := m.caps[at]
	switch {
	case !m.has(at):
		return api.ErrLookup
	case wrong != api.OK:
		return wrong
	case c == api.Cap{}:
		return api.ErrNone
	case full:
		return api.ErrTwice
	}
	m.caps[at] = c
	return api.OK
}

func (m model) take(at api.Slot) (api.Cap, api.Errno) {
	c, full := m.caps[at]
	switch {
	case !m.has(at):
		return api.Cap{}, api.ErrLookup
	case !full:
		return api.Cap{}, api.ErrNone
	}
	delete(m.caps, at)
	return c, api.OK
}

// full sorts the slots by one number each, because there are at most sixteen a node.
func (m model) full() []api.Slot {
	return slices.SortedFunc(maps.Keys(m.caps), func(a, b api.Slot) int { return a.Node*16 + a.At - b.Node*16 - b.At })
}

func (m model) counts() map[[2]int]int {
	l := map[[2]int]int{}
	for _, c := range m.caps {
		l[[2]int{c.Kind, c.Object}]++
	}
	return l
}

// wantSlots holds each node, each slot and Full against the model.
func wantSlots(t *testing.T, s *Store, m model, after string) {
	t.Helper()
	for _, id := range noIds() {
		if r := s.Radix(id); r != 0 {
			t.Fatalf("%s: Radix(%d): %d", after, id, r)
		}
	}
	for id := range 64 {
		if r := s.Radix(id); r != m.radix[id] {
			t.Fatalf("%s: Radix(%d): %d, not %d", after, id, r, m.radix[id])
		}
		for i := -1; i <= 17; i++ {
			at, want := sl(id, i), api.OK
			if !m.has(at) {
				want = api.ErrLookup
			}
			if c, e := s.Get(at); c != m.caps[at] || e != want {
				t.Fatalf("%s: Get(%v): %+v, %v; not %+v, %v", after, at, c, e, m.caps[at], want)
			}
		}
	}
	if l := s.Full(); !slices.Equal(l, m.full()) {
		t.Fatalf("%s: Full: %v, not %v", after, l, m.full())
	}
}

// wantCounts holds Count of each kind and object against the model, also of such as there are none.
func wantCounts(t *testing.T, s *Store, m model, after string) {
	t.Helper()
	want := m.counts()
	kinds := []int{math.MinInt, 16, 1 << 32, math.MaxInt}
	for kind := -1; kind <= 12; kind++ {
		kinds = append(kinds, kind)
	}
	objects := noIds()
	for object := range 64 {
		objects = append(objects, object)
	}
	for _, kind := range kinds {
		for _, object := range objects {
			if n := s.Count(kind, object); n != want[[2]int{kind, object}] {
				t.Fatalf("%s: Count(%d, %d): %d, not %d", after, kind, object, n, want[[2]int{kind, object}])
			}
		}
	}
}

func wantAll(t *testing.T, s *Store, m model, after string) {
	t.Helper()
	wantSlots(t, s, m, after)
	wantCounts(t, s, m, after)
}

// both is a store with its model, which are held against one another at each call.
type both struct {
	*testing.T
	s *Store
	m model
}

func fresh(t *testing.T) both { return both{t, New(), newModel()} }

func (b both) add(id, radix int) {
	b.Helper()
	if e, want := b.s.Add(id, radix), b.m.add(id, radix); e != want {
		b.Fatalf("Add(%d, %d): %v, not %v", id, radix, e, want)
	}
}

func (b both) drop(id int) {
	b.Helper()
	if e, want := b.s.Drop(id), b.m.drop(id); e != want {
		b.Fatalf("Drop(%d): %v, not %v", id, e, want)
	}
}

func (b both) put(at api.Slot, c api.Cap) {
	b.Helper()
	if e, want := b.s.Put(at, c), b.m.put(at, c, wrongCaps()[c]); e != want {
		b.Fatalf("Put(%v, %+v): %v, not %v", at, c, e, want)
	}
}

func (b both) take(at api.Slot) {
	b.Helper()
	want, wantE := b.m.take(at)
	if c, e := b.s.Take(at); c != want || e != wantE {
		b.Fatalf("Take(%v): %+v, %v; not %+v, %v", at, c, e, want, wantE)
	}
}

func (b both) same(after string) {
	b.Helper()
	wantAll(b.T, b.s, b.m, after)
}

// some is a store with a node of each radix, the first id and the last one
// among them: one node full, one empty, two with something in them.
func some(t *testing.T) both {
	b := fresh(t)
	b.add(63, 4)
	b.add(0, 1)
	b.add(7, 3)
	b.add(20, 2)
	l := kinds()
	b.put(sl(0, 0), l[0])
	b.put(sl(0, 1), l[1])
	b.put(sl(63, 0), l[3])
	b.put(sl(63, 15), l[9])
	b.put(sl(63, 8), l[3])
	b.put(sl(7, 7), l[5])
	return b
}

// The chapter's example.
func TestExample(t *testing.T) {
	s, c := New(), api.Cap{Kind: api.Endpoint, Object: 5}
	for i, x := range []struct{ got, want api.Errno }{
		{s.Add(3, 1), api.OK},
		{s.Put(sl(3, 2), c), api.ErrLookup},
		{s.Put(sl(3, 1), c), api.OK},
		{s.Put(sl(3, 1), c), api.ErrTwice},
		{s.Drop(3), api.ErrState},
	} {
		if x.got != x.want {
			t.Errorf("call %d: %v, not %v", i, x.got, x.want)
		}
	}
}

// 7.1

func TestNew(t *testing.T) {
	b := fresh(t)
	b.same("New")
	for id := range 64 {
		b.drop(id)
		b.take(sl(id, 0))
		b.put(sl(id, 0), kinds()[0])
	}
	b.same("New, and what it refuses")
}

// Nothing is shared by two stores.
func TestStoresAreApart(t *testing.T) {
	a, b := some(t), fresh(t)
	b.same("a new one beside another one")
	b.add(0, 2)
	b.put(sl(0, 1), kinds()[2])
	a.same("another one was changed")
	a.take(sl(0, 0))
	a.take(sl(0, 1))
	a.drop(0)
	b.same("another one's node was dropped")
}

func TestAddEach(t *testing.T) {
	for id := range 64 {
		for radix, length := range lengths {
			s := New()
			if e := s.Add(id, radix); e != api.OK {
				t.Errorf("Add(%d, %d): %v", id, radix, e)
			}
			if r := s.Radix(id); r != radix {
				t.Errorf("Add(%d, %d): Radix %d", id, radix, r)
			}
			for i := range length {
				if c, e := s.Get(sl(id, i)); c != (api.Cap{}) || e != api.OK {
					t.Errorf("Add(%d, %d): slot %d has %+v, %v", id, radix, i, c, e)
				}
			}
			if c, e := s.Get(sl(id, length)); c != (api.Cap{}) || e != api.ErrLookup {
				t.Errorf("Add(%d, %d): slot %d has %+v, %v", id, radix, length, c, e)
			}
		}
	}
}

// All ids at once, of several radixes, gone through in a turn of their own.
func TestAddAll(t *testing.T) {
	b := fresh(t)
	for i := range 64 {
		id := i * 27 % 64
		b.add(id, 1+i%4)
		wantSlots(t, b.s, b.m, "one more node")
	}
	b.same("64 nodes")
	for _, id := range noIds() {
		b.add(id, 1)
	}
	for i := range 64 {
		b.drop(i * 43 % 64)
		wantSlots(t, b.s, b.m, "one node less")
	}
	b.same("all nodes dropped")
}

func TestAddRefused(t *testing.T) {
	refused := func(b both, id, radix int, want api.Errno) {
		t.Helper()
		if e := b.s.Add(id, radix); e != want {
			t.Errorf("Add(%d, %d): %v, not %v", id, radix, e, want)
		}
	}
	for _, b := range []both{fresh(t), some(t)} {
		for _, id := range noIds() {
			for radix := range lengths {
				refused(b, id, radix, api.ErrRange)
			}
			for _, radix := range noRadixes() {
				refused(b, id, radix, api.ErrRange)
			}
		}
		// Of ids that there are, too: the range comes ahead of what is there.
		for id := range 64 {
			for _, radix := range noRadixes() {
				refused(b, id, radix, api.ErrRange)
			}
		}
		b.same("what Add refuses by its range")
		for id := range b.m.radix {
			for radix := range lengths {
				refused(b, id, radix, api.ErrTwice)
			}
		}
		b.same("what Add refuses because it is there")
	}
}

func TestDropRefused(t *testing.T) {
	for _, b := range []both{fresh(t), some(t)} {
		absent := noIds()
		for id := range 64 {
			if b.m.radix[id] == 0 {
				absent = append(absent, id)
			}
		}
		for _, id := range absent {
			if e := b.s.Drop(id); e != api.ErrNone {
				t.Errorf("Drop(%d), which is not there: %v", id, e)
			}
		}
		for at := range b.m.caps {
			if e := b.s.Drop(at.Node); e != api.ErrState {
				t.Errorf("Drop(%d), where %v is not empty: %v", at.Node, at, e)
			}
		}
		b.same("what Drop refuses")
	}
}

// One slot that is not empty, whichever, and of whatever kind, keeps the node;
// once it is empty the node goes.
func TestDropOnceEmpty(t *testing.T) {
	for radix, length := range lengths {
		for i := range length {
			for _, c := range append(kinds(), plain()...) {
				s, at := New(), sl(5, i)
				got := []api.Errno{s.Add(5, radix), s.Put(at, c), s.Drop(5)}
				if want := []api.Errno{api.OK, api.OK, api.ErrState}; !slices.Equal(got, want) {
					t.Errorf("radix %d, slot %d, %+v: %v, not %v", radix, i, c, got, want)
				}
				if x, e := s.Take(at); x != c || e != api.OK {
					t.Errorf("radix %d, slot %d, %+v: taken %+v, %v", radix, i, c, x, e)
				}
				if first, again := s.Drop(5), s.Drop(5); first != api.OK || again != api.ErrNone {
					t.Errorf("radix %d, slot %d, %+v: dropped %v, again %v", radix, i, c, first, again)
				}
			}
		}
	}
}

// A full node goes when its last slot has become empty, and not before.
func TestDropAfterTheLast(t *testing.T) {
	for radix, length := range lengths {
		b := fresh(t)
		b.add(5, radix)
		b.add(6, radix)
		for i := range length {
			b.put(sl(5, i), kinds()[i%11])
			b.put(sl(6, i), kinds()[i%11])
		}
		for i := range length {
			b.drop(5)
			b.take(sl(5, i))
		}
		if b.m.radix[5] != radix {
			t.Fatalf("radix %d: dropped too early", radix)
		}
		b.same("a node that is empty again")
		b.drop(5)
		if b.m.radix[5] != 0 {
			t.Fatalf("radix %d: not dropped", radix)
		}
		b.same("dropped beside a full one")
	}
}

func TestDropAndAddAgain(t *testing.T) {
	for _, id := range []int{0, 31, 63} {
		for first, length := range lengths {
			for second := range lengths {
				b := some(t)
				if b.m.radix[id] != 0 {
					b = fresh(t)
				}
				b.add(id, first)
				b.put(sl(id, length-1), kinds()[7])
				b.take(sl(id, length-1))
				b.drop(id)
				wantSlots(t, b.s, b.m, "dropped")
				b.put(sl(id, 0), kinds()[0])
				b.take(sl(id, 0))
				b.add(id, second)
				wantSlots(t, b.s, b.m, "added again")
				for i := range lengths[second] + 1 {
					b.put(sl(id, i), kinds()[i%11])
				}
				wantSlots(t, b.s, b.m, "filled again")
			}
		}
	}
}

// 7.2

func TestPutGetTake(t *testing.T) {
	for _, id := range []int{0, 1, 32, 63} {
		for radix, length := range lengths {
			for i := range length {
				b := fresh(t)
				b.add(id, radix)
				for _, c := range append(kinds(), plain()...) {
					at := sl(id, i)
					if e := b.s.Put(at, c); e != api.OK {
						t.Errorf("Put(%v, %+v): %v", at, c, e)
					}
					for range 2 {
						if x, e := b.s.Get(at); x != c || e != api.OK {
							t.Errorf("Get(%v): %+v, %v; not %+v", at, x, e, c)
						}
					}
					if x, e := b.s.Take(at); x != c || e != api.OK {
						t.Errorf("Take(%v): %+v, %v; not %+v", at, x, e, c)
					}
					if x, e := b.s.Get(at); x != (api.Cap{}) || e != api.OK {
						t.Errorf("Get(%v), taken: %+v, %v", at, x, e)
					}
					if x, e := b.s.Take(at); x != (api.Cap{}) || e != api.ErrNone {
						t.Errorf("Take(%v), taken: %+v, %v", at, x, e)
					}
				}
				wantSlots(t, b.s, b.m, "all taken")
			}
		}
	}
}

// noSlots are slots that the store does not have: of nodes that are there, and of others.
func (b both) noSlots() []api.Slot {
	var l []api.Slot
	places := append(noPlaces(16), 0, 1, 7, 15)
	for _, id := range noIds() {
		for _, i := range places {
			l = append(l, sl(id, i))
		}
	}
	for id := range 64 {
		for _, i := range places {
			if b.m.radix[id] == 0 {
				l = append(l, sl(id, i))
			}
		}
		if r := b.m.radix[id]; r != 0 {
			for _, i := range noPlaces(lengths[r]) {
				l = append(l, sl(id, i))
			}
		}
	}
	return l
}

// Where there is no slot that is told first, whatever is put.
func TestNoSuchSlot(t *testing.T) {
	caps := append(kinds(), api.Cap{})
	for c := range wrongCaps() {
		caps = append(caps, c)
	}
	for _, b := range []both{fresh(t), some(t)} {
		for _, at := range b.noSlots() {
			if c, e := b.s.Get(at); c != (api.Cap{}) || e != api.ErrLookup {
				t.Errorf("Get(%v): %+v, %v", at, c, e)
			}
			if c, e := b.s.Take(at); c != (api.Cap{}) || e != api.ErrLookup {
				t.Errorf("Take(%v): %+v, %v", at, c, e)
			}
			for _, c := range caps {
				if e := b.s.Put(at, c); e != api.ErrLookup {
					t.Errorf("Put(%v, %+v): %v", at, c, e)
				}
			}
		}
		b.same("slots that there are not")
	}
}

// What is wrong with a capability is told ahead of what is in the slot; so is
// that it is a Null.
func TestPutRefused(t *testing.T) {
	b := some(t)
	refused := func(at api.Slot, c api.Cap, want api.Errno) {
		t.Helper()
		if e := b.s.Put(at, c); e != want {
			t.Errorf("Put(%v, %+v): %v, not %v", at, c, e, want)
		}
	}
	for id, radix := range b.m.radix {
		for i := range lengths[radix] {
			for c, want := range wrongCaps() {
				refused(sl(id, i), c, want)
			}
			refused(sl(id, i), api.Cap{}, api.ErrNone)
		}
	}
	b.same("what is not right, and Nulls")
	for at, there := range b.m.caps {
		for _, c := range append(kinds(), there) {
			refused(at, c, api.ErrTwice)
		}
	}
	b.same("slots that are not empty")
}

func TestTakeOfEmptyOnes(t *testing.T) {
	b := some(t)
	for id, radix := range b.m.radix {
		for i := range lengths[radix] {
			if _, full := b.m.caps[sl(id, i)]; full {
				continue
			}
			if c, e := b.s.Take(sl(id, i)); c != (api.Cap{}) || e != api.ErrNone {
				t.Errorf("Take(%d, %d), empty: %+v, %v", id, i, c, e)
			}
		}
	}
	b.same("takes of empty slots")
}

// Each slot of several full nodes tells where it is, so that none stands for another one.
func TestSlotsAreApart(t *testing.T) {
	b := fresh(t)
	for _, id := range []int{0, 1, 2, 3, 16, 62, 63} {
		b.add(id, 1+id%4)
	}
	for id, radix := range b.m.radix {
		for i := range lengths[radix] {
			b.put(sl(id, i), api.Cap{Kind: api.Notice, Object: id, Badge: uint64(100 + i)})
		}
	}
	b.same("each slot full")
	for id, radix := range b.m.radix {
		b.take(sl(id, lengths[radix]-1))
		wantSlots(t, b.s, b.m, "a last slot taken")
		b.take(sl(id, 0))
		wantSlots(t, b.s, b.m, "a first slot taken")
	}
	b.same("firsts and lasts taken")
}

// 7.3

func TestCount(t *testing.T) {
	s := New()
	if a, b := s.Add(2, 4), s.Add(40, 1); a != api.OK || b != api.OK {
		t.Fatalf("Add: %v, %v", a, b)
	}
	for at, c := range map[api.Slot]api.Cap{
		sl(2, 0):  {Kind: api.Endpoint, Object: 5},
		sl(2, 1):  {Kind: api.Endpoint, Object: 5, Rights: 3},
		sl(2, 2):  {Kind: api.Endpoint, Object: 5, Rights: 3, Badge: 7},
		sl(40, 1): {Kind: api.Endpoint, Object: 5},
		sl(2, 3):  {Kind: api.Endpoint, Object: 6},
		sl(2, 4):  {Kind: api.Endpoint},
		sl(2, 5):  {Kind: api.Notice, Object: 5},
		sl(2, 6):  {Kind: api.Node, Object: 2},
		sl(2, 7):  {Kind: api.Node, Object: 2, Guard: 1, Bits: 1},
		sl(2, 8):  {Kind: api.Node, Object: 40},
		sl(2, 15): {Kind: api.Control},
		sl(40, 0): {Kind: api.Reply, Object: 63},
	} {
		if e := s.Put(at, c); e != api.OK {
			t.Fatalf("Put(%v, %+v): %v", at, c, e)
		}
	}
	for _, c := range []struct{ kind, object, want int }{
		{api.Endpoint, 5, 4},
		{api.Endpoint, 6, 1},
		{api.Endpoint, 0, 1},
		{api.Endpoint, 7, 0},
		{api.Notice, 5, 1},
		{api.Notice, 6, 0},
		{api.Node, 2, 2},
		{api.Node, 40, 1},
		{api.Control, 0, 1},
		{api.Control, 1, 0},
		{api.Reply, 63, 1},
		{api.Frame, 5, 0},
		{api.Null, 0, 0}, // though six slots are empty
		{api.Null, 5, 0},
		{-1, 5, 0},
		{12, 5, 0},
		{api.Endpoint, -1, 0},
		{api.Endpoint, 64, 0},
		{api.Endpoint, math.MaxInt, 0},
		{math.MinInt, math.MinInt, 0},
	} {
		if n := s.Count(c.kind, c.object); n != c.want {
			t.Errorf("Count(%d, %d): %d, not %d", c.kind, c.object, n, c.want)
		}
	}
}

// All there can be of one object: sixteen slots in each of 64 nodes.
func TestCountOfAllSlots(t *testing.T) {
	b := fresh(t)
	c := api.Cap{Kind: api.Frame, Object: 63, Rights: 1}
	for id := range 64 {
		b.add(id, 4)
		for i := range 16 {
			b.put(sl(id, i), c)
		}
		if n := b.s.Count(api.Frame, 63); n != 16*(id+1) {
			t.Errorf("%d full nodes: Count %d", id+1, n)
		}
	}
	if n := len(b.s.Full()); n != 1024 {
		t.Errorf("Full: %d slots", n)
	}
	wantSlots(t, b.s, b.m, "all slots full")
}

// Full hangs on ids and numbers, not on the order in which nodes and capabilities came.
func TestFullIsSorted(t *testing.T) {
	want := []api.Slot{sl(0, 0), sl(0, 1), sl(9, 1), sl(9, 3), sl(10, 0), sl(33, 7), sl(62, 2), sl(63, 0), sl(63, 15)}
	radix := map[int]int{0: 1, 9: 2, 10: 4, 33: 3, 40: 4, 62: 2, 63: 4}
	ids := slices.Sorted(maps.Keys(radix))
	for turn := range 2 * len(ids) {
		s := New()
		for i := range ids {
			id := ids[(i*3+turn)%len(ids)]
			if e := s.Add(id, radix[id]); e != api.OK {
				t.Fatalf("Add(%d): %v", id, e)
			}
		}
		for i := range want {
			at := want[(i*(1+turn%2*3)+turn)%len(want)]
			if e := s.Put(at, kinds()[i]); e != api.OK {
				t.Fatalf("Put(%v): %v", at, e)
			}
		}
		for range 3 {
			if l := s.Full(); !slices.Equal(l, want) {
				t.Errorf("turn %d: Full: %v", turn, l)
			}
		}
	}
}

// What Full hands out is the caller's alone, the spare room behind its end, too.
func TestFullIsNewMemory(t *testing.T) {
	b := some(t)
	first, second := b.s.Full(), b.s.Full()
	for i := range first {
		first[i] = sl(-7, -7)
	}
	_ = append(first[:0:cap(first)], make([]api.Slot, cap(first))...)
	if !slices.Equal(second, b.m.full()) {
		t.Errorf("an answer changed with another one: %v", second)
	}
	b.same("an answer was written over")
}

// 7.4

// draws hands out numbers below n that look like chance, and are always the same.
func draws(seed uint64) func(n int) int {
	return func(n int) int {
		seed = seed*6364136223846793005 + 1442695040888963407
		return int(seed >> 33 % uint64(n))
	}
}

// A long walk of calls, right and wrong, on few nodes (so that they meet) or on many.
func TestWalk(t *testing.T) {
	wrongs := slices.SortedFunc(maps.Keys(wrongCaps()), func(a, b api.Cap) int {
		return cmp.Or(cmp.Compare(a.Kind, b.Kind), cmp.Compare(a.Object, b.Object), cmp.Compare(a.Rights, b.Rights),
			cmp.Compare(a.Badge, b.Badge), cmp.Compare(a.Guard, b.Guard), cmp.Compare(a.Bits, b.Bits))
	})
	for seed, ids := range []int{1, 2, 5, 20, 64} {
		b, draw := fresh(t), draws(uint64(seed+1))
		place := func() api.Slot { return sl(63-draw(ids), draw(18)-1) }
		for step := range 4000 {
			switch draw(12) {
			case 0:
				b.add(63-draw(ids), 1+draw(4))
			case 1:
				b.add(63-draw(ids+2)+1, draw(7)-1)
			case 2:
				b.drop(63 - draw(ids))
			case 3, 4, 5, 6:
				b.put(place(), kinds()[draw(11)])
			case 7:
				b.put(place(), wrongs[draw(len(wrongs))])
			case 8:
				b.put(place(), api.Cap{})
			default:
				b.take(place())
			}
			if step%8 == 0 {
				wantSlots(t, b.s, b.m, "a walk")
			}
			if step%400 == 0 {
				wantCounts(t, b.s, b.m, "a walk")
			}
		}
		b.same("the end of a walk")
	}
}

// What was put is there whatever goes on in the other slots, until it is taken.
func TestStaysUntilTaken(t *testing.T) {
	b := fresh(t)
	b.add(30, 4)
	b.add(31, 4)
	kept, c := sl(30, 6), kinds()[4]
	b.put(kept, c)
	for i := range 16 {
		for _, at := range []api.Slot{sl(30, i), sl(31, i)} {
			if at == kept {
				continue
			}
			b.put(at, kinds()[i%11])
			b.drop(30)
			b.take(at)
			if x, e := b.s.Get(kept); x != c || e != api.OK {
				t.Errorf("beside %v: %+v, %v", at, x, e)
			}
		}
	}
	b.drop(31)
	b.add(30, 1)
	b.take(kept)
	b.take(kept)
	b.drop(30)
	b.same("taken, and dropped")
}
