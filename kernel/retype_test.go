package kernel

import (
	"testing"

	"donjon/api"
)

// maker is a world with a thread 5, and an Untyped 10 of 2^bits words at the
// address 3.
func maker(t *testing.T, bits int) *world {
	t.Helper()
	w := newWorld(t)
	w.thread(5)
	w.make(10, api.Untyped, bits, 3)
	return w
}

// makes are the registers of the method 1 of the Untyped at the address 3.
func makes(kind, size, count, to uint64) regs {
	return regs{0: 1, 1: kind, 2: size, 3: count, 4: to, 7: 3}
}

// 24.5: Untyped

func TestRetypeEachKind(t *testing.T) {
	for _, kind := range kinds {
		size, bits := sizeOf(kind)
		w := maker(t, 7)
		at := w.object(10).Span.At
		for a := range 128 {
			w.ok(w.k.Poke(at+a, uint64(a+1)))
		}
		w.invoke(5, api.OK, makes(uint64(kind), uint64(size), 3, 6))
		// The least numbers that are free are 3, 4 and 6.
		for i, n := range []int{3, 4, 6} {
			want := Object{Kind: kind, Span: api.Span{At: at + i<<bits, Bits: bits}, Space: -1}
			if got := w.object(n); got != want {
				t.Errorf("object %d: %+v, not %+v", n, got, want)
			}
			w.cap(6+i, full(kind, n))
		}
		w.empty(5, 9)
		want := Object{Kind: api.Untyped, Span: api.Span{At: at, Bits: 7}, Used: 3 << bits, Space: -1}
		if got := w.object(10); got != want {
			t.Errorf("the Untyped: %+v, not %+v", got, want)
		}
		for a := range 128 {
			zero := kind != api.Untyped && a < 3<<bits
			if zero {
				w.word(at+a, 0)
			} else {
				w.word(at+a, uint64(a+1))
			}
		}
		// All of them come of the Untyped's slot.
		w.until(5, api.OK, regs{0: 6, 1: 3, 2: 0, 3: 0, 7: rootSlot})
		w.empty(6, 7, 8)
		w.gone(3, 4, 6)
	}
}

func TestRetypeANodesSlots(t *testing.T) {
	for radix := uint64(1); radix <= 4; radix++ {
		w := maker(t, 7)
		w.invoke(5, api.OK, makes(api.Node, radix, 1, 6))
		w.cap(6, api.Cap{Kind: api.Node, Object: 3})
		for at := range 17 {
			want := api.OK
			if at >= 1<<radix {
				want = api.ErrLookup
			}
			if _, e := w.k.Cap(api.Slot{Node: 3, At: at}); e != want {
				t.Errorf("radix %d, slot %d: error %d, not %d", radix, at, e, want)
			}
		}
	}
}

func TestRetypeBehindWhatIsUsed(t *testing.T) {
	w := maker(t, 6)
	at := w.object(10).Span.At
	w.invoke(5, api.OK, makes(api.Notice, 0, 1, 0))
	w.invoke(5, api.OK, makes(api.Frame, 0, 2, 1))
	w.invoke(5, api.OK, makes(api.Endpoint, 0, 1, 4)) // behind the Frames
	for n, want := range map[int]api.Span{3: {At: at, Bits: 1}, 4: {At: at + 16, Bits: 4}, 6: {At: at + 32, Bits: 4}, 7: {At: at + 48, Bits: 1}} {
		if got := w.object(n).Span; got != want {
			t.Errorf("object %d: %v, not %v", n, got, want)
		}
	}
	if got := w.object(10).Used; got != 50 {
		t.Errorf("used: %d", got)
	}
	w.forbids(5, api.ErrFull, makes(api.Frame, 0, 1, 5))
	w.invoke(5, api.OK, makes(api.Notice, 0, 7, 5)) // up to its end
	if got := w.object(10).Used; got != 64 {
		t.Errorf("used: %d", got)
	}
	w.forbids(5, api.ErrFull, makes(api.Notice, 0, 1, 12))
	w.forbids(5, api.ErrFull, makes(api.Untyped, 0, 1, 12))
}

// TestRetypeOnceNothingIsLeft: what was made of it, and is gone, counts no more.
func TestRetypeOnceNothingIsLeft(t *testing.T) {
	w := maker(t, 5)
	at := w.object(10).Span.At
	w.invoke(5, api.OK, makes(api.Frame, 0, 2, 5))
	w.forbids(5, api.ErrFull, makes(api.Frame, 0, 1, 7))
	w.invoke(5, api.OK, regs{0: 5, 1: 5, 2: 0, 3: 0, 7: rootSlot}) // Delete of one
	w.forbids(5, api.ErrFull, makes(api.Frame, 0, 1, 7))
	w.invoke(5, api.OK, regs{0: 5, 1: 6, 2: 0, 3: 0, 7: rootSlot})
	if got := w.object(10).Used; got != 32 {
		t.Errorf("used: %d", got) // it changes when something is made again
	}
	w.forbids(5, api.ErrFull, makes(api.Frame, 0, 3, 7))
	w.invoke(5, api.OK, makes(api.Notice, 0, 1, 7))
	if got := w.object(3).Span; got != (api.Span{At: at, Bits: 1}) {
		t.Errorf("the Notice: %v", got)
	}
	if got := w.object(10).Used; got != 2 {
		t.Errorf("used: %d", got)
	}
}

// TestRetypeWhileACopyIsLeft: of the slot come copies of what was made, too.
func TestRetypeWhileACopyIsLeft(t *testing.T) {
	w := maker(t, 4)
	w.invoke(5, api.OK, makes(api.Frame, 0, 1, 5))
	w.invoke(5, api.OK, regs{0: 1, 1: 5, 2: 6, 3: 7, 7: rootSlot}) // Copy of the Frame
	w.invoke(5, api.OK, regs{0: 5, 1: 5, 2: 0, 3: 0, 7: rootSlot}) // Delete of the first one
	w.forbids(5, api.ErrFull, makes(api.Frame, 0, 1, 7))
	w.invoke(5, api.OK, regs{0: 5, 1: 6, 2: 0, 3: 0, 7: rootSlot})
	w.invoke(5, api.OK, makes(api.Frame, 0, 1, 7))
}

// TestRetypeByAnotherSlot: of the other slot nothing comes, so that nothing
// counts as used; but objects are where new ones would be.
func TestRetypeByAnotherSlot(t *testing.T) {
	w := maker(t, 5)
	w.plant(2, full(api.Untyped, 10))
	w.invoke(5, api.OK, makes(api.Notice, 0, 1, 5))
	r := makes(api.Notice, 0, 1, 6)
	r[7] = 2
	w.forbids(5, api.ErrFull, r)
	r = makes(api.Untyped, 4, 1, 6) // around the Notice: it may
	r[7] = 2
	w.invoke(5, api.OK, r)
	if got := w.object(10).Used; got != 16 {
		t.Errorf("used: %d", got)
	}
}

func TestRetypeMany(t *testing.T) {
	w := maker(t, 8)
	at := w.object(10).Span.At
	// In all slots but the last one of a Node.
	w.create(63, api.Node, 4)
	w.create(6, api.Thread, 0)
	w.threadIn(6, api.Cap{Kind: api.Node, Object: 63, Bits: 12})
	w.ok(w.k.Plant(api.Slot{Node: 63, At: 15}, full(api.Untyped, 10)))
	r := makes(api.Frame, 0, 15, 0)
	r[7] = 15
	w.invoke(6, api.OK, r)
	free := []int{3, 4, 7, 8, 9, 11, 12, 13, 14, 15, 16, 17, 18, 19, 20}
	for i, n := range free {
		want := Object{Kind: api.Frame, Span: api.Span{At: at + 16*i, Bits: 4}, Space: -1}
		if got := w.object(n); got != want {
			t.Errorf("object %d: %+v, not %+v", n, got, want)
		}
		if c, _ := w.k.Cap(api.Slot{Node: 63, At: i}); c != full(api.Frame, n) {
			t.Errorf("slot %d: %+v", i, c)
		}
	}
	r = makes(api.Frame, 0, 1, 0)
	r[7] = 15
	w.forbids(6, api.ErrTwice, r)
}

// threadIn sets a thread that was created up with a root of its own, and a
// page for its code, and starts it.
func (w *world) threadIn(n int, root api.Cap) {
	w.t.Helper()
	page := len(w.code)
	s := w.create(firstCode+page, api.Frame, 0)
	w.ok(w.k.Map(firstCode+page, codeSpace, 16*page, false))
	w.code[n], w.page[n] = s.At, page
	w.ok(w.k.Setup(n, 0, 0, 16*page, root, codeSpace, [8]uint64{}))
	w.ok(w.k.Start(n))
}

// TestRetypeSixteen: as many as there may be at once.
func TestRetypeSixteen(t *testing.T) {
	w := maker(t, 8)
	w.create(63, api.Node, 4)
	w.create(6, api.Thread, 0)
	w.create(62, api.Node, 1)
	// The Untyped in slot 0, and the Node 63 behind slot 1: 11 and 4 bits more.
	w.ok(w.k.Plant(api.Slot{Node: 62, At: 0}, full(api.Untyped, 10)))
	w.ok(w.k.Plant(api.Slot{Node: 62, At: 1}, api.Cap{Kind: api.Node, Object: 63, Bits: 11}))
	w.threadIn(6, api.Cap{Kind: api.Node, Object: 62})
	r := makes(api.Frame, 0, 16, 0x8000)
	r[7] = 0
	w.invoke(6, api.OK, r)
	for i := range 16 {
		if c, _ := w.k.Cap(api.Slot{Node: 63, At: i}); c.Kind != api.Frame {
			t.Errorf("slot %d: %+v", i, c)
		}
	}
	if got := w.object(10).Used; got != 256 {
		t.Errorf("used: %d", got)
	}
}

func TestRetypeErrors(t *testing.T) {
	for _, c := range []struct {
		name                  string
		kind, size, count, to uint64
		want                  api.Errno
	}{
		{"kind 65536", 65536, 0, 1, 5, api.ErrRange},
		{"kind 65535", 65535, 0, 1, 5, api.ErrKind},
		{"kind far off", big, 0, 1, 5, api.ErrRange},
		{"size 65536", api.Frame, 65536, 1, 5, api.ErrRange},
		{"size 65535, which does not matter", api.Frame, 65535, 1, 5, api.OK},
		{"count 65536", api.Frame, 0, 65536, 5, api.ErrRange},
		{"count 65535", api.Frame, 0, 65535, 5, api.ErrRange},
		{"count far off", api.Frame, 0, 1 << 63, 5, api.ErrRange},
		{"no kind, and no number", 12, 0, 65536, 5, api.ErrRange},
		{"Null", api.Null, 0, 1, 5, api.ErrKind},
		{"Irq", api.Irq, 0, 1, 5, api.ErrKind},
		{"Control", api.Control, 0, 1, 5, api.ErrKind},
		{"Reply", api.Reply, 0, 1, 5, api.ErrKind},
		{"no kind, and no address", api.Irq, 0, 1, big, api.ErrKind},
		{"Node 0", api.Node, 0, 1, 5, api.ErrRange},
		{"Node 5", api.Node, 5, 1, 5, api.ErrRange},
		{"Untyped 17", api.Untyped, 17, 1, 5, api.ErrRange},
		{"count 0", api.Frame, 0, 0, 5, api.ErrRange},
		{"count 17", api.Notice, 0, 17, 5, api.ErrRange},
		{"more than there is room for", api.Frame, 0, 5, 5, api.ErrFull},
		{"a greater one", api.Untyped, 7, 1, 5, api.ErrFull},
		{"no room, and no address", api.Frame, 0, 5, big, api.ErrFull},
		{"no address", api.Frame, 0, 1, 65536, api.ErrRange},
		{"an address that leads nowhere", api.Frame, 0, 1, 1 << 15, api.ErrLookup},
		{"a slot that is not empty", api.Frame, 0, 1, 3, api.ErrTwice},
		{"the second slot is not empty", api.Frame, 0, 2, 14, api.ErrTwice},
		{"the third slot is not empty", api.Frame, 0, 3, 13, api.ErrTwice},
		{"just room ahead of it", api.Frame, 0, 2, 13, api.OK},
		{"all of it", api.Untyped, 6, 1, 5, api.OK},
		{"four in it", api.Frame, 0, 4, 5, api.OK},
		{"sixteen", api.Notice, 0, 16, 5, api.ErrTwice},
	} {
		w := maker(t, 6)
		r := makes(c.kind, c.size, c.count, c.to)
		if c.want != api.OK {
			w.t.Log(c.name)
			w.forbids(5, c.want, r)
			continue
		}
		w.invoke(5, c.want, r)
	}
}

// TestRetypeSlots: the slots are asked one by one.
func TestRetypeSlots(t *testing.T) {
	w := maker(t, 6)
	w.create(11, api.Node, 2)
	w.create(12, api.Thread, 0)
	w.threadIn(12, api.Cap{Kind: api.Node, Object: 11, Bits: 14})
	w.ok(w.k.Plant(api.Slot{Node: 11, At: 0}, full(api.Untyped, 10)))
	ask := func(count, to uint64) regs {
		r := makes(api.Notice, 0, count, to)
		r[7] = 0
		return r
	}
	w.forbids(12, api.ErrLookup, ask(4, 1))
	w.forbids(12, api.ErrLookup, ask(2, 3))
	w.forbids(12, api.ErrTwice, ask(5, 0)) // the first slot comes ahead of the fifth
	w.invoke(12, api.OK, ask(1, 2))
	w.forbids(12, api.ErrTwice, ask(4, 1))
	w.forbids(12, api.ErrLookup, ask(2, 3))
	w.invoke(12, api.OK, ask(1, 3))
	w.invoke(12, api.OK, ask(1, 1))
}

func TestRetypeMethods(t *testing.T) {
	w := maker(t, 6)
	for _, method := range []uint64{0, 2, 3, 7, 65536, 1 << 32, 1<<32 + 1, big} {
		r := makes(api.Frame, 0, 1, 5)
		r[0] = method
		w.forbids(5, api.ErrMethod, r)
		r[1] = big // that comes ahead of what is no number
		w.forbids(5, api.ErrMethod, r)
	}
}

// TestRetypeNumbers: there are 64, and a node whose object is gone keeps its own.
func TestRetypeNumbers(t *testing.T) {
	w := maker(t, 9)
	w.create(63, api.Node, 1)
	used := map[int]bool{}
	for n := range 64 {
		_, used[n] = w.k.Object(n)
	}
	free := 0
	for n := range 64 {
		if !used[n] {
			free++
		}
	}
	// Untypeds that lie on one another, so that there is room for all of them.
	for free > 3 {
		for n := range 64 {
			if !used[n] {
				w.ok(w.k.Create(n, api.Untyped, w.object(10).Span, 9))
				used[n] = true
				free--
				break
			}
		}
	}
	w.forbids(5, api.ErrFull, makes(api.Notice, 0, 4, 5))
	w.forbids(5, api.ErrTwice, makes(api.Notice, 0, 16, 3)) // the slots come first
	w.invoke(5, api.OK, makes(api.Notice, 0, 2, 5))
	w.forbids(5, api.ErrFull, makes(api.Notice, 0, 2, 8))
	w.invoke(5, api.OK, makes(api.Notice, 0, 1, 8))
	for n := range 64 {
		w.object(n)
	}
	w.forbids(5, api.ErrFull, makes(api.Notice, 0, 1, 9))
}

func TestRetypeAmongOthers(t *testing.T) {
	w := maker(t, 6)
	at := w.object(10).Span.At
	w.ok(w.k.Create(20, api.Frame, api.Span{At: at + 32, Bits: 4}, 0))
	w.ok(w.k.Create(21, api.Untyped, api.Span{At: at, Bits: 4}, 4))
	w.forbids(5, api.ErrFull, makes(api.Frame, 0, 3, 5)) // the third one is where a Frame is
	w.forbids(5, api.ErrFull, makes(api.Frame, 0, 4, 5)) // the fourth one would be beside it
	w.forbids(5, api.ErrFull, makes(api.Node, 4, 2, 5))  // nor in it
	w.invoke(5, api.OK, makes(api.Untyped, 5, 2, 5))     // but Untypeds may be around it
	w.until(5, api.OK, regs{0: 6, 1: 3, 2: 0, 3: 0, 7: rootSlot})
	w.forbids(5, api.ErrFull, makes(api.Node, 4, 1, 5)) // around an Untyped that is less
	w.invoke(5, api.OK, makes(api.Frame, 0, 2, 5))      // as great as the Untyped there
}

// TestRetypeWithin: Untypeds within Untypeds, each of its own slot.
func TestRetypeWithin(t *testing.T) {
	w := maker(t, 6)
	at := w.object(10).Span.At
	w.invoke(5, api.OK, makes(api.Untyped, 5, 2, 5)) // 3 and 4
	r := makes(api.Untyped, 4, 1, 7)
	r[7] = 6
	w.invoke(5, api.OK, r) // 6, in 4
	r = makes(api.Endpoint, 0, 2, 8)
	r[7] = 7
	w.invoke(5, api.OK, r) // 7 and 8, in 6
	r = makes(api.Thread, 0, 1, 10)
	r[7] = 6
	w.invoke(5, api.OK, r) // 9, in 4, behind 6
	for n, want := range map[int]Object{
		10: {Kind: api.Untyped, Span: api.Span{At: at, Bits: 6}, Used: 64, Space: -1},
		3:  {Kind: api.Untyped, Span: api.Span{At: at, Bits: 5}, Space: -1},
		4:  {Kind: api.Untyped, Span: api.Span{At: at + 32, Bits: 5}, Used: 32, Space: -1},
		6:  {Kind: api.Untyped, Span: api.Span{At: at + 32, Bits: 4}, Used: 4, Space: -1},
		7:  {Kind: api.Endpoint, Span: api.Span{At: at + 32, Bits: 1}, Space: -1},
		8:  {Kind: api.Endpoint, Span: api.Span{At: at + 34, Bits: 1}, Space: -1},
		9:  {Kind: api.Thread, Span: api.Span{At: at + 48, Bits: 4}, Space: -1},
	} {
		if got := w.object(n); got != want {
			t.Errorf("object %d: %+v, not %+v", n, got, want)
		}
	}
	w.until(5, api.OK, regs{0: 6, 1: 3, 2: 0, 3: 0, 7: rootSlot})
	w.gone(3, 4, 6, 7, 8, 9)
	w.empty(5, 6, 7, 8, 9, 10)
	w.invoke(5, api.OK, makes(api.Untyped, 6, 1, 5))
}

// TestRetypedAreNew: each of them is as Create makes it.
func TestRetypedAreNew(t *testing.T) {
	w := maker(t, 7)
	w.invoke(5, api.OK, makes(api.Thread, 0, 1, 5))
	w.invoke(5, api.OK, makes(api.Notice, 0, 1, 6))
	w.invoke(5, api.OK, makes(api.Endpoint, 0, 1, 7))
	w.invoke(5, api.OK, makes(api.Space, 0, 1, 8))
	w.invoke(5, api.OK, makes(api.Table, 0, 1, 9))
	w.invoke(5, api.OK, makes(api.Frame, 0, 1, 10))
	th := w.of(3)
	if th.Caller != -1 || th.State != 0 || th.Level != 0 || th.Domain != 0 || th.Pc != 0 {
		t.Errorf("%+v", th)
	}
	w.waiting(4, 0)
	w.waiting(6, 0)
	w.ok(w.k.Bind(4, 3))
	w.invoke(5, api.OK, regs{0: 1, 1: 8, 2: 0, 3: 1, 7: 9})
	w.invoke(5, api.OK, regs{0: 1, 1: 8, 2: 0, 3: 1, 7: 10})
	w.mapped(9, 7, 0)
	w.ok(w.k.Setup(3, 0, 0, 0, rootCap, 7, [8]uint64{}))
	w.call(5, NBSend, regs{0: 0, 7: 7})
	w.has(5, regs{0: 0})
}
