package kernel

import (
	"math"
	"slices"
	"testing"

	"donjon/api"
	"donjon/code"
	"donjon/msg"
	"donjon/sched"
	"donjon/thread"
)

// 24.1: Plant

func TestPlantEachKind(t *testing.T) {
	for _, n := range []int{3, 63} {
		for _, kind := range kinds {
			w := newWorld(t)
			size, _ := sizeOf(kind)
			w.create(n, kind, size)
			for _, other := range kinds {
				c, want := full(other, n), api.ErrNone
				if other == kind {
					want = api.OK
				}
				if e := w.k.Plant(api.Slot{At: other}, c); e != want {
					t.Errorf("of the kind %d, named as of %d: error %d, not %d", kind, other, e, want)
				}
			}
			w.cap(kind, full(kind, n))
			// And once more, in another slot: each comes of none.
			w.ok(w.k.Plant(api.Slot{At: 9}, full(kind, n)))
		}
	}
}

func TestPlantErrors(t *testing.T) {
	for _, c := range []struct {
		name string
		at   api.Slot
		c    api.Cap
		want api.Errno
	}{
		{"no such object", api.Slot{At: 1}, full(api.Frame, 9), api.ErrNone},
		{"no such object, and no slot", api.Slot{Node: 9}, full(api.Frame, 9), api.ErrNone},
		{"no such object, and not right", api.Slot{At: 1}, with(api.Frame, 9, 8, 0), api.ErrNone},
		{"object -1", api.Slot{At: 1}, api.Cap{Kind: api.Space, Object: -1}, api.ErrNone},
		{"object 64", api.Slot{At: 1}, api.Cap{Kind: api.Space, Object: 64}, api.ErrNone},
		{"object far off", api.Slot{At: 1}, api.Cap{Kind: api.Space, Object: math.MinInt}, api.ErrNone},
		{"line 8", api.Slot{At: 1}, api.Cap{Kind: api.Irq, Object: 8}, api.ErrNone},
		{"line 8, and no slot", api.Slot{At: 16}, api.Cap{Kind: api.Irq, Object: 8}, api.ErrNone},
		{"line 64", api.Slot{At: 1}, api.Cap{Kind: api.Irq, Object: 64}, api.ErrNone},
		{"line -1", api.Slot{At: 1}, api.Cap{Kind: api.Irq, Object: -1}, api.ErrField},
		{"no such slot", api.Slot{At: 16}, full(api.Space, codeSpace), api.ErrLookup},
		{"no such node", api.Slot{Node: 1}, full(api.Space, codeSpace), api.ErrLookup},
		{"no such slot, and not right", api.Slot{At: -1}, with(api.Space, codeSpace, 1, 0), api.ErrLookup},
		{"not right", api.Slot{At: 1}, with(api.Space, codeSpace, 1, 0), api.ErrField},
		{"not right, and not empty", api.Slot{At: rootSlot}, with(api.Space, codeSpace, 1, 0), api.ErrField},
		{"no kind", api.Slot{At: 1}, api.Cap{Kind: 12}, api.ErrKind},
		{"kind -1", api.Slot{At: 1}, api.Cap{Kind: -1}, api.ErrKind},
		{"a Null", api.Slot{At: 1}, api.Cap{}, api.ErrNone},
		{"a Null of an object", api.Slot{At: 1}, api.Cap{Object: 1}, api.ErrField},
		{"not empty", api.Slot{At: rootSlot}, full(api.Space, codeSpace), api.ErrTwice},
		{"a Control of an object", api.Slot{At: 1}, api.Cap{Kind: api.Control, Object: 1}, api.ErrField},
	} {
		w := newWorld(t)
		before := shot(w.k)
		if e := w.k.Plant(c.at, c.c); e != c.want {
			t.Errorf("%s: error %d, not %d", c.name, e, c.want)
		}
		w.sameBut(before)
	}
}

func TestPlantWhatIsNoObject(t *testing.T) {
	w := newWorld(t)
	for line := range api.Lines {
		w.cap(int(w.plant(line, api.Cap{Kind: api.Irq, Object: line})), api.Cap{Kind: api.Irq, Object: line})
	}
	w.plant(8, api.Cap{Kind: api.Control})
	w.plant(9, api.Cap{Kind: api.Reply, Object: 63})
}

func TestPlantComesOfNone(t *testing.T) {
	w := newWorld(t)
	w.thread(5)
	p := w.make(9, api.Endpoint, 0, 3)
	w.plant(4, full(api.Endpoint, 9))
	n := w.plant(5, rootCap)
	w.invoke(5, api.OK, regs{0: 6, 1: p, 2: 0, 3: 0, 7: n}) // Revoke: nothing comes of it
	w.cap(4, full(api.Endpoint, 9))
}

// 24.2: Setup and Start

func TestSetup(t *testing.T) {
	for _, c := range []struct{ level, domain, pc, space int }{
		{0, 0, 0, -1}, {7, 3, 4095, 1}, {3, 2, 17, 1}, {7, 0, 4095, -1},
	} {
		w := newWorld(t)
		w.create(9, api.Thread, 0)
		r := msg.Regs{1, 2, 3, math.MaxUint64, 5, 6, 7, 8}
		before := shot(w.k)
		w.ok(w.k.Setup(9, c.level, c.domain, c.pc, rootCap, c.space, r))
		want := thread.Thread{Caller: -1, Level: c.level, Domain: c.domain, Pc: c.pc, Regs: r}
		if got := w.of(9); got != want {
			t.Errorf("%+v, not %+v", got, want)
		}
		w.sameBut(before, "thread 9 ")
	}
}

func TestSetupErrors(t *testing.T) {
	noNode := api.Cap{Kind: api.Space, Object: 0}
	for _, c := range []struct {
		name                 string
		n, level, domain, pc int
		root                 api.Cap
		space                int
		want                 api.Errno
	}{
		{"no number", -1, 0, 0, 0, rootCap, 1, api.ErrNone},
		{"number 64", 64, 0, 0, 0, rootCap, 1, api.ErrNone},
		{"no object", 33, 0, 0, 0, rootCap, 1, api.ErrNone},
		{"no Thread", 1, 0, 0, 0, rootCap, 1, api.ErrNone},
		{"no Thread, and all else", 1, 8, 4, -1, noNode, 2, api.ErrNone},
		{"level 8", 9, 8, 0, 0, rootCap, 1, api.ErrRange},
		{"level -1", 9, -1, 0, 0, rootCap, 1, api.ErrRange},
		{"domain 4", 9, 0, 4, 0, rootCap, 1, api.ErrRange},
		{"domain -1", 9, 0, -1, 0, rootCap, 1, api.ErrRange},
		{"pc 4096", 9, 0, 0, 4096, rootCap, 1, api.ErrRange},
		{"pc -1", 9, 0, 0, -1, rootCap, 1, api.ErrRange},
		{"pc far off", 9, 0, 0, math.MaxInt, rootCap, 1, api.ErrRange},
		{"level 8 of one that is ready", 8, 8, 0, 0, rootCap, 1, api.ErrRange},
		{"pc 4096 of one that is ready", 8, 0, 0, 4096, rootCap, 1, api.ErrRange},
		{"ready", 8, 0, 0, 0, rootCap, 1, api.ErrState},
		{"ready, and no root", 8, 0, 0, 0, noNode, 1, api.ErrState},
		{"pc 4096, and no root", 9, 0, 0, 4096, noNode, 1, api.ErrRange},
		{"no root", 9, 0, 0, 0, api.Cap{}, 1, api.ErrKind},
		{"a root that is no Node's", 9, 0, 0, 0, full(api.Space, 1), 1, api.ErrKind},
		{"another kind's, of a Node's number", 9, 0, 0, 0, noNode, 1, api.ErrKind},
		{"a Node's, of another kind's number", 9, 0, 0, 0, api.Cap{Kind: api.Node, Object: 1}, 1, api.ErrKind},
		{"a Node's, of no object", 9, 0, 0, 0, api.Cap{Kind: api.Node, Object: 33}, 1, api.ErrKind},
		{"a Node's, of no number", 9, 0, 0, 0, api.Cap{Kind: api.Node, Object: 64}, 1, api.ErrKind},
		{"a space that is a Node", 9, 0, 0, 0, rootCap, 0, api.ErrKind},
		{"a space that is not there", 9, 0, 0, 0, rootCap, 33, api.ErrKind},
		{"space -2", 9, 0, 0, 0, rootCap, -2, api.ErrKind},
		{"space 64", 9, 0, 0, 0, rootCap, 64, api.ErrKind},
	} {
		w := newWorld(t)
		w.thread(8)
		w.idle(9, 3, 2)
		before := shot(w.k)
		if e := w.k.Setup(c.n, c.level, c.domain, c.pc, c.root, c.space, msg.Regs{7}); e != c.want {
			t.Errorf("%s: error %d, not %d", c.name, e, c.want)
		}
		w.sameBut(before)
	}
}

func TestSetupOfEachState(t *testing.T) {
	w := newWorld(t)
	states := w.inEachState()
	for state, n := range states {
		want := api.ErrState
		if state == thread.Inactive {
			want = api.OK
		}
		if e := w.k.Setup(n, 0, 0, 0, rootCap, 1, msg.Regs{}); e != want {
			t.Errorf("state %d: error %d, not %d", state, e, want)
		}
	}
}

// inEachState makes threads 20 to 25, one in each state: Inactive, Ready,
// Sending, Receiving, Asking, Waiting. 26 is the one that is asked, and ready.
func (w *world) inEachState() []int {
	w.t.Helper()
	w.idle(20, 0, 0)
	for n := 21; n <= 26; n++ {
		w.thread(n)
	}
	a, b := w.make(30, api.Endpoint, 0, 8), w.make(31, api.Endpoint, 0, 9)
	c, d := w.make(32, api.Endpoint, 0, 10), w.make(33, api.Notice, 0, 11)
	w.call(22, Send, regs{0: 0, 7: a})
	w.call(23, Recv, regs{7: b})
	w.call(26, Recv, regs{7: c})
	w.call(24, Call, regs{0: 0, 7: c})
	w.call(25, Wait, regs{7: d})
	list := []int{20, 21, 22, 23, 24, 25}
	for state, n := range list {
		if w.of(n).State != state {
			w.t.Fatalf("%d: %+v, not of the state %d", n, w.of(n), state)
		}
	}
	return list
}

func TestSetupRootAndSpaceAreUsed(t *testing.T) {
	w := newWorld(t)
	// Another Node, in whose slot 1 a Notice lies, reached by the guard 5 of 3 bits.
	w.create(10, api.Node, 2)
	w.create(11, api.Notice, 0)
	w.ok(w.k.Plant(api.Slot{Node: 10, At: 1}, with(api.Notice, 11, 2, 9)))
	w.ok(w.k.Plant(api.Slot{Node: 10, At: 2}, full(api.Node, 10)))
	// Another Space, with another page at the same address.
	w.create(12, api.Space, 0)
	w.create(13, api.Table, 0)
	page := w.create(14, api.Frame, 0)
	w.ok(w.k.Map(13, 12, 0, false))
	w.ok(w.k.Map(14, 12, 0, false))
	w.create(9, api.Thread, 0)
	// The guard 5, slot 1, and 11 bits more: a Notice does not lead on.
	address := uint64(5<<13 | 1<<11)
	w.ok(w.k.Setup(9, 0, 0, 3, api.Cap{Kind: api.Node, Object: 10, Guard: 5, Bits: 3}, 12, msg.Regs{7: address}))
	w.ok(w.k.Start(9))
	word, _ := code.Pack(code.Ins{Op: code.Sys, Imm: Signal})
	w.ok(w.k.Poke(page.At+3, word))
	if !w.k.Step() {
		t.Fatalf("it does not step")
	}
	if got := w.of(9); got.State != thread.Ready || got.Pc != 4 || got.Regs[0] != 0 {
		t.Errorf("%+v", got)
	}
	w.waiting(11, 9)
	// The same with another guard: nothing is found.
	w.create(15, api.Thread, 0)
	w.ok(w.k.Setup(15, 1, 0, 3, api.Cap{Kind: api.Node, Object: 10, Guard: 4, Bits: 3}, 12, msg.Regs{7: address}))
	w.ok(w.k.Start(15))
	w.k.Step()
	w.has(15, regs{0: uint64(api.ErrLookup)})
}

func TestSetupOnceMore(t *testing.T) {
	w := newWorld(t)
	w.thread(5)
	w.make(10, api.Notice, 0, 3)
	w.ok(w.k.Bind(10, 5))
	w.step(5, code.Ins{Op: code.Halt})
	w.state(5, thread.Inactive, 0)
	w.ok(w.k.Setup(5, 2, 1, 9, rootCap, -1, msg.Regs{1}))
	want := thread.Thread{Caller: -1, Level: 2, Domain: 1, Pc: 9, Regs: msg.Regs{1}}
	if got := w.of(5); got != want {
		t.Errorf("%+v, not %+v", got, want)
	}
	w.refuses(api.ErrTwice, func() api.Errno { return w.k.Bind(10, 5) }) // its notice stays
}

func TestStart(t *testing.T) {
	w := newWorld(t, sched.Time{Domain: 0, Ticks: 100}, sched.Time{Domain: 2, Ticks: 100})
	w.idle(5, 3, 0)
	w.idle(6, 3, 0)
	w.idle(7, 4, 0)
	w.idle(8, 0, 2)
	for _, n := range []int{-1, 64, 33, codeSpace, rootNode} {
		w.refuses(api.ErrNone, func() api.Errno { return w.k.Start(n) })
	}
	before := shot(w.k)
	w.ok(w.k.Start(8))
	want := w.of(8)
	w.sameBut(before, "thread 8 ")
	if want.State != thread.Ready || want.Domain != 2 {
		t.Errorf("%+v", want)
	}
	w.ok(w.k.Start(5))
	w.ok(w.k.Start(6))
	w.ready(5, 6, 5)
	w.ok(w.k.Start(7))
	w.ready(7, 7)
	w.refuses(api.ErrState, func() api.Errno { return w.k.Start(7) })
	w.turn(8)
	if w.k.Domain() != 2 {
		t.Errorf("domain %d", w.k.Domain())
	}
}

func TestStartOfEachState(t *testing.T) {
	w := newWorld(t)
	for state, n := range w.inEachState() {
		if state == thread.Inactive {
			w.ok(w.k.Start(n))
			continue
		}
		w.refuses(api.ErrState, func() api.Errno { return w.k.Start(n) })
	}
}

// 24.2: Map and Unmap

// mapped asks where an object is mapped; -1: nowhere.
func (w *world) mapped(n, space, at int) {
	w.t.Helper()
	o := w.object(n)
	if o.Mapped != (space != -1) || o.Space != space || o.At != at {
		w.t.Fatalf("object %d: %+v, not mapped into %d at %d", n, o, space, at)
	}
}

// frames lays Frames and Tables in: Space 10, Tables 11 and 12, Frames 13 to 16.
func (w *world) frames() (dir, table, frame int) {
	w.t.Helper()
	dir = w.create(10, api.Space, 0).At
	table = w.create(11, api.Table, 0).At
	w.create(12, api.Table, 0)
	frame = w.create(13, api.Frame, 0).At
	w.create(14, api.Frame, 0)
	w.create(15, api.Frame, 0)
	w.create(16, api.Frame, 0)
	return dir, table, frame
}

func TestMapWords(t *testing.T) {
	w := newWorld(t)
	dir, table, frame := w.frames()
	before := shot(w.k)
	w.ok(w.k.Map(11, 10, 517, true)) // a Table is never Write
	w.mapped(11, 10, 517)
	w.word(dir+2, uint64(table+1))
	w.ok(w.k.Map(13, 10, 565, true))
	w.mapped(13, 10, 565)
	w.word(table+3, uint64(frame+3))
	w.ok(w.k.Map(14, 10, 767, false))
	w.mapped(14, 10, 767)
	w.word(table+15, uint64(frame+16+1))
	w.ok(w.k.Unmap(14))
	w.mapped(14, -1, 0)
	w.word(table+15, 0)
	w.ok(w.k.Unmap(13))
	w.ok(w.k.Unmap(11))
	w.sameBut(before)
}

func TestMapErrors(t *testing.T) {
	for _, c := range []struct {
		name        string
		n, space, a int
		want        api.Errno
	}{
		{"no space", 13, 33, 0, api.ErrNone},
		{"space -1", 13, -1, 0, api.ErrNone},
		{"space 64", 13, 64, 0, api.ErrNone},
		{"a space that is a Table", 13, 11, 0, api.ErrNone},
		{"no object", 33, 10, 0, api.ErrNone},
		{"object -1", -1, 10, 0, api.ErrNone},
		{"object 64", 64, 10, 0, api.ErrNone},
		{"a Space", 10, 10, 0, api.ErrNone},
		{"a Node", rootNode, 10, 0, api.ErrNone},
		{"no object, and no address", 33, 10, -1, api.ErrNone},
		{"no space, of one that is mapped", 16, 33, 0, api.ErrNone},
		{"a Frame that is mapped", 16, 10, 300, api.ErrTwice},
		{"a Frame that is mapped there", 16, 10, 256, api.ErrTwice},
		{"a Frame that is mapped, and no address", 16, 10, 4096, api.ErrTwice},
		{"a Table that is mapped", 12, 10, 0, api.ErrTwice},
		{"a Frame at -1", 13, 10, -1, api.ErrRange},
		{"a Frame at 4096", 13, 10, 4096, api.ErrRange},
		{"a Frame far off", 13, 10, math.MaxInt, api.ErrRange},
		{"a Table at -1", 11, 10, -1, api.ErrRange},
		{"a Table at 4096", 11, 10, 4096, api.ErrRange},
		{"a Frame without a Table", 13, 10, 0, api.ErrFault},
		{"a Frame where one is", 13, 10, 271, api.ErrTwice},
		{"a Table where one is", 11, 10, 511, api.ErrTwice},
		{"a Frame beside one", 13, 10, 272, api.OK},
		{"a Table at the last place", 11, 10, 4095, api.OK},
		{"a Frame in another space", 13, codeSpace, 0, api.OK},
	} {
		w := newWorld(t)
		w.frames()
		w.ok(w.k.Map(12, 10, 256, false))
		w.ok(w.k.Map(16, 10, 256, false))
		before := shot(w.k)
		if e := w.k.Map(c.n, c.space, c.a, true); e != c.want {
			t.Errorf("%s: error %d, not %d", c.name, e, c.want)
		}
		if c.want != api.OK {
			w.sameBut(before)
		} else {
			w.mapped(c.n, c.space, c.a)
		}
	}
}

func TestUnmapErrors(t *testing.T) {
	w := newWorld(t)
	w.frames()
	for _, n := range []int{-1, 64, 33, 10, rootNode} {
		w.refuses(api.ErrNone, func() api.Errno { return w.k.Unmap(n) })
	}
	for _, n := range []int{11, 12, 13, 16} {
		w.refuses(api.ErrState, func() api.Errno { return w.k.Unmap(n) })
	}
	w.ok(w.k.Map(11, 10, 256, false))
	w.ok(w.k.Unmap(11))
	w.refuses(api.ErrState, func() api.Errno { return w.k.Unmap(11) })
}

func TestUnmapTableTakesItsFrames(t *testing.T) {
	w := newWorld(t)
	w.create(20, api.Space, 0)
	w.create(21, api.Table, 0)
	w.create(22, api.Frame, 0)
	w.ok(w.k.Map(21, 20, 256, false))
	w.ok(w.k.Map(22, 20, 256, false)) // the same place of another space
	dir, table, _ := w.frames()
	before := shot(w.k)
	w.ok(w.k.Map(12, 10, 512, false)) // the next table of this space
	w.ok(w.k.Map(16, 10, 512, true))
	with12 := shot(w.k)
	w.ok(w.k.Map(11, 10, 300, false))
	w.ok(w.k.Map(13, 10, 256, true))
	w.ok(w.k.Map(14, 10, 400, false))
	w.ok(w.k.Map(15, 10, 511, true))
	w.ok(w.k.Unmap(11))
	w.sameBut(with12) // 11, 13, 14 and 15 are mapped nowhere, and their words are 0
	for _, n := range []int{11, 13, 14, 15} {
		w.mapped(n, -1, 0)
	}
	w.word(dir+1, 0)
	for at := range 16 {
		w.word(table+at, 0)
	}
	w.ok(w.k.Unmap(12))
	w.sameBut(before)
	w.mapped(22, 20, 256)
}

// TestUnmapWhatWasPokedAway: what is mapped is so no longer, also where the
// tables' words are not what they were.
func TestUnmapWhatWasPokedAway(t *testing.T) {
	w := newWorld(t)
	dir, table, _ := w.frames()
	w.ok(w.k.Map(11, 10, 0, false))
	w.ok(w.k.Map(13, 10, 0, true))
	w.ok(w.k.Map(14, 10, 16, true))
	w.ok(w.k.Poke(table, 0))
	w.ok(w.k.Unmap(13))
	w.mapped(13, -1, 0)
	w.ok(w.k.Poke(dir, 2))
	w.ok(w.k.Unmap(14))
	w.mapped(14, -1, 0)
	w.ok(w.k.Poke(dir, 0))
	w.ok(w.k.Unmap(11))
	w.mapped(11, -1, 0)
}

// reads lets a thread read an address into its register 1; whether it could.
func (w *world) reads(n, a int) bool {
	w.t.Helper()
	w.set(n, 2, uint64(a))
	w.step(n, code.Ins{Op: code.Load, A: 1, B: 2})
	if w.of(n).State == thread.Inactive {
		w.again(n)
		return false
	}
	return true
}

// writes lets a thread write its register 1 to an address; whether it could.
func (w *world) writes(n, a int) bool {
	w.t.Helper()
	w.set(n, 2, uint64(a))
	w.step(n, code.Ins{Op: code.Store, A: 1, B: 2})
	if w.of(n).State == thread.Inactive {
		w.again(n)
		return false
	}
	return true
}

// TestUnmapIsSeenAtOnce: what was walked to is not used any more (24.2: the
// tlb drops the page, or is flushed of the space).
func TestUnmapIsSeenAtOnce(t *testing.T) {
	w := newWorld(t)
	w.thread(5)
	w.frames()
	w.ok(w.k.Map(13, codeSpace, 0xf0, true))
	w.ok(w.k.Map(11, codeSpace, 0x100, true))
	w.ok(w.k.Map(14, codeSpace, 0x100, true))
	w.ok(w.k.Map(15, codeSpace, 0x110, true))
	for _, a := range []int{0xf0, 0x100, 0x110} {
		if !w.reads(5, a) || !w.writes(5, a) {
			t.Fatalf("%d is not there", a)
		}
	}
	w.ok(w.k.Unmap(13))
	if w.reads(5, 0xf0) {
		t.Errorf("a Frame is there when it is unmapped")
	}
	if !w.reads(5, 0x100) {
		t.Errorf("another one is not")
	}
	w.ok(w.k.Unmap(11))
	if w.reads(5, 0x100) || w.reads(5, 0x110) {
		t.Errorf("Frames are there when their Table is unmapped")
	}
	// Another one in its place is what is there then.
	w.ok(w.k.Map(16, codeSpace, 0xf0, false))
	w.ok(w.k.Poke(w.object(16).Span.At+5, 77))
	if !w.reads(5, 0xf5) || w.of(5).Regs[1] != 77 {
		t.Errorf("read %d", w.of(5).Regs[1])
	}
	if w.writes(5, 0xf5) {
		t.Errorf("written where it may not be")
	}
}

// TestTlbIsUsed: an entry that was walked to is used until its page is
// dropped, or its space flushed, even where somebody poked into the tables.
func TestTlbIsUsed(t *testing.T) {
	w := newWorld(t)
	w.thread(5)
	w.frames()
	w.ok(w.k.Map(13, codeSpace, 0xf0, false))
	w.ok(w.k.Map(14, codeSpace, 0xe0, false))
	w.ok(w.k.Poke(w.object(13).Span.At, 71))
	w.ok(w.k.Poke(w.object(14).Span.At, 72))
	table := w.object(codeTable).Span.At
	if !w.reads(5, 0xf0) {
		t.Fatalf("not there")
	}
	w.ok(w.k.Poke(table+15, uint64(w.object(14).Span.At+1)))
	if !w.reads(5, 0xf0) || w.of(5).Regs[1] != 71 {
		t.Errorf("read %d: it was walked to once more", w.of(5).Regs[1])
	}
	// Another page is dropped, another table, and another space flushed: it is kept.
	w.reads(5, 0xe0)
	w.ok(w.k.Unmap(14))
	w.ok(w.k.Map(11, 10, 0, false))
	w.ok(w.k.Map(15, 10, 0xf0, false))
	w.ok(w.k.Unmap(15))
	w.ok(w.k.Unmap(11))
	if !w.reads(5, 0xf0) || w.of(5).Regs[1] != 71 {
		t.Errorf("read %d: too much was dropped", w.of(5).Regs[1])
	}
	// A Table of the space: all of it is flushed.
	w.ok(w.k.Map(11, codeSpace, 0x100, false))
	if !w.reads(5, 0xf0) || w.of(5).Regs[1] != 71 {
		t.Errorf("read %d: Map dropped something", w.of(5).Regs[1])
	}
	w.ok(w.k.Unmap(11))
	if !w.reads(5, 0xf0) || w.of(5).Regs[1] != 72 {
		t.Errorf("read %d: it was not flushed", w.of(5).Regs[1])
	}
}

// 24.2: Bind, Wire and Poke

func TestBind(t *testing.T) {
	w := newWorld(t)
	w.thread(5)
	w.thread(6)
	w.create(10, api.Notice, 0)
	w.create(11, api.Notice, 0)
	for _, c := range [][2]int{{-1, 5}, {64, 5}, {33, 5}, {5, 5}, {10, -1}, {10, 64}, {10, 33}, {10, 11}, {codeSpace, codeSpace}} {
		w.refuses(api.ErrNone, func() api.Errno { return w.k.Bind(c[0], c[1]) })
	}
	w.ok(w.k.Bind(10, 5))
	w.refuses(api.ErrTwice, func() api.Errno { return w.k.Bind(11, 5) }) // the thread has one
	w.refuses(api.ErrTwice, func() api.Errno { return w.k.Bind(10, 5) })
	w.refuses(api.ErrTwice, func() api.Errno { return w.k.Bind(10, 6) }) // the notice has one
	w.refuses(api.ErrNone, func() api.Errno { return w.k.Bind(33, 5) })
	w.ok(w.k.Bind(11, 6)) // nothing was changed by what was refused
}

func TestWireErrors(t *testing.T) {
	for _, c := range []struct {
		name                 string
		line, domain, notice int
		badge                uint64
		want                 api.Errno
	}{
		{"no notice", 2, 0, 33, 1, api.ErrNone},
		{"notice -1", 2, 0, -1, 1, api.ErrNone},
		{"notice 64", 2, 0, 64, 1, api.ErrNone},
		{"a notice that is a Node", 2, 0, rootNode, 1, api.ErrNone},
		{"no notice, and all else", 8, 4, 33, 1 << 28, api.ErrNone},
		{"badge 2^28", 2, 0, 10, 1 << 28, api.ErrField},
		{"badge 2^63", 2, 0, 10, 1 << 63, api.ErrField},
		{"badge 2^64 - 1", 2, 0, 10, math.MaxUint64, api.ErrField},
		{"badge 2^28, and no line", 8, 4, 10, 1 << 28, api.ErrField},
		{"line 8", 8, 0, 10, 1, api.ErrRange},
		{"line -1", -1, 0, 10, 1, api.ErrRange},
		{"line far off", math.MinInt, 0, 10, 1, api.ErrRange},
		{"domain 4", 2, 4, 10, 1, api.ErrRange},
		{"domain -1", 2, -1, 10, 1, api.ErrRange},
		{"a line that is wired", 1, 0, 10, 1, api.ErrTwice},
		{"line 0, badge 0", 0, 3, 10, 0, api.OK},
		{"line 7, badge 2^28 - 1", 7, 0, 10, 1<<28 - 1, api.OK},
	} {
		w := newWorld(t)
		w.create(10, api.Notice, 0)
		w.create(11, api.Notice, 0)
		w.ok(w.k.Wire(1, 0, 11, 5))
		before := shot(w.k)
		if e := w.k.Wire(c.line, c.domain, c.notice, c.badge); e != c.want {
			t.Errorf("%s: error %d, not %d", c.name, e, c.want)
		}
		if c.want != api.OK {
			w.sameBut(before)
		} else if _, masked := w.k.Pending(); masked != 255-2-1<<c.line {
			t.Errorf("%s: masked %d", c.name, masked)
		}
		// What was wired already leads where it did.
		w.ok(w.k.Raise(1))
		w.waiting(11, 5)
	}
}

func TestWireLeads(t *testing.T) {
	for line := range api.Lines {
		w := newWorld(t)
		w.create(10, api.Notice, 0)
		w.create(11, api.Notice, 0)
		badge := uint64(1<<27 + line)
		w.ok(w.k.Wire(line, 0, 10, badge))
		for other := range api.Lines {
			w.ok(w.k.Raise(other))
		}
		w.waiting(10, badge)
		w.waiting(11, 0)
		if pending, masked := w.k.Pending(); pending != 255-1<<line || masked != 255 {
			t.Errorf("line %d: pending %d, masked %d", line, pending, masked)
		}
	}
}

func TestPoke(t *testing.T) {
	w := newWorld(t)
	for _, a := range []int{-1, 4096, math.MaxInt, math.MinInt} {
		w.refuses(api.ErrRange, func() api.Errno { return w.k.Poke(a, 7) })
	}
	before, _ := w.k.Words(0, 4096)
	for _, a := range []int{0, 4095, 100} {
		w.ok(w.k.Poke(a, math.MaxUint64))
		before[a] = math.MaxUint64
	}
	if now, _ := w.k.Words(0, 4096); !slices.Equal(now, before) {
		t.Errorf("other words were changed")
	}
}
