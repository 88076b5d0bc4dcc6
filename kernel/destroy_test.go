package kernel

import (
	"testing"

	"donjon/api"
	"donjon/code"
	"donjon/msg"
	"donjon/thread"
)

// deletes lets a thread delete what is in a slot of the Node 0.
func (w *world) deletes(n, at int) {
	w.t.Helper()
	w.until(n, api.OK, regs{0: 5, 1: uint64(at), 2: 0, 3: 0, 7: rootSlot})
	w.empty(at)
}

// revokes lets a thread revoke what comes of a slot of the Node 0.
func (w *world) revokes(n, at int) {
	w.t.Helper()
	w.until(n, api.OK, regs{0: 6, 1: uint64(at), 2: 0, 3: 0, 7: rootSlot})
}

// Words: objects are destroyed

func TestDestroyedWithTheLastCapability(t *testing.T) {
	for _, kind := range kinds {
		w := newWorld(t)
		w.thread(5)
		size, _ := sizeOf(kind)
		w.make(10, kind, size, 3)
		w.plant(4, full(kind, 10))
		s := w.object(10).Span
		w.deletes(5, 3)
		w.object(10)
		w.ok(w.k.Poke(s.At, 77))
		w.deletes(5, 4)
		w.gone(10)
		w.word(s.At, 77)
		if _, ok := w.k.Thread(10); ok {
			t.Errorf("a thread is there still")
		}
		w.waiting(10, 0)
		w.refuses(api.ErrNone, func() api.Errno { return w.k.Plant(api.Slot{At: 4}, full(kind, 10)) })
		// Its number, and its place, may be another one's.
		w.ok(w.k.Create(10, api.Notice, api.Span{At: s.At, Bits: 1}, 0))
		w.word(s.At, 0)
	}
}

// TestNotDestroyedByRevoke: the one whose copies are taken away stays.
func TestNotDestroyedByRevoke(t *testing.T) {
	w := carrier(t)
	w.invoke(5, api.OK, regs{0: 1, 1: 3, 2: 8, 3: 7, 7: rootSlot})
	w.revokes(5, 3)
	w.empty(8)
	w.object(10)
}

// TestNotDestroyedWithoutACapability: what never had one stays.
func TestNotDestroyedWithoutACapability(t *testing.T) {
	w := carrier(t)
	w.create(20, api.Frame, 0)
	w.deletes(5, 3)
	w.gone(10)
	w.object(20)
}

func TestThreadIsDestroyed(t *testing.T) {
	for state := range 6 {
		w := newWorld(t)
		n := w.inEachState()[state]
		w.create(34, api.Notice, 0)
		w.ok(w.k.Bind(34, n))
		w.plant(3, full(api.Thread, n))
		w.deletes(26, 3)
		w.gone(n)
		if _, ok := w.k.Thread(n); ok {
			t.Errorf("state %d: it is there still", state)
		}
		// It waits nowhere.
		for i, at := range []int{30, 31, 33} {
			if state == []int{thread.Sending, thread.Receiving, thread.Waiting}[i] {
				w.waiting(at, 0)
			}
		}
		if state == thread.Asking {
			w.caller(26, -1)
		}
		// It is not ready.
		if state == thread.Ready {
			w.ready(26, 26)
		} else {
			w.ready(26, 21)
		}
		// Nobody is bound to its notice: another thread may be, and is woken.
		w.ok(w.k.Bind(34, 26))
		// And a new one of its number is nowhere, either.
		w.create(n, api.Thread, 0)
		fresh, _ := thread.New(0, 0)
		if got := w.of(n); got != fresh {
			t.Errorf("%+v, not %+v", got, fresh)
		}
		w.create(35, api.Notice, 0)
		w.ok(w.k.Bind(35, n))
	}
}

func TestThreadIsDestroyedThatIsAsked(t *testing.T) {
	w := called(t)
	w.thread(7)
	w.plant(4, full(api.Thread, 6))
	w.deletes(7, 4)
	w.gone(6)
	w.holds(5, uint64(api.ErrState), 11, 12, 0, 0, 15, 0, 3)
	w.state(5, thread.Ready, 0)
	w.ready(7, 5)
}

// TestThreadDestroysItself: nothing is told to it, as it is no more.
func TestThreadDestroysItself(t *testing.T) {
	w := called(t)
	w.plant(4, full(api.Thread, 6))
	w.call(6, Invoke, regs{0: 5, 1: 4, 2: 0, 3: 0, 7: rootSlot})
	w.gone(6)
	w.empty(4)
	w.has(5, regs{0: uint64(api.ErrState)})
	w.ready(5)
}

// TestThreadDestroysItselfOnTheWay: nobody goes on with what it began.
func TestThreadDestroysItselfOnTheWay(t *testing.T) {
	w := newWorld(t)
	w.thread(5)
	w.make(10, api.Untyped, 6, 3)
	w.thread(7)
	// Of the Untyped come ten objects, and the last one of these, which goes
	// first, is the thread that is to be the one that revokes.
	w.invoke(7, api.OK, regs{0: 1, 1: api.Notice, 2: 0, 3: 9, 4: 4, 7: 3})
	w.invoke(7, api.OK, regs{0: 1, 1: api.Thread, 2: 0, 3: 1, 4: 13, 7: 3})
	made, _ := w.k.Cap(api.Slot{At: 13})
	page := w.create(60, api.Frame, 0)
	w.ok(w.k.Map(60, codeSpace, 0xf0, false))
	word, _ := code.Pack(code.Ins{Op: code.Sys, Imm: Invoke})
	w.ok(w.k.Poke(page.At, word))
	w.ok(w.k.Setup(made.Object, 7, 0, 0xf0, rootCap, codeSpace, msg.Regs{0: 6, 1: 3, 7: rootSlot}))
	w.ok(w.k.Start(made.Object))
	if !w.k.Step() {
		t.Fatalf("it does not step")
	}
	w.gone(made.Object)
	w.empty(6, 7, 8, 9, 10, 11, 12, 13) // eight of them
	w.cap(4, full(api.Notice, 3))
	w.cap(5, full(api.Notice, 4))
	w.ready(7, 5)
}

func TestEndpointIsDestroyed(t *testing.T) {
	for _, number := range []int{Send, Call, Recv} {
		w := pair(t)
		w.thread(7)
		w.create(11, api.Endpoint, 0)
		w.plant(4, full(api.Endpoint, 11))
		w.call(6, number, regs{0: info(3, 0, false), 1: 61, 7: 3})
		w.call(5, number, regs{0: info(4, 0, false), 1: 51, 7: 3})
		w.deletes(7, 3)
		w.gone(10)
		w.holds(6, uint64(api.ErrNone), 61, 0, 0, 0, 0, 0, 3)
		w.holds(5, uint64(api.ErrNone), 51, 0, 0, 0, 0, 0, 3)
		if th := w.of(5); th.State != thread.Ready || th.Badge != 0 || th.Calls {
			t.Errorf("%+v", th)
		}
		w.ready(7, 6, 5)
		w.call(5, Send, regs{0: 0, 7: 4}) // the other one is as it was
		w.waiting(11, 1, 5)
	}
}

// TestEndpointIsDestroyedBehindACall: who waits for an answer waits on.
func TestEndpointIsDestroyedBehindACall(t *testing.T) {
	w := called(t)
	w.deletes(6, 3)
	w.gone(10)
	w.state(5, thread.Asking, 0)
	w.call(6, Reply, regs{0: info(1, 0, false)})
	w.state(5, thread.Ready, 0)
}

func TestNoticeIsDestroyed(t *testing.T) {
	w := noticed(t)
	w.threadAt(8, 0, 0)
	w.create(12, api.Notice, 0)
	w.ok(w.k.Bind(11, 7))
	w.ok(w.k.Wire(3, 0, 11, 8))
	w.ok(w.k.Wire(5, 0, 11, 16))
	w.ok(w.k.Wire(6, 0, 12, 32))
	w.call(6, Wait, regs{0: 9, 1: 61, 5: 65, 7: 4})
	w.call(5, Wait, regs{0: 9, 1: 51, 5: 55, 7: 4})
	w.deletes(8, 4)
	w.deletes(8, 5)
	w.state(6, thread.Waiting, 11)
	w.deletes(8, 6)
	w.gone(11)
	w.holds(6, uint64(api.ErrNone), 61, 0, 0, 0, 65, 0, 4)
	w.holds(5, uint64(api.ErrNone), 51, 0, 0, 0, 55, 0, 4)
	w.ready(8, 7, 6, 5)
	// No line is wired to it, also not to one that comes with its number.
	w.create(11, api.Notice, 0)
	for line := range 8 {
		w.ok(w.k.Raise(line))
	}
	w.waiting(11, 0)
	w.waiting(12, 32)
	if pending, masked := w.k.Pending(); pending != 255-8-32-64 || masked != 255 {
		t.Errorf("pending %d, masked %d", pending, masked) // they are taken all the same
	}
	// No thread is bound to it, and none has it.
	w.plant(4, with(api.Notice, 11, 7, 2))
	w.call(7, Recv, regs{7: 3})
	w.call(8, Signal, regs{7: 4})
	w.state(7, thread.Receiving, 10)
	w.waiting(11, 2)
	w.ok(w.k.Bind(11, 7))
}

func TestFrameIsDestroyed(t *testing.T) {
	w := mapper(t)
	w.ok(w.k.Map(12, codeSpace, 0xf0, true))
	w.reads(5, 0xf0)
	w.deletes(5, 5)
	w.gone(12)
	w.word(w.object(codeTable).Span.At+15, 0)
	if w.reads(5, 0xf0) {
		t.Errorf("it is there still")
	}
}

func TestTableIsDestroyed(t *testing.T) {
	w := mapper(t)
	w.ok(w.k.Map(11, codeSpace, 0x100, true))
	w.ok(w.k.Map(12, codeSpace, 0x120, true))
	w.reads(5, 0x120)
	w.deletes(5, 4)
	w.gone(11)
	w.mapped(12, -1, 0)
	w.word(w.object(codeSpace).Span.At+1, 0)
	if w.reads(5, 0x120) {
		t.Errorf("what was behind it is there still")
	}
}

func TestSpaceIsDestroyed(t *testing.T) {
	w := mapper(t)
	w.create(20, api.Frame, 0)
	w.create(21, api.Frame, 0)
	w.create(22, api.Table, 0)
	w.thread(6)
	w.ok(w.k.Map(11, 10, 0, true))
	w.ok(w.k.Map(12, 10, 0, true))
	w.ok(w.k.Map(20, 10, 0x10, true))
	w.ok(w.k.Map(22, 10, 0x100, true))
	w.ok(w.k.Map(21, 10, 0x100, true))
	w.create(23, api.Thread, 0)
	w.ok(w.k.Setup(23, 0, 0, 0, rootCap, 10, msg.Regs{}))
	dir := w.object(10).Span.At
	w.deletes(5, 3)
	w.gone(10)
	for _, n := range []int{11, 12, 20, 21, 22} {
		w.mapped(n, -1, 0)
	}
	for at := range 16 {
		w.word(dir+at, 0)
	}
	w.mapped(codeTable, codeSpace, 0)
	// The thread has it no longer, also when there is another one of its number.
	w.create(10, api.Space, 0)
	w.ok(w.k.Map(11, 10, 0, true))
	w.ok(w.k.Map(12, 10, 0, true))
	nothing, _ := code.Pack(code.Ins{Op: code.Sys, Imm: Yield})
	w.ok(w.k.Poke(w.object(12).Span.At, nothing))
	w.ok(w.k.Start(23))
	w.turn(23)
	w.k.Step()
	w.state(23, thread.Inactive, 0)
	w.has(23, regs{0: 0})
	// And the others have theirs.
	for _, n := range []int{5, 6} {
		w.call(n, Yield, nil)
		w.state(n, thread.Ready, 0)
	}
}

// TestSpaceIsDestroyedBesideTheFirst: who has none then has not the Space 0.
func TestSpaceIsDestroyedBesideTheFirst(t *testing.T) {
	w := spaceNought(t)
	root := api.Cap{Kind: api.Node, Object: 1, Bits: 12}
	w.ok(w.k.Create(5, api.Space, api.Span{At: 96, Bits: 4}, 0))
	w.ok(w.k.Plant(api.Slot{Node: 1, At: 3}, full(api.Space, 5)))
	w.ok(w.k.Plant(api.Slot{Node: 1, At: rootSlot}, root))
	for i, space := range []int{0, 5} {
		w.ok(w.k.Create(6+i, api.Thread, api.Span{At: 112 + 16*i, Bits: 4}, 0))
		w.ok(w.k.Setup(6+i, 1-i, 0, 8*(1-i), root, space, msg.Regs{0: 5, 1: 3, 7: rootSlot}))
	}
	w.ok(w.k.Poke(88, packed(code.Ins{Op: code.Sys, Imm: Invoke})))
	w.ok(w.k.Start(6))
	w.k.Step() // it deletes the Space 5
	w.gone(5)
	w.k.Step()
	w.state(6, thread.Inactive, 0)
	w.ok(w.k.Start(7))
	w.k.Step()
	w.state(7, thread.Inactive, 0)
	w.has(7, regs{1: 3})
}

// TestSpaceIsDestroyedFromWithin: the thread that does it is told, and halted
// at its next step.
func TestSpaceIsDestroyedFromWithin(t *testing.T) {
	w := newWorld(t)
	w.thread(5)
	w.thread(6)
	w.plant(3, full(api.Space, codeSpace))
	w.call(5, Invoke, regs{0: 5, 1: 3, 2: 0, 3: 0, 7: rootSlot})
	w.gone(codeSpace)
	w.has(5, regs{0: 0})
	w.state(5, thread.Ready, 0)
	w.mapped(codeTable, -1, 0)
	w.mapped(firstCode, -1, 0)
	for _, n := range []int{5, 6} {
		w.turn(n)
		if !w.k.Step() {
			t.Errorf("%d does not step", n)
		}
		w.state(n, thread.Inactive, 0)
	}
}

// TestSpaceIsDestroyedThatWasWalked: what was walked to counts no more for
// another one of its number. Its tables are poked, so that no unmapping lets
// go of what was walked to.
func TestSpaceIsDestroyedThatWasWalked(t *testing.T) {
	w := mapper(t)
	table, page := w.object(11).Span.At, w.object(12).Span.At
	w.ok(w.k.Poke(w.object(10).Span.At, uint64(table+1)))
	w.ok(w.k.Poke(table, uint64(page+1)))
	yields, _ := code.Pack(code.Ins{Op: code.Sys, Imm: Yield})
	w.ok(w.k.Poke(page, yields))
	w.create(23, api.Thread, 0)
	runs := func() bool {
		w.ok(w.k.Setup(23, 7, 0, 0, rootCap, 10, msg.Regs{}))
		w.ok(w.k.Start(23))
		w.k.Step()
		ran := w.of(23).State == thread.Ready
		if ran {
			w.k.Step() // Halt
		}
		return ran
	}
	if !runs() {
		t.Fatalf("it does not run")
	}
	w.deletes(5, 3)
	w.create(10, api.Space, 0)
	if runs() {
		t.Errorf("it runs in a space in which nothing is")
	}
}

// TestNodeIsDestroyed: what is in it goes first.
func TestNodeIsDestroyed(t *testing.T) {
	w := carrier(t)
	w.ok(w.k.Plant(api.Slot{Node: 12, At: 1}, full(api.Space, codeSpace)))
	w.create(20, api.Notice, 0)
	w.ok(w.k.Plant(api.Slot{Node: 12, At: 3}, full(api.Notice, 20)))
	w.ok(w.k.Plant(api.Slot{Node: 12, At: 2}, full(api.Endpoint, 11)))
	w.plant(0, full(api.Space, codeSpace))
	w.deletes(5, 5)
	w.gone(12, 20)
	w.object(11) // of which another one is left
	w.object(codeSpace)
	if _, e := w.k.Cap(api.Slot{Node: 12, At: 0}); e != api.ErrLookup {
		t.Errorf("error %d", e)
	}
	// Another one of its number has slots of its own.
	w.create(12, api.Node, 1)
	w.in(12, 0, api.Cap{})
	if _, e := w.k.Cap(api.Slot{Node: 12, At: 2}); e != api.ErrLookup {
		t.Errorf("error %d", e)
	}
}

// TestNodeIsDestroyedOnTheWay: what was told behind eight steps is destroyed
// already, and the rest behind the next ones.
func TestNodeIsDestroyedOnTheWay(t *testing.T) {
	w := newWorld(t)
	w.thread(5)
	w.create(12, api.Node, 4)
	for at := range 10 {
		w.create(20+at, api.Notice, 0)
		w.ok(w.k.Plant(api.Slot{Node: 12, At: at}, full(api.Notice, 20+at)))
	}
	w.plant(5, full(api.Node, 12))
	w.load(5, regs{0: 5, 1: 5, 2: 0, 3: 0, 7: rootSlot})
	w.step(5, code.Ins{Op: code.Sys, Imm: Invoke})
	w.has(5, regs{0: 5})
	w.gone(20, 21, 22, 23, 24, 25, 26, 27)
	w.object(28)
	w.object(29)
	w.object(12)
	w.k.Step()
	w.has(5, regs{0: 0})
	w.gone(28, 29, 12)
}

// knot is a world with a thread 5, and a thread 6 whose root is the Node 12.
// In the slot 0 of that is the last capability of the Node 13, and in that,
// behind so many Notices from 20 on, the last one of the Node 12.
func knot(t *testing.T, notices int) *world {
	t.Helper()
	w := maker(t, 6)
	w.create(12, api.Node, 4)
	w.create(13, api.Node, 4)
	w.ok(w.k.Plant(api.Slot{Node: 12, At: 0}, api.Cap{Kind: api.Node, Object: 13, Bits: 4}))
	for at := range notices {
		w.create(20+at, api.Notice, 0)
		w.ok(w.k.Plant(api.Slot{Node: 13, At: at}, full(api.Notice, 20+at)))
	}
	w.ok(w.k.Plant(api.Slot{Node: 13, At: notices}, full(api.Node, 12)))
	w.create(6, api.Thread, 0)
	w.threadIn(6, api.Cap{Kind: api.Node, Object: 12, Bits: 4})
	return w
}

// TestNodesOfOneAnother: the first one is told while it is not empty, and is
// cleared all the same, because it is empty when all was done.
func TestNodesOfOneAnother(t *testing.T) {
	w := knot(t, 6)
	w.invoke(6, api.OK, regs{0: 5, 1: 0, 2: 0, 3: 0, 7: 6})
	w.gone(12, 13, 20, 25)
	for _, n := range []int{12, 13} {
		if _, e := w.k.Cap(api.Slot{Node: n}); e != api.ErrLookup {
			t.Errorf("node %d: error %d", n, e)
		}
		w.create(n, api.Node, 1)
	}
}

// TestNodeLeftBehind: one that is told while something is in it, and nothing
// more is done then, stays: without its object, and with its number.
func TestNodeLeftBehind(t *testing.T) {
	w := knot(t, 7)
	w.load(6, regs{0: 5, 1: 0, 2: 0, 3: 0, 7: 7})
	w.step(6, code.Ins{Op: code.Sys, Imm: Invoke})
	w.has(6, regs{0: 5}) // it is not done
	w.gone(12, 20, 26)
	w.object(13)
	w.in(12, 0, api.Cap{Kind: api.Node, Object: 13, Bits: 4})
	w.in(13, 7, api.Cap{})
	w.k.Step()
	w.has(6, regs{0: uint64(api.ErrNone)}) // what it was done by is gone
	w.refuses(api.ErrTwice, func() api.Errno { return w.k.Create(12, api.Notice, api.Span{At: 4000, Bits: 1}, 0) })
	w.refuses(api.ErrNone, func() api.Errno { return w.k.Plant(api.Slot{At: 5}, full(api.Node, 12)) })
	w.create(30, api.Thread, 0)
	w.refuses(api.ErrKind, func() api.Errno { return w.k.Setup(30, 0, 0, 0, full(api.Node, 12), -1, msg.Regs{}) })
	// Nor is a new object given its number: 3, 4, 7, 8, 9, 11, 14 are.
	w.invoke(5, api.OK, makes(api.Notice, 0, 7, 5))
	w.cap(10, full(api.Notice, 11))
	w.cap(11, full(api.Notice, 14))
}

// TestRootIsDestroyed: of a root whose node is gone nothing is found, until
// there is another one of its number.
func TestRootIsDestroyed(t *testing.T) {
	w := newWorld(t)
	w.thread(5)
	w.create(12, api.Node, 4)
	w.plant(4, full(api.Node, 12))
	w.create(6, api.Thread, 0)
	w.threadIn(6, api.Cap{Kind: api.Node, Object: 12, Bits: 12})
	w.deletes(5, 4)
	w.gone(12)
	w.forbids(6, api.ErrLookup, regs{0: 5, 1: 0, 7: 5})
	w.state(6, thread.Ready, 0)
	w.create(12, api.Node, 4)
	w.forbids(6, api.ErrNone, regs{0: 5, 1: 0, 7: 5})
	w.create(11, api.Notice, 0)
	w.ok(w.k.Plant(api.Slot{Node: 12, At: 5}, with(api.Notice, 11, 2, 4)))
	w.call(6, Signal, regs{7: 5})
	w.waiting(11, 4)
}

// TestRootIsDestroyedFromWithin: who takes its own root away is told OK.
func TestRootIsDestroyedFromWithin(t *testing.T) {
	w := newWorld(t)
	w.thread(5)
	w.call(5, Invoke, regs{0: 5, 1: rootSlot, 2: 0, 3: 0, 7: rootSlot})
	w.gone(rootNode)
	w.has(5, regs{0: 0})
	w.state(5, thread.Ready, 0)
	w.forbids(5, api.ErrLookup, regs{0: 5, 1: 0, 7: rootSlot})
	w.refusesCall(5, Signal, api.ErrLookup, regs{7: 3})
}

// TestIrqIsDestroyed: its line is wired to nothing; the object of that number
// is another thing, and stays.
func TestIrqIsDestroyed(t *testing.T) {
	w := newWorld(t)
	w.thread(3)
	w.create(11, api.Notice, 0)
	w.ok(w.k.Wire(3, 0, 11, 8))
	w.ok(w.k.Wire(4, 0, 11, 16))
	w.plant(4, api.Cap{Kind: api.Irq, Object: 3})
	w.plant(5, api.Cap{Kind: api.Irq, Object: 3})
	w.deletes(3, 4)
	w.ok(w.k.Raise(3))
	w.waiting(11, 8)
	w.invoke(3, api.OK, regs{0: 1, 7: 5})
	w.deletes(3, 5)
	if o := w.object(3); o.Kind != api.Thread {
		t.Errorf("%+v", o)
	}
	w.ready(3)
	w.plant(6, with(api.Notice, 11, 1, 0))
	w.call(3, Poll, regs{7: 6})
	w.ok(w.k.Raise(3))
	w.waiting(11, 0)
	if pending, masked := w.k.Pending(); pending != 0 || masked != 255-16 {
		t.Errorf("pending %d, masked %d", pending, masked)
	}
	w.ok(w.k.Raise(4))
	w.waiting(11, 16)
	// It has its owner still.
	w.refuses(api.ErrTwice, func() api.Errno { return w.k.Wire(3, 0, 11, 8) })
	w.invoke(3, api.OK, regs{0: 1, 7: w.plant(4, api.Cap{Kind: api.Irq, Object: 3})})
}

// TestWhatIsNoObjectIsDestroyed: a Control, or a Reply, is of none.
func TestWhatIsNoObjectIsDestroyed(t *testing.T) {
	w := carrier(t)
	w.plant(7, api.Cap{Kind: api.Reply, Object: 10})
	w.plant(8, api.Cap{Kind: api.Control})
	w.plant(9, api.Cap{Kind: api.Reply, Object: 63})
	before := w.object(10)
	for at := 7; at <= 9; at++ {
		w.deletes(5, at)
	}
	if got := w.object(10); got != before {
		t.Errorf("%+v, not %+v", got, before)
	}
	w.object(rootNode)
}

// TestUntypedIsDestroyed: what was made of it stays.
func TestUntypedIsDestroyed(t *testing.T) {
	w := maker(t, 6)
	w.invoke(5, api.OK, makes(api.Frame, 0, 2, 5))
	w.deletes(5, 3)
	w.gone(10)
	w.object(3)
	w.object(4)
	w.cap(5, full(api.Frame, 3))
	s := w.object(3).Span
	w.refuses(api.ErrFull, func() api.Errno { return w.k.Create(10, api.Frame, s, 0) })
	w.ok(w.k.Create(10, api.Frame, api.Span{At: s.At + 32, Bits: 4}, 0))
}

// TestDestroyedInOrder: who waits at the one that goes first is ready first.
func TestDestroyedInOrder(t *testing.T) {
	w := newWorld(t)
	w.make(10, api.Untyped, 6, 3)
	for n := 15; n <= 18; n++ {
		w.thread(n)
	}
	w.invoke(15, api.OK, regs{0: 1, 1: api.Endpoint, 2: 0, 3: 3, 4: 4, 7: 3})
	w.call(16, Recv, regs{7: 4})
	w.call(17, Recv, regs{7: 6})
	w.call(18, Recv, regs{7: 5})
	w.revokes(15, 3)
	w.empty(4, 5, 6)
	w.ready(15, 17, 18, 16) // the last ones go first
	for n := 16; n <= 18; n++ {
		w.has(n, regs{0: uint64(api.ErrNone)})
	}
}

// TestRevokeTakesItsOwnRootAway: what is told ahead of that is destroyed, and
// who revokes finds nothing any more.
func TestRevokeTakesItsOwnRootAway(t *testing.T) {
	w := maker(t, 8)
	w.invoke(5, api.OK, makes(api.Notice, 0, 8, 4)) // 3, 4, 6, 7, 8, 9, 11, 12
	w.invoke(5, api.OK, makes(api.Node, 4, 1, 12))  // 13
	w.create(30, api.Thread, 0)                     // its root is the Node 13, of which a slot leads to the Node 0
	w.threadIn(30, api.Cap{Kind: api.Node, Object: 13, Bits: 8})
	w.ok(w.k.Plant(api.Slot{Node: 13, At: 1}, full(api.Node, 0)))
	w.load(30, regs{0: 6, 1: 3, 2: 0, 3: 0, 7: 0x10 + rootSlot})
	w.turn(30)
	w.lay(30, code.Ins{Op: code.Sys, Imm: Invoke})
	at := w.of(30).Pc
	w.k.Step() // its own slot, the Node, and six Notices
	w.gone(13, 12, 11, 9, 8, 7, 6)
	w.object(4)
	w.empty(6, 7, 8, 9, 10, 11, 12)
	if th := w.of(30); th.State != thread.Ready || th.Pc != at || th.Regs[0] != 6 {
		t.Errorf("%+v", th)
	}
	w.k.Step()
	if th := w.of(30); th.State != thread.Ready || th.Pc != at+1 || th.Regs[0] != uint64(api.ErrLookup) {
		t.Errorf("%+v", th)
	}
	w.object(3)
	w.object(4)
	// Another one goes on where it stopped.
	if times := w.until(5, api.OK, regs{0: 6, 1: 3, 2: 0, 3: 0, 7: rootSlot}); times != 1 {
		t.Errorf("done at the %dth call", times)
	}
	w.gone(3, 4)
}

// TestRevokeTakesItsOwnSpaceAway: it does not go on, as its next step halts it.
func TestRevokeTakesItsOwnSpaceAway(t *testing.T) {
	w := maker(t, 8)
	w.invoke(5, api.OK, makes(api.Notice, 0, 9, 4))
	w.invoke(5, api.OK, makes(api.Space, 0, 1, 13)) // 14
	if c, _ := w.k.Cap(api.Slot{At: 13}); c != full(api.Space, 14) {
		t.Fatalf("%+v", c)
	}
	w.create(30, api.Table, 0)
	page := w.create(31, api.Frame, 0)
	w.ok(w.k.Map(30, 14, 0, false))
	w.ok(w.k.Map(31, 14, 0, false))
	w.ok(w.k.Poke(page.At, packed(code.Ins{Op: code.Sys, Imm: Invoke})))
	w.create(32, api.Thread, 0)
	w.ok(w.k.Setup(32, 7, 0, 0, rootCap, 14, msg.Regs{0: 6, 1: 3, 7: rootSlot}))
	w.ok(w.k.Start(32))
	w.k.Step()
	w.gone(14)
	w.mapped(30, -1, 0)
	w.mapped(31, -1, 0)
	w.cap(4, full(api.Notice, 3))
	w.cap(5, full(api.Notice, 4))
	want := w.of(32)
	if want.State != thread.Ready || want.Pc != 0 || want.Regs[0] != 6 {
		t.Errorf("%+v", want)
	}
	w.halts(32)
	w.cap(4, full(api.Notice, 3))
}
