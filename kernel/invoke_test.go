package kernel

import (
	"slices"
	"testing"

	"donjon/api"
	"donjon/code"
	"donjon/thread"
)

// 24.5: what register 7 leads to

func TestInvokeFinds(t *testing.T) {
	w := newWorld(t)
	w.thread(5)
	w.forbids(5, api.ErrNone, regs{0: 1, 7: 3})
	w.forbids(5, api.ErrRange, regs{0: 1, 7: 1 << 16})
	w.forbids(5, api.ErrRange, regs{0: 1, 7: big})
	w.forbids(5, api.ErrLookup, regs{0: 1, 7: 1 << 15})
	w.forbids(5, api.ErrNone, regs{0: 99, 7: 3}) // ahead of the method
}

// methodsOf are how many methods a kind has, from 1 on.
var methodsOf = map[int]uint64{api.Untyped: 1, api.Node: 6, api.Thread: 5, api.Frame: 2, api.Table: 2, api.Irq: 1}

func TestInvokeMethods(t *testing.T) {
	for kind := api.Untyped; kind <= api.Reply; kind++ {
		w := newWorld(t)
		w.thread(5)
		size, _ := sizeOf(kind)
		c := full(kind, 10)
		if kind <= api.Space {
			w.create(10, kind, size)
		} else {
			w.create(10, api.Node, 1) // one of that number, but of another kind
		}
		switch kind {
		case api.Irq:
			c.Object = 7
		case api.Control:
			c.Object = 0
		}
		w.plant(3, c)
		for _, method := range []uint64{0, methodsOf[kind] + 1, methodsOf[kind] + 2, 8, 255, 1 << 16, 1 << 32, 1<<32 + 1, 1<<63 + 2, big} {
			w.forbids(5, api.ErrMethod, regs{0: method, 1: big, 2: big, 3: big, 7: 3})
		}
	}
}

// 24.5: Node

// carrier is a world with a thread 5, a Frame 10 with the rights 5 at the
// address 3, an Endpoint 11 at 4, a Node 12 of four slots, with a guard, at 5,
// and a Node 13 of two slots at 6. Most tests ask the Node 0, whose own
// capability is at the address of its last slot.
func carrier(t *testing.T) *world {
	t.Helper()
	w := newWorld(t)
	w.thread(5)
	w.create(10, api.Frame, 0)
	w.plant(3, with(api.Frame, 10, 5, 0))
	w.make(11, api.Endpoint, 0, 4)
	w.create(12, api.Node, 2)
	w.plant(5, api.Cap{Kind: api.Node, Object: 12, Guard: 6, Bits: 3})
	w.make(13, api.Node, 1, 6)
	return w
}

// in asks what is in a slot.
func (w *world) in(node, at int, want api.Cap) {
	w.t.Helper()
	if c, e := w.k.Cap(api.Slot{Node: node, At: at}); e != api.OK || c != want {
		w.t.Fatalf("slot %d of %d: %+v (error %d), not %+v", at, node, c, e, want)
	}
}

func TestNodeCopy(t *testing.T) {
	for rights := range 8 {
		w := carrier(t)
		w.invoke(5, api.OK, regs{0: 1, 1: 3, 2: 8, 3: uint64(rights), 4: big, 7: rootSlot})
		w.cap(8, with(api.Frame, 10, rights&5, 0))
		w.cap(3, with(api.Frame, 10, 5, 0))
		w.comes(3, 8)
	}
	w := carrier(t)
	w.plant(7, with(api.Endpoint, 11, 7, 9))
	w.invoke(5, api.OK, regs{0: 1, 1: 7, 2: 8, 3: 3, 7: rootSlot})
	w.cap(8, with(api.Endpoint, 11, 3, 9))
	w.invoke(5, api.OK, regs{0: 1, 1: 5, 2: 9, 3: 0, 7: rootSlot})
	w.cap(9, api.Cap{Kind: api.Node, Object: 12, Guard: 6, Bits: 3}) // its guard stays
}

func TestNodeMint(t *testing.T) {
	for _, badge := range []uint64{0, 1, 1<<28 - 1} {
		w := carrier(t)
		w.invoke(5, api.OK, regs{0: 2, 1: 4, 2: 8, 3: 3, 4: badge, 7: rootSlot})
		w.cap(8, with(api.Endpoint, 11, 3, badge))
		w.comes(4, 8)
	}
	w := carrier(t)
	w.invoke(5, api.OK, regs{0: 2, 1: 5, 2: 9, 3: 7, 4: big, 7: rootSlot})
	w.cap(9, api.Cap{Kind: api.Node, Object: 12, Guard: 6, Bits: 3})
	w.invoke(5, api.OK, regs{0: 2, 1: 3, 2: 10, 3: 7, 4: big, 7: rootSlot}) // a Frame has no badge
	w.cap(10, with(api.Frame, 10, 5, 0))
}

func TestNodeMove(t *testing.T) {
	w := carrier(t)
	w.invoke(5, api.OK, regs{0: 1, 1: 3, 2: 8, 3: 7, 7: rootSlot})
	w.invoke(5, api.OK, regs{0: 3, 1: 3, 2: 9, 3: 65535, 7: rootSlot})
	w.empty(3)
	w.cap(9, with(api.Frame, 10, 5, 0))
	w.comes(9, 8)
}

// TestNodeSlotsAreTheNodes: of the one that register 7 leads to, wherever the source is.
func TestNodeSlotsAreTheNodes(t *testing.T) {
	w := carrier(t)
	// The root of this thread is a Node 21, in whose slot 1 the Node 12 is found.
	w.create(20, api.Thread, 0)
	w.create(21, api.Node, 2)
	w.ok(w.k.Plant(api.Slot{Node: 21, At: 1}, api.Cap{Kind: api.Node, Object: 12}))
	w.ok(w.k.Plant(api.Slot{Node: 21, At: 2}, full(api.Endpoint, 11)))
	w.threadIn(20, api.Cap{Kind: api.Node, Object: 21, Bits: 14})
	w.invoke(20, api.OK, regs{0: 1, 1: 2, 2: 3, 3: 1, 7: 1})
	w.in(12, 3, with(api.Endpoint, 11, 1, 0))
	w.invoke(20, api.OK, regs{0: 2, 1: 2, 2: 0, 3: 2, 4: 8, 7: 1})
	w.in(12, 0, with(api.Endpoint, 11, 2, 8))
	w.invoke(20, api.OK, regs{0: 3, 1: 2, 2: 1, 3: 2, 7: 1})
	w.in(12, 1, full(api.Endpoint, 11))
	w.in(21, 2, api.Cap{})
	w.invoke(20, api.OK, regs{0: 4, 1: 2, 2: 3, 3: 1, 7: 1})
	w.in(12, 2, with(api.Endpoint, 11, 1, 0))
	w.in(12, 3, full(api.Endpoint, 11))
	w.in(12, 1, api.Cap{})
	w.forbids(20, api.ErrLookup, regs{0: 4, 1: 4, 2: 3, 3: 2, 7: 1})
	w.invoke(20, api.OK, regs{0: 6, 1: 3, 2: 0, 3: 0, 7: 1})
	w.in(12, 0, api.Cap{})
	w.in(12, 2, api.Cap{})
	w.invoke(20, api.OK, regs{0: 5, 1: 3, 2: 0, 3: 0, 7: 1})
	w.in(12, 3, api.Cap{})
}

func TestNodeErrors(t *testing.T) {
	for _, c := range []struct {
		name string
		r    regs
		want api.Errno
	}{
		{"no number in 1", regs{0: 1, 1: 65536, 2: 8, 3: 7}, api.ErrRange},
		{"no number in 2", regs{0: 1, 1: 3, 2: 65536, 3: 7}, api.ErrRange},
		{"no number in 3", regs{0: 1, 1: 3, 2: 8, 3: 65536}, api.ErrRange},
		{"no number in 3 of Move", regs{0: 3, 1: 3, 2: 8, 3: 65536}, api.ErrRange},
		{"no number far off", regs{0: 3, 1: 3, 2: big, 3: 0}, api.ErrRange},
		{"no number, and nothing there", regs{0: 2, 1: 9, 2: 8, 3: 1 << 32}, api.ErrRange},
		{"an empty source", regs{0: 1, 1: 9, 2: 8, 3: 7}, api.ErrNone},
		{"an empty source, and no slot", regs{0: 2, 1: 9, 2: 16, 3: 7}, api.ErrNone},
		{"a source that is not found", regs{0: 3, 1: 65535, 2: 8, 3: 7}, api.ErrLookup},
		{"no slot", regs{0: 1, 1: 3, 2: 16, 3: 7}, api.ErrLookup},
		{"no slot of Mint", regs{0: 2, 1: 3, 2: 16, 3: 7}, api.ErrLookup},
		{"no slot of Move", regs{0: 3, 1: 3, 2: 65535, 3: 7}, api.ErrLookup},
		{"a slot that is full", regs{0: 1, 1: 3, 2: 4, 3: 7}, api.ErrTwice},
		{"a slot that is full of Mint", regs{0: 2, 1: 3, 2: 4, 3: 7}, api.ErrTwice},
		{"a slot that is full of Move", regs{0: 3, 1: 3, 2: 4, 3: 7}, api.ErrTwice},
		{"its own slot", regs{0: 3, 1: 3, 2: 3, 3: 7}, api.ErrTwice},
		{"no rights", regs{0: 1, 1: 3, 2: 8, 3: 8}, api.ErrRights},
		{"no rights of Mint", regs{0: 2, 1: 3, 2: 8, 3: 65535}, api.ErrRights},
		{"an Untyped", regs{0: 1, 1: 7, 2: 8, 3: 7}, api.ErrKind},
		{"an Untyped of Mint", regs{0: 2, 1: 7, 2: 8, 3: 7}, api.ErrKind},
		{"a badge that is none", regs{0: 2, 1: 4, 2: 8, 3: 7, 4: 1 << 28}, api.ErrField},
		{"a badge that is far from one", regs{0: 2, 1: 4, 2: 8, 3: 7, 4: big}, api.ErrField},
		{"a badge where one is", regs{0: 2, 1: 1, 2: 8, 3: 7, 4: 5}, api.ErrState},
		{"Rotate: no number in 1", regs{0: 4, 1: 65536, 2: 3, 3: 4}, api.ErrRange},
		{"Rotate: no number in 2", regs{0: 4, 1: 8, 2: 65536, 3: 4}, api.ErrRange},
		{"Rotate: no number in 3", regs{0: 4, 1: 8, 2: 3, 3: 65536}, api.ErrRange},
		{"Rotate: one slot twice", regs{0: 4, 1: 8, 2: 3, 3: 3}, api.ErrField},
		{"Rotate: one slot twice, and empty", regs{0: 4, 1: 9, 2: 9, 3: 3}, api.ErrField},
		{"Rotate: an empty one", regs{0: 4, 1: 8, 2: 3, 3: 9}, api.ErrNone},
		{"Rotate: a full one", regs{0: 4, 1: 5, 2: 3, 3: 4}, api.ErrTwice},
		{"Rotate: no slot", regs{0: 4, 1: 8, 2: 16, 3: 4}, api.ErrLookup},
		{"Delete: no number in 1", regs{0: 5, 1: 65536, 2: 0, 3: 0}, api.ErrRange},
		{"Delete: no number in 2", regs{0: 5, 1: 3, 2: 65536, 3: 0}, api.ErrRange},
		{"Delete: no number in 3", regs{0: 5, 1: 3, 2: 0, 3: 65536}, api.ErrRange},
		{"Delete: no slot", regs{0: 5, 1: 16, 2: 0, 3: 0}, api.ErrLookup},
		{"Delete: an empty one", regs{0: 5, 1: 9, 2: 0, 3: 0}, api.ErrNone},
		{"Revoke: no number in 1", regs{0: 6, 1: 65536, 2: 0, 3: 0}, api.ErrRange},
		{"Revoke: no number in 2", regs{0: 6, 1: 3, 2: 65536, 3: 0}, api.ErrRange},
		{"Revoke: no number in 3", regs{0: 6, 1: 3, 2: 0, 3: 65536}, api.ErrRange},
		{"Revoke: no slot", regs{0: 6, 1: 16, 2: 0, 3: 0}, api.ErrLookup},
		{"Revoke: an empty one", regs{0: 6, 1: 9, 2: 0, 3: 0}, api.ErrNone},
		{"Revoke: nothing comes of it", regs{0: 6, 1: 3, 2: 65535, 3: 65535}, api.OK},
	} {
		w := carrier(t)
		w.make(14, api.Untyped, 4, 7)
		w.plant(1, with(api.Endpoint, 11, 7, 5))
		c.r[7] = rootSlot
		w.t.Log(c.name)
		w.forbids(5, c.want, c.r)
	}
}

func TestNodeRotate(t *testing.T) {
	w := carrier(t)
	frame, endpoint := with(api.Frame, 10, 5, 0), full(api.Endpoint, 11)
	w.invoke(5, api.OK, regs{0: 1, 1: 3, 2: 9, 3: 1, 7: rootSlot})
	w.invoke(5, api.OK, regs{0: 1, 1: 4, 2: 10, 3: 1, 7: rootSlot})
	w.invoke(5, api.OK, regs{0: 4, 1: 8, 2: 3, 3: 4, 7: rootSlot})
	w.cap(8, frame)
	w.cap(3, endpoint)
	w.empty(4)
	w.invoke(5, api.OK, regs{0: 4, 1: 3, 2: 8, 3: 3, 7: rootSlot}) // they change places
	w.cap(3, frame)
	w.cap(8, endpoint)
	w.comes(8, 10)
	w.cap(9, with(api.Frame, 10, 1, 0))
}

// 24.5: Node: Delete and Revoke go on until they are done

func TestRevokeInSteps(t *testing.T) {
	for copies := range 12 {
		w := carrier(t)
		w.make(14, api.Notice, 0, 0)
		free := []int{1, 2, 7, 8, 9, 10, 11, 12, 13, 14}
		if copies > len(free) {
			continue
		}
		for _, at := range free[:copies] {
			w.invoke(5, api.OK, regs{0: 1, 1: 0, 2: uint64(at), 3: 7, 7: rootSlot})
		}
		want := 1
		if copies > 8 {
			want = 2
		}
		if got := w.until(5, api.OK, regs{0: 6, 1: 0, 2: 0, 3: 0, 7: rootSlot}); got != want {
			t.Errorf("%d copies: done at the %dth call, not at the %dth", copies, got, want)
		}
		w.empty(free...)
		w.cap(0, full(api.Notice, 14))
		w.object(14)
	}
}

// TestRevokeThatIsNotDone: nothing is told, and the same instruction comes next.
func TestRevokeThatIsNotDone(t *testing.T) {
	w := carrier(t)
	w.make(14, api.Notice, 0, 0)
	free := []uint64{1, 2, 7, 8, 9, 10, 11, 12, 13}
	for _, at := range free {
		w.invoke(5, api.OK, regs{0: 1, 1: 0, 2: at, 3: 7, 7: rootSlot})
	}
	w.load(5, regs{0: 6, 1: 0, 2: 0, 3: 0, 7: rootSlot})
	w.lay(5, code.Ins{Op: code.Sys, Imm: Invoke})
	before := w.of(5)
	w.k.Step()
	if got := w.of(5); got != before {
		t.Errorf("%+v, not %+v", got, before)
	}
	w.cap(1, full(api.Notice, 14)) // the last ones go first
	w.empty(2, 7, 8, 9, 10, 11, 12, 13)
	w.k.Step()
	w.has(5, regs{0: 0, 1: 0, 7: rootSlot})
	w.empty(1)
	if got := w.of(5).Pc; got != before.Pc+1 {
		t.Errorf("it goes on at %d", got)
	}
}

// TestRevokeAtTheLastPlace: the instruction's own place is 4095, not one less than 0.
func TestRevokeAtTheLastPlace(t *testing.T) {
	w := carrier(t)
	w.make(14, api.Notice, 0, 0)
	for _, at := range []uint64{1, 2, 7, 8, 9, 10, 11, 12, 13} {
		w.invoke(5, api.OK, regs{0: 1, 1: 0, 2: at, 3: 7, 7: rootSlot})
	}
	w.step(5, code.Ins{Op: code.Halt})
	w.create(30, api.Table, 0)
	page := w.create(31, api.Frame, 0)
	w.ok(w.k.Map(30, codeSpace, 4095, false))
	w.ok(w.k.Map(31, codeSpace, 4095, false))
	word, _ := code.Pack(code.Ins{Op: code.Sys, Imm: Invoke})
	w.ok(w.k.Poke(page.At+15, word))
	w.ok(w.k.Setup(5, 0, 0, 4095, rootCap, codeSpace, [8]uint64{6, 0, 0, 0, 0, 0, 0, rootSlot}))
	w.ok(w.k.Start(5))
	w.k.Step()
	if got := w.of(5); got.Pc != 4095 || got.Regs[0] != 6 {
		t.Errorf("%+v", got)
	}
	w.k.Step()
	if got := w.of(5); got.Pc != 0 || got.Regs[0] != 0 {
		t.Errorf("%+v", got)
	}
}

// 24.5: Thread

func TestThreadStart(t *testing.T) {
	w := newWorld(t)
	for state, n := range w.inEachState() {
		at := w.plant(3, full(api.Thread, n))
		if state == thread.Inactive {
			w.invoke(26, api.OK, regs{0: 1, 7: at})
			w.state(n, thread.Ready, 0)
			w.ready(26, 21, n)
		} else {
			w.forbids(26, api.ErrState, regs{0: 1, 7: at})
		}
		w.invoke(26, api.OK, regs{0: 5, 1: 3, 2: 0, 3: 0, 7: w.plant(1, rootCap)})
		w.invoke(26, api.OK, regs{0: 5, 1: 1, 2: 0, 3: 0, 7: rootSlot})
		w.gone(n) // it was its last capability
	}
}

func TestThreadHalt(t *testing.T) {
	w := newWorld(t)
	for state, n := range w.inEachState() {
		before := w.of(n)
		at := w.plant(state, full(api.Thread, n))
		w.invoke(26, api.OK, regs{0: 2, 7: at})
		want := before
		want.State, want.On, want.Badge, want.Calls = thread.Inactive, 0, 0, false
		if got := w.of(n); got != want {
			t.Errorf("state %d: %+v, not %+v", state, got, want)
		}
	}
	for n := 30; n <= 33; n++ {
		w.waiting(n, 0)
	}
	w.caller(26, -1)
	w.refusesCall(26, Reply, api.ErrState, regs{})
	w.ready(26)
}

func TestThreadHaltWakesWhoWaitsForItsAnswer(t *testing.T) {
	w := called(t)
	w.thread(7)
	at := w.plant(4, full(api.Thread, 6))
	w.invoke(7, api.OK, regs{0: 2, 7: at})
	w.state(6, thread.Inactive, 0)
	w.caller(6, -1)
	w.holds(5, uint64(api.ErrState), 11, 12, 0, 0, 15, 0, 3)
	w.state(5, thread.Ready, 0)
	w.ready(7, 5)
	// And it may be set up and started, and nobody waits for it.
	w.again(6)
	w.caller(6, -1)
	w.refusesCall(6, Reply, api.ErrState, regs{0: 0})
}

// TestThreadHaltLeavesOthersAsking: it is nobody's Caller, but others are.
func TestThreadHaltLeavesOthersAsking(t *testing.T) {
	w := called(t)
	for n := 7; n <= 9; n++ {
		w.thread(n)
	}
	w.call(7, Recv, regs{7: 3})
	w.call(8, Call, regs{0: 0, 7: 3})
	w.caller(7, 8)
	w.caller(6, 5)
	w.invoke(9, api.OK, regs{0: 2, 7: w.plant(4, full(api.Thread, 8))})
	w.caller(7, -1)
	w.caller(6, 5)
	w.state(5, thread.Asking, 0)
}

func TestThreadHaltsItself(t *testing.T) {
	w := called(t)
	at := w.plant(4, full(api.Thread, 6))
	w.call(6, Invoke, regs{0: 2, 7: at})
	w.state(6, thread.Inactive, 0)
	w.has(6, regs{0: 0}) // it is told OK
	w.has(5, regs{0: uint64(api.ErrState)})
	w.ready(5)
}

func TestThreadLevel(t *testing.T) {
	for level := range 8 {
		w := newWorld(t)
		w.thread(5)
		w.thread(6)
		w.thread(7)
		at := w.plant(3, full(api.Thread, 6))
		w.invoke(5, api.OK, regs{0: 3, 1: uint64(level), 7: at})
		if th := w.of(6); th.Level != level || th.State != thread.Ready {
			t.Errorf("%+v", th)
		}
		if level == 0 {
			w.ready(5, 7, 6) // behind all of its level, which was its own
		} else {
			w.ready(6, 6, 6)
		}
	}
}

func TestThreadLevelDown(t *testing.T) {
	w := newWorld(t)
	w.threadAt(5, 3, 0)
	w.threadAt(6, 1, 0)
	at := w.plant(3, full(api.Thread, 5))
	w.invoke(5, api.OK, regs{0: 3, 1: 1, 7: at}) // its own
	w.ready(6, 5, 6)
}

func TestThreadLevelOfEachState(t *testing.T) {
	w := newWorld(t)
	for state, n := range w.inEachState() {
		before := w.of(n)
		at := w.plant(state, full(api.Thread, n))
		w.invoke(26, api.OK, regs{0: 3, 1: 0, 7: at})
		if got := w.of(n); got != before {
			t.Errorf("state %d: %+v, not %+v", state, got, before)
		}
		if state == thread.Ready {
			continue // it would be the only one that runs
		}
		w.invoke(26, api.OK, regs{0: 3, 1: 7, 7: at})
		before.Level = 7
		if got := w.of(n); got != before {
			t.Errorf("state %d: %+v, not %+v", state, got, before)
		}
	}
	w.ready(26, 21)
	// Who is woken comes at the level that it has then.
	w.plant(6, with(api.Notice, 33, 2, 1))
	w.call(26, Signal, regs{7: 6})
	w.ready(25, 25)
}

func TestThreadLevelErrors(t *testing.T) {
	w := newWorld(t)
	w.thread(5)
	w.thread(6)
	at := w.plant(3, full(api.Thread, 6))
	for _, level := range []uint64{8, 9, 65535, 65536, 1 << 32, big} {
		for method := uint64(3); method <= 5; method++ {
			w.forbids(5, api.ErrRange, regs{0: method, 1: level, 7: at})
		}
	}
}

func TestThreadRegisters(t *testing.T) {
	w := newWorld(t)
	w.thread(5)
	w.idle(6, 0, 0)
	at := w.plant(3, full(api.Thread, 6))
	want := w.of(6)
	for reg := range 8 {
		v := big - uint64(reg)
		want.Regs[reg] = v
		w.invoke(5, api.OK, regs{0: 4, 1: uint64(reg), 2: v, 7: at})
		if got := w.of(6); got != want {
			t.Errorf("%+v, not %+v", got, want)
		}
	}
	for reg := range 8 {
		w.invoke(5, api.OK, regs{0: 5, 1: uint64(reg), 2: 70, 3: 71, 7: at})
		w.holds(5, 0, big-uint64(reg), 70, 71, 0, 0, 0, at)
	}
	if got := w.of(6); got != want {
		t.Errorf("%+v, not %+v", got, want)
	}
}

func TestThreadRegistersOfEachState(t *testing.T) {
	w := newWorld(t)
	for state, n := range w.inEachState() {
		at := w.plant(state, full(api.Thread, n))
		if state != thread.Inactive {
			w.forbids(26, api.ErrState, regs{0: 4, 1: 7, 2: 9, 7: at})
			w.forbids(26, api.ErrRange, regs{0: 4, 1: 8, 2: 9, 7: at}) // that comes first
		}
		w.invoke(26, api.OK, regs{0: 5, 1: 7, 7: at})
		w.has(26, regs{1: w.of(n).Regs[7]})
	}
}

// TestThreadReadsItsOwnRegisters: as they are when it asks.
func TestThreadReadsItsOwnRegisters(t *testing.T) {
	w := newWorld(t)
	w.thread(5)
	at := w.plant(3, full(api.Thread, 5))
	w.invoke(5, api.OK, regs{0: 5, 1: 0, 7: at})
	w.has(5, regs{1: 5})
	w.invoke(5, api.OK, regs{0: 5, 1: 7, 7: at})
	w.has(5, regs{1: at})
	w.forbids(5, api.ErrState, regs{0: 4, 1: 3, 2: 9, 7: at})
}

// 24.5: Frame and Table

// mapper is a world with a thread 5, and at the addresses 3 to 6 a Space 10, a
// Table 11, a Frame 12, and a Notice 13.
func mapper(t *testing.T) *world {
	t.Helper()
	w := newWorld(t)
	w.thread(5)
	w.make(10, api.Space, 0, 3)
	w.make(11, api.Table, 0, 4)
	w.make(12, api.Frame, 0, 5)
	w.make(13, api.Notice, 0, 6)
	return w
}

func TestMapByInvoke(t *testing.T) {
	for _, write := range []uint64{0, 1, 2, 1 << 63, big} {
		w := mapper(t)
		w.invoke(5, api.OK, regs{0: 1, 1: 3, 2: 300, 3: write, 7: 4})
		w.mapped(11, 10, 300)
		w.word(w.object(10).Span.At+1, uint64(w.object(11).Span.At+1)) // a Table is never Write
		w.invoke(5, api.OK, regs{0: 1, 1: 3, 2: 511, 3: write, 7: 5})
		w.mapped(12, 10, 511)
		entry := uint64(w.object(12).Span.At + 1)
		if write != 0 {
			entry += 2
		}
		w.word(w.object(11).Span.At+15, entry)
		w.invoke(5, api.OK, regs{0: 2, 7: 5})
		w.mapped(12, -1, 0)
		w.word(w.object(11).Span.At+15, 0)
		w.invoke(5, api.OK, regs{0: 1, 1: 3, 2: 256, 3: 0, 7: 5})
		w.invoke(5, api.OK, regs{0: 2, 7: 4})
		w.mapped(11, -1, 0)
		w.mapped(12, -1, 0)
		w.word(w.object(10).Span.At+1, 0)
	}
}

func TestMapRights(t *testing.T) {
	for rights := range 8 {
		for _, write := range []uint64{0, 1} {
			w := mapper(t)
			w.plant(7, with(api.Frame, 12, rights, 0))
			w.ok(w.k.Map(11, 10, 0, false))
			r := regs{0: 1, 1: 3, 2: 0, 3: write, 7: 7}
			if rights&api.Read != 0 && (write == 0 || rights&api.Write != 0) {
				w.invoke(5, api.OK, r)
				w.mapped(12, 10, 0)
			} else {
				w.forbids(5, api.ErrRights, r)
			}
		}
	}
}

func TestMapByInvokeErrors(t *testing.T) {
	for _, c := range []struct {
		name string
		r    regs
		want api.Errno
	}{
		{"nothing there", regs{1: 9, 2: 0, 3: 0, 7: 5}, api.ErrNone},
		{"nothing there, and no number", regs{1: 9, 2: big, 3: 1, 7: 7}, api.ErrNone},
		{"nothing found", regs{1: 1 << 15, 2: 0, 3: 0, 7: 5}, api.ErrLookup},
		{"no address", regs{1: 1 << 16, 2: 0, 3: 0, 7: 5}, api.ErrRange},
		{"no Space", regs{1: 6, 2: 0, 3: 0, 7: 5}, api.ErrKind},
		{"a Table", regs{1: 4, 2: 0, 3: 0, 7: 5}, api.ErrKind},
		{"a Reply of a Space's number", regs{1: 8, 2: 0, 3: 0, 7: 5}, api.ErrKind},
		{"no Space, and no number", regs{1: 6, 2: big, 3: 0, 7: 5}, api.ErrKind},
		{"no Space for a Table", regs{1: 6, 2: 0, 3: 0, 7: 4}, api.ErrKind},
		{"no number", regs{1: 3, 2: 65536, 3: 0, 7: 5}, api.ErrRange},
		{"no number, and no right", regs{1: 3, 2: big, 3: 1, 7: 7}, api.ErrRange},
		{"no number for a Table", regs{1: 3, 2: 1 << 32, 3: 1, 7: 4}, api.ErrRange},
		{"no right", regs{1: 3, 2: 0, 3: 1, 7: 7}, api.ErrRights},
		{"no right, and no address", regs{1: 3, 2: 4096, 3: 1, 7: 7}, api.ErrRights},
		{"no right, of one that is mapped", regs{1: 3, 2: 0, 3: 1, 7: 2}, api.ErrRights},
		{"one that is mapped", regs{1: 3, 2: 0, 3: 1, 7: 1}, api.ErrTwice},
		{"one that is mapped, and no address", regs{1: 3, 2: 65535, 3: 1, 7: 1}, api.ErrTwice},
		{"no address of a space", regs{1: 3, 2: 4096, 3: 0, 7: 5}, api.ErrRange},
		{"no address of a space for a Table", regs{1: 3, 2: 65535, 3: 0, 7: 4}, api.ErrRange},
		{"no Table there", regs{1: 3, 2: 256, 3: 0, 7: 5}, api.ErrFault},
		{"a Table there", regs{1: 3, 2: 0, 3: 0, 7: 4}, api.ErrTwice},
		{"a Frame there", regs{1: 3, 2: 16, 3: 0, 7: 5}, api.ErrTwice},
	} {
		w := mapper(t)
		w.plant(7, with(api.Frame, 12, api.Read, 0))
		w.plant(8, api.Cap{Kind: api.Reply, Object: 10})
		w.create(14, api.Table, 0)
		w.make(15, api.Frame, 0, 1)
		w.plant(2, with(api.Frame, 15, api.Read, 0))
		w.ok(w.k.Map(14, 10, 0, false))
		w.ok(w.k.Map(15, 10, 16, false))
		c.r[0] = 1
		w.t.Log(c.name)
		w.forbids(5, c.want, c.r)
	}
}

func TestUnmapByInvokeErrors(t *testing.T) {
	w := mapper(t)
	w.forbids(5, api.ErrState, regs{0: 2, 7: 4})
	w.forbids(5, api.ErrState, regs{0: 2, 7: 5})
}

func TestUnmapNeedsNoRight(t *testing.T) {
	w := mapper(t)
	w.plant(7, with(api.Frame, 12, 0, 0))
	w.ok(w.k.Map(11, 10, 0, false))
	w.ok(w.k.Map(12, 10, 0, true))
	w.invoke(5, api.OK, regs{0: 2, 7: 7})
	w.mapped(12, -1, 0)
}

// 24.5: Irq

func TestIrqAck(t *testing.T) {
	for line := range 8 {
		w := newWorld(t)
		w.thread(5)
		w.create(10, api.Notice, 0)
		at := w.plant(3, api.Cap{Kind: api.Irq, Object: line})
		w.forbids(5, api.ErrState, regs{0: 1, 7: at}) // nobody owns it
		w.ok(w.k.Wire(line, 0, 10, 1))
		w.forbids(5, api.ErrState, regs{0: 1, 7: at}) // it is not masked
		w.ok(w.k.Raise(line))
		if _, masked := w.k.Pending(); masked != 255 {
			t.Errorf("masked %d", masked)
		}
		w.invoke(5, api.OK, regs{0: 1, 7: at})
		if pending, masked := w.k.Pending(); pending != 0 || masked != 255-1<<line {
			t.Errorf("pending %d, masked %d", pending, masked)
		}
	}
}

// TestCapsOfOneObject: what is done is done with the object, by whichever capability.
func TestCapsOfOneObject(t *testing.T) {
	w := carrier(t)
	for _, at := range []int{7, 8} {
		w.plant(at, full(api.Thread, 5))
	}
	w.invoke(5, api.OK, regs{0: 3, 1: 2, 7: 7})
	w.invoke(5, api.OK, regs{0: 3, 1: 3, 7: 8})
	if th := w.of(5); th.Level != 3 {
		t.Errorf("%+v", th)
	}
	if n := len(slices.DeleteFunc(w.k.Slots(), func(s api.Slot) bool { return s.Node != rootNode })); n != 7 {
		t.Errorf("%d slots", n)
	}
}
