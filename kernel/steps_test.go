package kernel

import (
	"testing"

	"donjon/api"
	"donjon/code"
	"donjon/msg"
	"donjon/sched"
	"donjon/thread"
)

// 24.7: Step

func TestStepOfNobody(t *testing.T) {
	w := newWorld(t, sched.Time{Domain: 0, Ticks: 1}, sched.Time{Domain: 1, Ticks: 1})
	w.idle(5, 0, 0)
	w.threadAt(6, 0, 1)
	before := shot(w.k)
	if w.k.Step() {
		t.Errorf("somebody steps")
	}
	w.sameBut(before)
	w.k.Tick()
	if !w.k.Step() {
		t.Errorf("nobody steps")
	}
	w.state(6, thread.Inactive, 0) // a word that is 0 is Halt
}

// TestStepChangesNoMore: an instruction that asks for nothing.
func TestStepChangesNoMore(t *testing.T) {
	w := newWorld(t)
	w.thread(5)
	w.thread(6)
	for _, c := range []struct {
		i    code.Ins
		want msg.Regs
		pc   int
	}{
		{code.Ins{Op: code.Const, A: 1, Imm: 4095}, msg.Regs{1: 4095}, 1},
		{code.Ins{Op: code.Move, A: 2, B: 1}, msg.Regs{1: 4095, 2: 4095}, 2},
		{code.Ins{Op: code.Add, A: 2, B: 1}, msg.Regs{1: 4095, 2: 8190}, 3},
		{code.Ins{Op: code.Zero, A: 0, Imm: 9}, msg.Regs{1: 4095, 2: 8190}, 9},
		{code.Ins{Op: code.Less, A: 1, B: 2, Imm: 4}, msg.Regs{1: 4095, 2: 8190}, 4},
		{code.Ins{Op: code.Jump, Imm: 0}, msg.Regs{1: 4095, 2: 8190}, 0},
	} {
		w.turn(5)
		w.lay(5, c.i)
		before, want := shot(w.k), w.of(5)
		want.Regs, want.Pc = c.want, c.pc
		if !w.k.Step() {
			t.Errorf("it does not step")
		}
		if got := w.of(5); got != want {
			t.Errorf("%+v: %+v, not %+v", c.i, got, want)
		}
		w.sameBut(before, "thread 5 ")
	}
}

// halts asks that the thread that runs is halted by its next step, and that
// neither its registers nor its place change by that.
func (w *world) halts(n int) {
	w.t.Helper()
	want := w.of(n)
	before := shot(w.k)
	if !w.k.Step() {
		w.t.Fatalf("it does not step")
	}
	want.State = thread.Inactive
	if got := w.of(n); got != want {
		w.t.Fatalf("%+v, not %+v", got, want)
	}
	w.sameBut(before, "thread "+digits(n)+" ", "current ")
	if now, ok := w.k.Current(); ok && now == n {
		w.t.Fatalf("it is ready still")
	}
}

func TestStepHalts(t *testing.T) {
	r := msg.Regs{1, 2, 3, 4, 5, 6, 7, 8}
	for _, c := range []struct {
		name string
		word uint64 // where it is at
		r1   uint64 // its register 1
	}{
		{"Halt", 0, 2},
		{"Halt, with all else", packed(code.Ins{Op: code.Halt, A: 7, B: 7, Imm: 4095}), 2},
		{"no instruction: Op 18", 18, 2},
		{"no instruction: bit 23", 1<<23 + 1, 2},
		{"no instruction: bit 63", 1<<63 + 1, 2},
		{"Load where nothing is mapped", packed(code.Ins{Op: code.Load, A: 0, B: 1, Imm: 0}), 4000},
		{"Load at 4096", packed(code.Ins{Op: code.Load, A: 0, B: 1, Imm: 0}), 4096},
		{"Load at 4095 and 1", packed(code.Ins{Op: code.Load, A: 0, B: 1, Imm: 1}), 4095},
		{"Load far off", packed(code.Ins{Op: code.Load, A: 0, B: 1, Imm: 0}), big},
		{"Load at 2^32", packed(code.Ins{Op: code.Load, A: 0, B: 1, Imm: 0}), 1 << 32},
		{"Load at 2^63", packed(code.Ins{Op: code.Load, A: 0, B: 1, Imm: 0}), 1 << 63},
		{"Store where nothing is mapped", packed(code.Ins{Op: code.Store, A: 0, B: 1, Imm: 0}), 4000},
		{"Store where only Read is mapped", packed(code.Ins{Op: code.Store, A: 0, B: 1, Imm: 0}), 0},
		{"Store at 4096", packed(code.Ins{Op: code.Store, A: 0, B: 1, Imm: 96}), 4000},
		{"Store far off", packed(code.Ins{Op: code.Store, A: 0, B: 1, Imm: 0}), big},
	} {
		w := newWorld(t)
		w.idle(5, 0, 0)
		w.thread(6)
		r[1] = c.r1
		w.ok(w.k.Setup(5, 1, 0, 7, rootCap, codeSpace, r))
		w.ok(w.k.Start(5))
		w.ok(w.k.Poke(w.code[5]+7, c.word))
		w.t.Log(c.name)
		w.halts(5)
	}
}

func packed(i code.Ins) uint64 {
	w, e := code.Pack(i)
	if e != api.OK {
		panic(e)
	}
	return w
}

func TestStepHaltsWhereNoCodeIs(t *testing.T) {
	for _, pc := range []int{16, 255, 256, 4095} {
		w := newWorld(t)
		w.idle(5, 0, 0)
		w.ok(w.k.Setup(5, 0, 0, pc, rootCap, codeSpace, msg.Regs{9}))
		w.ok(w.k.Start(5))
		w.ok(w.k.Poke(0, packed(code.Ins{Op: code.Const, A: 1, Imm: 7}))) // the first word of all is not what is meant
		w.halts(5)
	}
	w := newWorld(t)
	w.idle(5, 0, 0)
	w.ok(w.k.Setup(5, 0, 0, 0, rootCap, -1, msg.Regs{9}))
	w.ok(w.k.Start(5))
	w.halts(5)
}

// TestStepThatHaltsWakesWhoWaits: as by any other halt.
func TestStepThatHaltsWakesWhoWaits(t *testing.T) {
	w := called(t)
	w.step(6, code.Ins{Op: code.Load, A: 1, B: 7, Imm: 4000})
	w.state(6, thread.Inactive, 0)
	w.caller(6, -1)
	w.has(5, regs{0: uint64(api.ErrState)})
	w.ready(5)
}

func TestStepFromTheLastPlace(t *testing.T) {
	w := newWorld(t)
	w.idle(5, 0, 0)
	w.create(10, api.Table, 0)
	s := w.create(11, api.Frame, 0)
	w.ok(w.k.Map(10, codeSpace, 4095, false))
	w.ok(w.k.Map(11, codeSpace, 4080, false))
	w.ok(w.k.Poke(s.At+15, packed(code.Ins{Op: code.Const, A: 3, Imm: 5})))
	w.ok(w.k.Poke(w.code[5], packed(code.Ins{Op: code.Const, A: 3, Imm: 6})))
	w.ok(w.k.Setup(5, 0, 0, 4095, rootCap, codeSpace, msg.Regs{}))
	w.ok(w.k.Start(5))
	w.k.Step()
	w.has(5, regs{3: 5})
	w.k.Step()
	w.has(5, regs{3: 6})
	if pc := w.of(5).Pc; pc != 1 {
		t.Errorf("it is at %d", pc)
	}
}

func TestLoadAndStore(t *testing.T) {
	w := newWorld(t)
	w.thread(5)
	w.create(10, api.Table, 0)
	last := w.create(11, api.Frame, 0)
	w.ok(w.k.Map(10, codeSpace, 4095, false))
	w.ok(w.k.Map(11, codeSpace, 4095, true))
	for a := 4080; a < 4096; a++ {
		w.set(5, 1, big-uint64(a))
		w.set(5, 2, uint64(a-80))
		w.turn(5)
		before := shot(w.k)
		want := w.of(5)
		w.step(5, code.Ins{Op: code.Store, A: 1, B: 2, Imm: 80})
		w.word(last.At+a-4080, big-uint64(a))
		if got := w.of(5); got.Regs != want.Regs || got.State != thread.Ready {
			t.Errorf("%+v, not %+v", got, want)
		}
		w.sameBut(before, "thread 5 ", "word ")
		w.step(5, code.Ins{Op: code.Load, A: 2, B: 2, Imm: 80}) // into the register that it is by
		w.has(5, regs{1: big - uint64(a), 2: big - uint64(a)})
	}
}

// TestStoreChangesOneWord of all of the memory.
func TestStoreChangesOneWord(t *testing.T) {
	w := newWorld(t)
	w.thread(5)
	s := w.create(11, api.Frame, 0)
	w.ok(w.k.Map(11, codeSpace, 0xf0, true))
	w.load(5, regs{1: 77, 2: 0xf9})
	w.turn(5)
	w.lay(5, code.Ins{Op: code.Store, A: 1, B: 2})
	before, _ := w.k.Words(0, 4096)
	w.k.Step()
	now, _ := w.k.Words(0, 4096)
	for a := range now {
		if a == s.At+9 && now[a] != 77 || a != s.At+9 && now[a] != before[a] {
			t.Errorf("word %d: %d, and was %d", a, now[a], before[a])
		}
	}
}

// TestStoreIntoItsOwnCode: it is what runs next.
func TestStoreIntoItsOwnCode(t *testing.T) {
	w := newWorld(t)
	w.create(5, api.Thread, 0)
	s := w.create(11, api.Frame, 0)
	w.ok(w.k.Map(11, codeSpace, 0, true))
	w.ok(w.k.Poke(s.At, packed(code.Ins{Op: code.Store, A: 1, B: 2})))
	w.ok(w.k.Setup(5, 0, 0, 0, rootCap, codeSpace, msg.Regs{1: packed(code.Ins{Op: code.Const, A: 4, Imm: 9}), 2: 1}))
	w.ok(w.k.Start(5))
	w.k.Step()
	w.k.Step()
	w.has(5, regs{4: 9})
}

func TestStepsOfTwoSpaces(t *testing.T) {
	w := newWorld(t)
	w.thread(5)
	w.create(10, api.Space, 0)
	w.create(11, api.Table, 0)
	s := w.create(12, api.Frame, 0)
	w.ok(w.k.Map(11, 10, 0, false))
	w.ok(w.k.Map(12, 10, 0, false))
	w.ok(w.k.Poke(s.At, packed(code.Ins{Op: code.Const, A: 4, Imm: 9})))
	w.create(6, api.Thread, 0)
	w.ok(w.k.Setup(6, 0, 0, 0, rootCap, 10, msg.Regs{}))
	w.ok(w.k.Start(6))
	w.set(5, 4, 8)
	w.turn(6)
	w.k.Step()
	w.has(6, regs{4: 9})
	w.has(5, regs{4: 8})
}

// 24.7: Tick

func TestTickYields(t *testing.T) {
	w := newWorld(t, sched.Time{Domain: 0, Ticks: 5})
	for n := 5; n <= 7; n++ {
		w.thread(n)
	}
	// Behind the fifth tick the entry begins again, and nobody yields.
	for i, want := range []int{5, 6, 7, 5, 6, 6, 7, 5, 6, 7, 7} {
		if got, ok := w.k.Current(); !ok || got != want {
			t.Errorf("behind %d ticks runs %d, not %d", i, got, want)
		}
		if got := w.k.Tick(); got != ((i+1)%5 == 0) {
			t.Errorf("tick %d: %t", i, got)
		}
	}
}

func TestTickYieldsAtItsLevel(t *testing.T) {
	w := newWorld(t)
	w.thread(5)
	w.thread(6)
	w.threadAt(7, 3, 0)
	for range 4 {
		w.k.Tick()
		if now, _ := w.k.Current(); now != 7 {
			t.Errorf("%d runs", now)
		}
	}
	w.step(7, code.Ins{Op: code.Halt})
	w.ready(5, 6, 5, 6)
}

func TestTickGoesByDomains(t *testing.T) {
	w := newWorld(t, sched.Time{Domain: 2, Ticks: 2}, sched.Time{Domain: 0, Ticks: 1}, sched.Time{Domain: 3, Ticks: 1})
	w.threadAt(5, 0, 2)
	w.threadAt(6, 0, 2)
	w.threadAt(7, 0, 0)
	w.threadAt(8, 0, 0)
	type now struct {
		domain, runs int
		ok, next     bool
	}
	for i, want := range []now{
		{2, 5, true, false}, {2, 6, true, true}, {0, 7, true, true}, {3, 0, false, true},
		{2, 6, true, false}, {2, 5, true, true}, {0, 7, true, true}, {3, 0, false, true},
	} {
		n, ok := w.k.Current()
		if got := (now{w.k.Domain(), n, ok, w.k.Tick()}); got != want {
			t.Errorf("behind %d ticks: %+v, not %+v", i, got, want)
		}
	}
}

// 24.7: interrupts

func TestRaiseErrors(t *testing.T) {
	w := newWorld(t)
	for _, line := range []int{-1, 8, 64, -1 << 62} {
		w.refuses(api.ErrRange, func() api.Errno { return w.k.Raise(line) })
	}
}

func TestRaiseServesAtOnce(t *testing.T) {
	w := newWorld(t)
	w.thread(5)
	w.make(10, api.Notice, 0, 3)
	w.make(11, api.Notice, 0, 4)
	w.ok(w.k.Wire(2, 0, 10, 7))
	w.call(5, Wait, regs{7: 3})
	w.ok(w.k.Raise(2))
	w.has(5, regs{0: 0, 5: 7})
	w.ready(5)
	if pending, masked := w.k.Pending(); pending != 0 || masked != 255 {
		t.Errorf("pending %d, masked %d", pending, masked)
	}
	// It is masked until it is acked.
	w.ok(w.k.Raise(2))
	w.waiting(10, 0)
	if pending, _ := w.k.Pending(); pending != 4 {
		t.Errorf("pending %d", pending)
	}
	w.invoke(5, api.OK, regs{0: 1, 7: w.plant(5, api.Cap{Kind: api.Irq, Object: 2})})
	w.waiting(10, 0) // an Ack serves nothing yet
	w.k.Tick()
	w.waiting(10, 7)
	w.waiting(11, 0)
}

func TestRaiseOfAnotherDomain(t *testing.T) {
	w := newWorld(t, sched.Time{Domain: 0, Ticks: 2}, sched.Time{Domain: 1, Ticks: 1}, sched.Time{Domain: 2, Ticks: 1})
	w.create(10, api.Notice, 0)
	w.create(11, api.Notice, 0)
	w.create(12, api.Notice, 0)
	w.ok(w.k.Wire(2, 1, 10, 7))
	w.ok(w.k.Wire(3, 2, 11, 8))
	w.ok(w.k.Wire(4, 0, 12, 9))
	for _, line := range []int{2, 3, 4} {
		w.ok(w.k.Raise(line))
	}
	w.waiting(10, 0)
	w.waiting(12, 9)
	w.k.Tick()
	w.waiting(10, 0)
	w.k.Tick() // the domain 1 runs
	w.waiting(10, 7)
	w.waiting(11, 0)
	w.k.Tick()
	w.waiting(11, 8)
	w.waiting(10, 7)
}

func TestEightInterruptsAtOnce(t *testing.T) {
	w := newWorld(t, sched.Time{Domain: 0, Ticks: 1}, sched.Time{Domain: 1, Ticks: 9})
	w.create(10, api.Notice, 0)
	for line := range 8 {
		w.ok(w.k.Wire(line, 1, 10, 1<<line))
	}
	w.plant(3, with(api.Notice, 10, 7, 0))
	for n := 20; n < 28; n++ {
		w.threadAt(n, 0, 1)
	}
	w.k.Tick()
	for n := 20; n < 25; n++ {
		w.call(n, Wait, regs{7: 3})
	}
	w.k.Tick()
	for w.k.Domain() != 0 {
		w.k.Tick()
	}
	for line := 7; line >= 0; line-- {
		w.ok(w.k.Raise(line))
	}
	w.waiting(10, 0, 20, 21, 22, 23, 24)
	w.k.Tick()
	// The one with the least number comes first, and who waits first is woken by it.
	for i := range 5 {
		w.has(20+i, regs{0: 0, 5: 1 << i})
		w.state(20+i, thread.Ready, 0)
	}
	w.waiting(10, 0xe0)
	if pending, masked := w.k.Pending(); pending != 0 || masked != 255 {
		t.Errorf("pending %d, masked %d", pending, masked)
	}
}

// TestInterruptOfWhoIsBound: it is woken out of its Recv.
func TestInterruptOfWhoIsBound(t *testing.T) {
	w := newWorld(t)
	w.thread(5)
	w.make(10, api.Notice, 0, 3)
	w.make(11, api.Endpoint, 0, 4)
	w.ok(w.k.Bind(10, 5))
	w.ok(w.k.Wire(0, 0, 10, 1<<27))
	w.call(5, Recv, regs{7: 4})
	w.ok(w.k.Raise(0))
	w.has(5, regs{0: 0, 5: 1 << 27})
	w.waiting(11, 0)
	w.ready(5)
}

// TestTickServesBehindTheYield: who is woken stands behind who yields.
func TestTickServesBehindTheYield(t *testing.T) {
	w := newWorld(t)
	w.thread(5)
	w.thread(6)
	w.make(10, api.Notice, 0, 3)
	irq := w.plant(4, api.Cap{Kind: api.Irq, Object: 1})
	w.ok(w.k.Wire(1, 0, 10, 1))
	w.ok(w.k.Raise(1))
	w.ok(w.k.Raise(1))
	w.call(6, Poll, regs{7: 3})
	w.call(6, Wait, regs{7: 3})
	w.invoke(5, api.OK, regs{0: 1, 7: irq})
	w.k.Tick()
	w.ready(5, 6)
	w.has(6, regs{0: 0, 5: 1})
}

func TestTickServesTheDomainThatBegins(t *testing.T) {
	w := newWorld(t, sched.Time{Domain: 0, Ticks: 1}, sched.Time{Domain: 1, Ticks: 1})
	w.threadAt(5, 0, 1)
	w.threadAt(6, 0, 1)
	w.make(10, api.Notice, 0, 3)
	w.ok(w.k.Wire(1, 1, 10, 1))
	w.ok(w.k.Raise(1))
	w.waiting(10, 0)
	if !w.k.Tick() {
		t.Errorf("the next entry does not begin")
	}
	w.waiting(10, 1)
	if now, _ := w.k.Current(); now != 5 {
		t.Errorf("%d runs", now) // nobody yields where an entry begins
	}
}

func TestRaiseDoesNotYield(t *testing.T) {
	w := newWorld(t)
	w.thread(5)
	w.thread(6)
	w.make(10, api.Notice, 0, 3)
	w.ok(w.k.Wire(1, 0, 10, 1))
	w.ok(w.k.Raise(1))
	w.ready(5, 6)
}
