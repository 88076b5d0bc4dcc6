package kernel

import (
	"testing"

	"donjon/api"
	"donjon/code"
	"donjon/msg"
	"donjon/sched"
	"donjon/thread"
)

// TestExample: the chapter's example.
func TestExample(t *testing.T) {
	w := newWorld(t)
	w.idle(5, 1, 0)
	for i, x := range []code.Ins{{Op: code.Const, A: 0, Imm: 7}, {Op: code.Sys, Imm: 7}, {Op: code.Halt}} {
		w.ok(w.k.Poke(w.code[5]+i, packed(x)))
	}
	w.ok(w.k.Start(5))
	for _, want := range []uint64{7, 0, 0} {
		if !w.k.Step() {
			t.Fatalf("it does not step")
		}
		w.has(5, regs{0: want})
	}
	w.state(5, thread.Inactive, 0)
	if w.k.Step() {
		t.Errorf("somebody runs")
	}
}

// runs lays a program into a thread's page, and starts it.
func (w *world) runs(n, level, domain int, r msg.Regs, program ...code.Ins) {
	w.t.Helper()
	w.idle(n, level, domain)
	w.ok(w.k.Setup(n, level, domain, 16*w.page[n], rootCap, codeSpace, r))
	for i, x := range program {
		if x.Op == code.Jump || x.Op == code.Zero || x.Op == code.Less {
			x.Imm += 16 * w.page[n]
		}
		w.ok(w.k.Poke(w.code[n]+i, packed(x)))
	}
	w.ok(w.k.Start(n))
}

// TestServerAndClients: two clients call, each a number of its own, and are
// answered twice of it; each adds up what it is answered, and stops behind ten.
func TestServerAndClients(t *testing.T) {
	for every := 1; every < 9; every++ {
		w := newWorld(t)
		server := w.make(10, api.Endpoint, 0, 3)
		one := w.plant(4, with(api.Endpoint, 10, api.Write, 1))
		two := w.plant(5, with(api.Endpoint, 10, api.Write, 2))
		in := info(0, 1, false)
		w.runs(20, 2, 0, msg.Regs{7: server},
			code.Ins{Op: code.Sys, Imm: Recv},
			code.Ins{Op: code.Add, A: 1, B: 1},
			code.Ins{Op: code.Sys, Imm: ReplyRecv},
			code.Ins{Op: code.Jump, Imm: 1})
		client := []code.Ins{
			{Op: code.Const, A: 0, Imm: int(in)},
			{Op: code.Move, A: 1, B: 4},
			{Op: code.Sys, Imm: Call},
			{Op: code.Add, A: 3, B: 1}, // the sum
			{Op: code.Const, A: 0, Imm: 1},
			{Op: code.Sub, A: 2, B: 0}, // how often still
			{Op: code.Zero, A: 2, Imm: 8},
			{Op: code.Jump, Imm: 0},
			{Op: code.Halt},
		}
		w.runs(21, 1, 0, msg.Regs{2: 10, 4: 7, 7: one}, client...)
		w.runs(22, 1, 0, msg.Regs{2: 10, 4: 900, 7: two}, client...)
		for i := 0; w.k.Step(); i++ {
			if i%every == 0 {
				w.k.Tick()
			}
			if i > 1000 {
				t.Fatalf("no end")
			}
		}
		w.has(21, regs{1: 14, 2: 0, 3: 140})
		w.has(22, regs{1: 1800, 2: 0, 3: 18000})
		w.state(21, thread.Inactive, 0)
		w.state(22, thread.Inactive, 0)
		w.state(20, thread.Receiving, 10)
		w.caller(20, -1)
	}
}

// TestDriver: a thread waits for interrupts, counts what they tell in a page
// that it shares with another thread of another domain, and acks them.
func TestDriver(t *testing.T) {
	w := newWorld(t, sched.Time{Domain: 0, Ticks: 3}, sched.Time{Domain: 1, Ticks: 2})
	w.make(10, api.Notice, 0, 3)
	line := w.plant(4, api.Cap{Kind: api.Irq, Object: 6})
	w.ok(w.k.Wire(6, 1, 10, 5))
	shared := w.create(11, api.Frame, 0)
	w.ok(w.k.Map(11, codeSpace, 0xf0, true))
	w.runs(20, 0, 1, msg.Regs{7: 3},
		code.Ins{Op: code.Sys, Imm: Wait},
		code.Ins{Op: code.Const, A: 1, Imm: 0xf0},
		code.Ins{Op: code.Load, A: 2, B: 1},
		code.Ins{Op: code.Add, A: 2, B: 5},
		code.Ins{Op: code.Store, A: 2, B: 1},
		code.Ins{Op: code.Const, A: 0, Imm: 1},
		code.Ins{Op: code.Const, A: 7, Imm: int(line)},
		code.Ins{Op: code.Sys, Imm: Invoke},
		code.Ins{Op: code.Const, A: 7, Imm: 3},
		code.Ins{Op: code.Jump, Imm: 0})
	w.runs(21, 0, 0, msg.Regs{},
		code.Ins{Op: code.Const, A: 1, Imm: 0xf0},
		code.Ins{Op: code.Load, A: 2, B: 1},
		code.Ins{Op: code.Jump, Imm: 0})
	for raised := 1; raised <= 4; raised++ {
		for w.k.Domain() != 0 {
			w.k.Tick()
		}
		w.ok(w.k.Raise(6))
		w.ok(w.k.Raise(6))
		for range 3 {
			w.k.Step() // the other domain: it hears of nothing yet
		}
		w.word(shared.At, uint64(5*(raised-1)))
		for w.k.Domain() != 1 {
			w.k.Tick()
		}
		for w.k.Step() {
		}
		w.state(20, thread.Waiting, 10)
		w.word(shared.At, uint64(5*raised))
	}
	for w.k.Domain() != 0 {
		w.k.Tick()
	}
	for range 3 {
		w.k.Step()
	}
	w.has(21, regs{2: 20})
}
