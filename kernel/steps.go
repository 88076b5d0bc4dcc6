package kernel

import (
	"donjon/api"
	"donjon/code"
)

// Step lets the thread that runs do one instruction.
func (k *Kernel) Step() bool {
	n, ok := k.Current()
	if !ok {
		return false
	}
	t, _ := one[*aThread](k, n)
	k.run(t)
	return true
}

// run does the instruction at a thread's place. It is asked ahead of any change
// whether all of it can be done.
func (k *Kernel) run(t *aThread) {
	here := t.is.Pc
	fx, ok := k.effect(t)
	if !ok {
		k.halt(t)
		return
	}
	at, ok := k.needed(t, fx)
	if !ok {
		k.halt(t)
		return
	}
	t.is.Regs, t.is.Pc = fx.Regs, fx.Pc
	switch fx.Asks {
	case code.Reads:
		t.is.Regs[fx.Reg], _ = k.mem.Get(at)
	case code.Writes:
		k.mem.Put(at, fx.Value)
	case code.Calls:
		k.call(t, fx.Value, here)
	}
}

// effect is what comes of the instruction at a thread's place; false: there is
// none, or it ends.
func (k *Kernel) effect(t *aThread) (code.Effect, bool) {
	at, ok := k.lies(t, uint64(t.is.Pc), false)
	if !ok {
		return code.Effect{}, false
	}
	w, _ := k.mem.Get(at)
	ins, e := code.Unpack(w)
	if e != api.OK {
		return code.Effect{}, false
	}
	fx, _ := code.Run(ins, t.is.Regs, t.is.Pc)
	return fx, fx.Asks != code.Ends
}

// needed is where the word lies that an effect asks for, if it asks for one;
// false: it is not there.
func (k *Kernel) needed(t *aThread, fx code.Effect) (int, bool) {
	switch fx.Asks {
	case code.Reads, code.Writes:
		return k.lies(t, fx.At, fx.Asks == code.Writes)
	}
	return 0, true
}

// lies is where an address of a thread's space lies in memory; false: nowhere.
func (k *Kernel) lies(t *aThread, a uint64, write bool) (int, bool) {
	s, ok := one[*aSpace](k, t.space)
	if !ok || a >= addresses {
		return 0, false
	}
	at, e := k.tlb.To(k.mem, s.number, s.span.At, int(a), write)
	return at, e == api.OK
}

// Tick is a tick of the clock.
func (k *Kernel) Tick() bool {
	next := k.sched.Tick()
	if n, ok := k.Current(); ok && !next {
		k.sched.Yield(n)
	}
	k.serve()
	return next
}

// Raise raises a line of interrupts.
func (k *Kernel) Raise(line int) api.Errno {
	if e := k.irq.Raise(line); e != api.OK {
		return e
	}
	k.serve()
	return api.OK
}

// serve signals what the lines lead to that the domain that runs may take. A
// line that is taken is masked, so that no more are taken than there are.
func (k *Kernel) serve() {
	for line, ok := k.irq.Next(k.Domain()); ok; line, ok = k.irq.Next(k.Domain()) {
		if w := k.wires[line]; w.notice != none {
			k.signalled(w.notice, w.badge)
		}
	}
}
