package kernel

import (
	"donjon/api"
	"donjon/msg"
	"donjon/rights"
	"donjon/thread"
)

// call does what a thread asks for, by an instruction whose place is here.
func (k *Kernel) call(t *aThread, number uint64, here int) {
	switch number {
	case Send, NBSend, Call:
		k.send(t, number != NBSend, number == Call)
	case Recv, NBRecv:
		k.receive(t, number == Recv)
	case Reply:
		k.reply(t)
	case ReplyRecv:
		if t.is.Caller == none || k.reply(t) == api.OK {
			k.receive(t, true)
		}
	case Yield:
		k.sched.Yield(t.number)
		k.tell(t, api.OK)
	case Signal:
		k.signal(t)
	case Wait, Poll:
		k.wait(t, number == Wait)
	case Invoke:
		k.invoke(t, here)
	default:
		k.tell(t, api.ErrMethod)
	}
}

// with is the capability of a call that asks for a kind and a right.
func (k *Kernel) with(t *aThread, kind, right int) (api.Cap, api.Errno) {
	_, c, e := k.find(t, t.is.Regs[ofReg])
	if e != api.OK {
		return api.Cap{}, e
	}
	if c.Kind != kind {
		return api.Cap{}, api.ErrKind
	}
	if !rights.Within(right, c.Rights) {
		return api.Cap{}, api.ErrRights
	}
	return c, api.OK
}

// send sends a message, to be answered if it calls.
func (k *Kernel) send(t *aThread, waits, calls bool) {
	c, e := k.with(t, api.Endpoint, api.Write)
	if e == api.OK {
		_, e = msg.Unpack(t.is.Regs[0])
	}
	if e != api.OK {
		k.tell(t, e)
		return
	}
	p, _ := one[*anEndpoint](k, c.Object)
	id, met, _ := p.is.Send(t.number, waits)
	switch {
	case met:
		to, _ := one[*aThread](k, id)
		k.wake(to, k.carry(t, to, c.Badge, c.Rights))
		k.sent(t, to, calls)
	case waits:
		k.block(t, thread.Sending, p.number, c.Badge, calls)
	default:
		k.tell(t, api.OK)
	}
}

// sent is what becomes of who runs and has sent its message.
func (k *Kernel) sent(t, to *aThread, calls bool) {
	if !calls {
		k.tell(t, api.OK)
		return
	}
	k.block(t, thread.Asking, 0, 0, false)
	k.callerOf(to, t.number)
}

// carry is the registers of who receives a message, which was seen to be one.
// A capability goes along, if the message has one, and who sends may grant.
func (k *Kernel) carry(from, to *aThread, badge uint64, held int) msg.Regs {
	info, _ := msg.Unpack(from.is.Regs[0])
	if info.Cap && rights.Within(api.Grant, held) {
		k.handOn(from, to)
	}
	regs, _ := msg.Carry(from.is.Regs, to.is.Regs, badge)
	return regs
}

// handOn copies the sender's capability into the receiver's slot. If that
// can't be, the message comes without it, and nobody is told.
func (k *Kernel) handOn(from, to *aThread) {
	src, _, e := k.find(from, from.is.Regs[capReg])
	if e != api.OK {
		return
	}
	dst, e := k.slot(to, to.is.Regs[capReg])
	if e != api.OK {
		return
	}
	k.caps.Copy(src, dst, allRights)
}

// receive receives a message, or the word of the notice that is bound.
func (k *Kernel) receive(t *aThread, waits bool) {
	c, e := k.with(t, api.Endpoint, api.Read)
	if e != api.OK {
		k.tell(t, e)
		return
	}
	k.dismiss(t)
	if word, is := k.boundWord(t); is {
		k.tellWord(t, word)
		return
	}
	p, _ := one[*anEndpoint](k, c.Object)
	id, met, _ := p.is.Recv(t.number, waits)
	switch {
	case met:
		from, _ := one[*aThread](k, id)
		k.received(from, t)
	case waits:
		k.block(t, thread.Receiving, p.number, 0, false)
	default:
		k.tell(t, api.ErrNone)
	}
}

// boundWord is the word of the notice that is bound to a thread, which is told
// by that; false: there is none.
func (k *Kernel) boundWord(t *aThread) (uint64, bool) {
	nt, ok := one[*aNotice](k, t.notice)
	if !ok {
		return 0, false
	}
	word, is, _ := nt.is.Wait(t.number, false)
	return word, is
}

// received is what becomes of who runs and meets one that waits to send. How
// that one holds the endpoint is asked now: it may have lost it meanwhile.
func (k *Kernel) received(from, t *aThread) {
	t.is.Regs = k.carry(from, t, from.is.Badge, k.heldStill(from))
	if !from.is.Calls {
		k.wakeTold(from, api.OK)
		return
	}
	k.wake(from, from.is.Regs)
	k.block(from, thread.Asking, 0, 0, false)
	k.callerOf(t, from.number)
}

// heldStill is the rights that who waits to send has to its endpoint.
func (k *Kernel) heldStill(from *aThread) int {
	_, c, e := k.find(from, from.is.Regs[ofReg])
	if e != api.OK || c.Kind != api.Endpoint || c.Object != from.is.On {
		return 0
	}
	return c.Rights
}

// reply answers who waits for it.
func (k *Kernel) reply(t *aThread) api.Errno {
	e := k.answer(t)
	k.tell(t, e)
	return e
}

func (k *Kernel) answer(t *aThread) api.Errno {
	caller, ok := one[*aThread](k, t.is.Caller)
	if !ok {
		return api.ErrState
	}
	regs, e := msg.Carry(t.is.Regs, caller.is.Regs, 0)
	if e != api.OK {
		return e
	}
	k.wake(caller, regs)
	k.callerOf(t, none)
	return api.OK
}

// signal signals a notice.
func (k *Kernel) signal(t *aThread) {
	c, e := k.with(t, api.Notice, api.Write)
	if e == api.OK {
		k.signalled(c.Object, c.Badge)
	}
	k.tell(t, e)
}

// signalled is what becomes of who is woken by a notice that is signalled.
func (k *Kernel) signalled(n int, badge uint64) {
	nt, _ := one[*aNotice](k, n)
	id, word, is := nt.is.Signal(badge, k.isReceiving(nt))
	if !is {
		return
	}
	t, _ := one[*aThread](k, id)
	k.leave(t)
	k.wakeTold(t, api.OK)
	t.is.Regs[badgeReg] = word
}

// isReceiving tells whether the thread that is bound to a notice receives.
func (k *Kernel) isReceiving(nt *aNotice) bool {
	id, ok := nt.is.Bound()
	if !ok {
		return false
	}
	t, _ := one[*aThread](k, id)
	return t.is.State == thread.Receiving
}

// wait waits for a notice.
func (k *Kernel) wait(t *aThread, waits bool) {
	c, e := k.with(t, api.Notice, api.Read)
	if e != api.OK {
		k.tell(t, e)
		return
	}
	nt, _ := one[*aNotice](k, c.Object)
	word, is, _ := nt.is.Wait(t.number, waits)
	switch {
	case is:
		k.tellWord(t, word)
	case waits:
		k.block(t, thread.Waiting, nt.number, 0, false)
	default:
		k.tell(t, api.ErrNone)
	}
}
