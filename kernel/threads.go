package kernel

import (
	"donjon/api"
	"donjon/msg"
	"donjon/thread"
)

// Which registers have what.
const (
	badgeReg = 5 // whose badge, or which word, it is that came
	capReg   = 6 // what is handed on, or where it is laid
	ofReg    = 7 // what a call is of
)

// find is what an address leads to, for a thread.
func (k *Kernel) find(t *aThread, ptr uint64) (api.Slot, api.Cap, api.Errno) {
	return k.caps.Find(t.root, ptr)
}

// slot is the slot to which an address leads, for a thread.
func (k *Kernel) slot(t *aThread, ptr uint64) (api.Slot, api.Errno) {
	return k.caps.Slot(t.root, ptr, api.MaxDepth)
}

// tell tells a thread an error. One that was destroyed may be told, too: nobody
// sees its registers any more.
func (k *Kernel) tell(t *aThread, e api.Errno) { t.is.Regs = msg.Answer(t.is.Regs, e, nil) }

// tellWord tells a thread OK, and a word.
func (k *Kernel) tellWord(t *aThread, word uint64) {
	k.tell(t, api.OK)
	t.is.Regs[badgeReg] = word
}

// start lets a thread run that is inactive.
func (k *Kernel) start(t *aThread) api.Errno {
	is, e := thread.Start(t.is)
	if e != api.OK {
		return e
	}
	t.is = is
	k.ready(t)
	return api.OK
}

func (k *Kernel) ready(t *aThread) { k.sched.Put(t.number, t.is.Domain, t.is.Level) }

// wake lets a thread run that waits. All threads are right, and who is woken
// waits, so that thread has nothing to refuse, here and below.
func (k *Kernel) wake(t *aThread, regs msg.Regs) {
	t.is, _ = thread.Wake(t.is, regs)
	k.ready(t)
}

// wakeTold wakes a thread with its registers, and tells it an error.
func (k *Kernel) wakeTold(t *aThread, e api.Errno) { k.wake(t, msg.Answer(t.is.Regs, e, nil)) }

// block lets a thread wait that runs.
func (k *Kernel) block(t *aThread, state, on int, badge uint64, calls bool) {
	t.is, _ = thread.Block(t.is, state, on, badge, calls)
	k.sched.Drop(t.number)
}

// halt lets a thread run, and wait, no longer.
func (k *Kernel) halt(t *aThread) {
	k.leave(t)
	t.is = thread.Stop(t.is)
	k.sched.Drop(t.number)
	k.dismiss(t)
	for _, other := range all[*aThread](k) {
		if other.is.Caller == t.number {
			k.callerOf(other, none)
		}
	}
}

// leave lets a thread wait at its endpoint, or for its notice, no longer.
func (k *Kernel) leave(t *aThread) {
	switch t.is.State {
	case thread.Sending, thread.Receiving:
		p, _ := one[*anEndpoint](k, t.is.On)
		p.is.Cancel(t.number)
	case thread.Waiting:
		nt, _ := one[*aNotice](k, t.is.On)
		nt.is.Cancel(t.number)
	}
}

// dismiss wakes who waits for a thread's answer, without one.
func (k *Kernel) dismiss(t *aThread) {
	if caller, ok := one[*aThread](k, t.is.Caller); ok {
		k.wakeTold(caller, api.ErrState)
		k.callerOf(t, none)
	}
}

// callerOf says who waits for a thread's answer.
func (k *Kernel) callerOf(t *aThread, caller int) { t.is, _ = thread.Ask(t.is, caller) }
