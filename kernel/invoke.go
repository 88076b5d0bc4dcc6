package kernel

import (
	"donjon/api"
	"donjon/revoke"
	"donjon/rights"
	"donjon/thread"
	"donjon/untyped"
)

const (
	allRights   = api.Read | api.Write | api.Grant
	maxNumber   = 65535 // of a number of a register
	stepsAtOnce = 8     // of a revoke
)

// invoke does what is asked of what register 7 leads to. What is not done yet
// is done once more, by the same instruction, whose place is here.
func (k *Kernel) invoke(t *aThread, here int) {
	e := k.invoked(t)
	if e == api.ErrMore {
		t.is.Pc = here
		return
	}
	k.tell(t, e)
}

func (k *Kernel) invoked(t *aThread) api.Errno {
	at, c, e := k.find(t, t.is.Regs[ofReg])
	if e != api.OK {
		return e
	}
	method := t.is.Regs[0]
	switch o := k.named(c).(type) {
	case *anUntyped:
		return k.ofUntyped(t, method, at, o)
	case *aNode:
		return k.ofNode(t, method, o)
	case *aThread:
		return k.ofThread(t, method, o)
	case mappable:
		return k.ofMappable(t, method, c.Rights, o)
	}
	if c.Kind == api.Irq && method == 1 {
		return k.irq.Ack(c.Object)
	}
	return api.ErrMethod
}

// numberUpTo is what a register holds, if that is from 0 to most.
func numberUpTo(most, w uint64) (int, api.Errno) {
	if w > most {
		return 0, api.ErrRange
	}
	return int(w), api.OK
}

// numbers are what the registers 1 to 3 hold, if these are numbers.
func numbers(t *aThread) ([3]int, api.Errno) {
	var list [3]int
	for i := range list {
		n, e := numberUpTo(maxNumber, t.is.Regs[1+i])
		if e != api.OK {
			return [3]int{}, e
		}
		list[i] = n
	}
	return list, api.OK
}

func (k *Kernel) ofUntyped(t *aThread, method uint64, at api.Slot, u *anUntyped) api.Errno {
	if method != 1 {
		return api.ErrMethod
	}
	n, e := numbers(t)
	if e != api.OK {
		return e
	}
	return k.retype(t, at, u, n[0], n[1], n[2])
}

// retype makes objects of what an Untyped, whose capability is at of, has left.
func (k *Kernel) retype(t *aThread, of api.Slot, u *anUntyped, kind, size, count int) api.Errno {
	spans, used, e := untyped.Plan(u.span, k.usedOf(of, u), kind, size, count)
	if e != api.OK {
		return e
	}
	first, e := k.slot(t, t.is.Regs[4])
	if e != api.OK {
		return e
	}
	places, e := k.places(first, count)
	if e != api.OK {
		return e
	}
	numbers := k.free(count)
	if len(numbers) < count || !k.mayAllLie(kind, spans) {
		return api.ErrFull
	}
	for i, n := range numbers {
		k.lay(n, kind, spans[i], size)
		k.caps.Child(of, places[i], firstCap(kind, n))
	}
	u.used = used
	return api.OK
}

// usedOf is how much of an Untyped counts as used: nothing, if all that was
// made of it, by the capability in that slot, is gone.
func (k *Kernel) usedOf(at api.Slot, u *anUntyped) int {
	if len(k.caps.Children(at)) == 0 {
		return 0
	}
	return u.used
}

// places are so many slots from one on, if they are there, and empty.
func (k *Kernel) places(first api.Slot, count int) ([]api.Slot, api.Errno) {
	var list []api.Slot
	for i := range count {
		at := api.Slot{Node: first.Node, At: first.At + i}
		c, e := k.caps.Get(at)
		if e != api.OK {
			return nil, e
		}
		if c.Kind != api.Null {
			return nil, api.ErrTwice
		}
		list = append(list, at)
	}
	return list, api.OK
}

// free is the least numbers that are free: so many, or fewer, if there are not
// so many.
func (k *Kernel) free(count int) []int {
	var list []int
	for n := range k.objects {
		if len(list) < count && k.isFree(n) {
			list = append(list, n)
		}
	}
	return list
}

func (k *Kernel) mayAllLie(kind int, spans []api.Span) bool {
	for _, s := range spans {
		if !k.mayLie(kind, s) {
			return false
		}
	}
	return true
}

// firstCap is the first capability of a new object.
func firstCap(kind, n int) api.Cap {
	c := api.Cap{Kind: kind, Object: n}
	switch kind {
	case api.Endpoint, api.Notice, api.Frame:
		c.Rights = allRights
	}
	return c
}

func (k *Kernel) ofNode(t *aThread, method uint64, o *aNode) api.Errno {
	if method < 1 || method > 6 {
		return api.ErrMethod
	}
	n, e := numbers(t)
	if e != api.OK {
		return e
	}
	slot := func(at int) api.Slot { return api.Slot{Node: o.number, At: at} }
	switch method {
	case 4:
		return k.caps.Rotate(slot(n[0]), slot(n[1]), slot(n[2]))
	case 5:
		return k.destroyed(revoke.Delete(k.caps, slot(n[0]), stepsAtOnce))
	case 6:
		return k.destroyed(revoke.Revoke(k.caps, slot(n[0]), stepsAtOnce))
	}
	return k.intoNode(t, method, slot(n[1]), n[2])
}

// intoNode copies, mints or moves what register 1 leads to into a Node's slot.
func (k *Kernel) intoNode(t *aThread, method uint64, to api.Slot, held int) api.Errno {
	from, c, e := k.find(t, t.is.Regs[1])
	if e != api.OK {
		return e
	}
	switch method {
	case 1:
		return k.caps.Copy(from, to, held)
	case 2:
		return k.caps.Mint(from, to, held, t.is.Regs[4], c.Guard, c.Bits)
	}
	return k.caps.Move(from, to)
}

func (k *Kernel) ofThread(t *aThread, method uint64, o *aThread) api.Errno {
	switch method {
	case 1:
		return k.start(o)
	case 2:
		k.halt(o)
		return api.OK
	case 3, 4, 5:
		return k.numbered(t, method, o)
	}
	return api.ErrMethod
}

// numbered does what is asked of a thread with a level, or a register, whose
// number register 1 is.
func (k *Kernel) numbered(t *aThread, method uint64, o *aThread) api.Errno {
	n, e := numberUpTo(api.Levels-1, t.is.Regs[1])
	if e != api.OK {
		return e
	}
	switch method {
	case 3:
		k.raiseTo(o, n)
	case 4:
		if o.is.State != thread.Inactive {
			return api.ErrState
		}
		o.is.Regs[n] = t.is.Regs[2]
	case 5:
		t.is.Regs[1] = o.is.Regs[n]
	}
	return api.OK
}

// raiseTo gives a thread a level.
func (k *Kernel) raiseTo(t *aThread, level int) {
	t.is.Level = level
	if k.sched.Drop(t.number) {
		k.ready(t)
	}
}

func (k *Kernel) ofMappable(t *aThread, method uint64, held int, o mappable) api.Errno {
	switch method {
	case 1:
		return k.mapTo(t, held, o)
	case 2:
		return k.takeOut(o)
	}
	return api.ErrMethod
}

// mapTo maps an object into the Space to which register 1 leads.
func (k *Kernel) mapTo(t *aThread, held int, o mappable) api.Errno {
	_, c, e := k.find(t, t.is.Regs[1])
	if e != api.OK {
		return e
	}
	into, ok := k.named(c).(*aSpace)
	if !ok {
		return api.ErrKind
	}
	a, e := numberUpTo(maxNumber, t.is.Regs[2])
	if e != api.OK {
		return e
	}
	write := t.is.Regs[3] != 0
	if kindOf(o) == api.Frame && !rights.Within(rightsToMap(write), held) {
		return api.ErrRights
	}
	return k.layIn(o, into, a, write)
}

// rightsToMap is the rights without which a Frame is not mapped.
func rightsToMap(write bool) int {
	if write {
		return api.Read | api.Write
	}
	return api.Read
}
