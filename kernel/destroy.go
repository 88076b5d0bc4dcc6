package kernel

import (
	"donjon/api"
)

// destroyed destroys the objects whose last capabilities a revoke tells, done
// or not, and hands on its error.
func (k *Kernel) destroyed(last []api.Cap, _ bool, e api.Errno) api.Errno {
	for _, c := range last {
		k.destroy(c)
	}
	return e
}

// destroy destroys the object that a capability names. An Irq's names a line,
// which is no object, and stays.
func (k *Kernel) destroy(c api.Cap) {
	if c.Kind == api.Irq {
		k.wires[c.Object] = unwired()
		return
	}
	o := k.named(c)
	if o == nil {
		return
	}
	k.partFrom(o)
	k.objects[c.Object] = nil
}

// partFrom lets nothing hang on an object any more.
func (k *Kernel) partFrom(o object) {
	switch x := o.(type) {
	case *aNode:
		// What is not empty stays, as what is in it does.
		k.caps.Clear(x.number)
	case *aThread:
		k.partFromThread(x)
	case *anEndpoint:
		k.turnAway(x.is.Clear())
	case *aNotice:
		k.partFromNotice(x)
	case *aSpace:
		k.partFromSpace(x)
	case mappable:
		k.takeOut(x)
	}
}

func (k *Kernel) partFromThread(t *aThread) {
	k.halt(t)
	if nt, ok := one[*aNotice](k, t.notice); ok {
		nt.is.Unbind()
	}
}

func (k *Kernel) partFromNotice(nt *aNotice) {
	_, who := nt.is.State()
	k.turnAway(who)
	if id, ok := nt.is.Unbind(); ok {
		t, _ := one[*aThread](k, id)
		t.notice = none
	}
	for line, w := range k.wires {
		if w.notice == nt.number {
			k.wires[line] = unwired()
		}
	}
}

func (k *Kernel) partFromSpace(s *aSpace) {
	for _, o := range all[mappable](k) {
		if o.mapped().space == s.number {
			k.takeOut(o)
		}
	}
	for _, t := range all[*aThread](k) {
		if t.space == s.number {
			t.space = none
		}
	}
	k.tlb.Flush(s.number)
}

// turnAway wakes those that wait for what is no more.
func (k *Kernel) turnAway(who []int) {
	for _, id := range who {
		t, _ := one[*aThread](k, id)
		k.wakeTold(t, api.ErrNone)
	}
}
