package kernel

import (
	"donjon/api"
	"donjon/bits"
	"donjon/msg"
	"donjon/space"
	"donjon/thread"
)

const (
	addresses = api.Pages * api.PageWords     // of a space
	ofTable   = api.PageWords * api.PageWords // those to which a table leads
	badgeLen  = 28                            // bits of a badge
)

// Setup says what a thread that is inactive is.
func (k *Kernel) Setup(n, level, domain, pc int, root api.Cap, space int, regs msg.Regs) api.Errno {
	t, ok := one[*aThread](k, n)
	if !ok {
		return api.ErrNone
	}
	is, e := thread.New(level, domain)
	if e != api.OK {
		return e
	}
	if pc < 0 || pc >= addresses {
		return api.ErrRange
	}
	if t.is.State != thread.Inactive {
		return api.ErrState
	}
	if !k.mayRoot(root) || !k.maySpace(space) {
		return api.ErrKind
	}
	is.Pc, is.Regs, is.Caller = pc, regs, t.is.Caller
	t.is, t.root, t.space = is, root, space
	return api.OK
}

func (k *Kernel) mayRoot(root api.Cap) bool {
	_, ok := one[*aNode](k, root.Object)
	return ok && root.Kind == api.Node
}

func (k *Kernel) maySpace(n int) bool {
	_, ok := one[*aSpace](k, n)
	return ok || n == none
}

// Start lets a thread run.
func (k *Kernel) Start(n int) api.Errno {
	t, ok := one[*aThread](k, n)
	if !ok {
		return api.ErrNone
	}
	return k.start(t)
}

// Map maps a frame, or a table.
func (k *Kernel) Map(n, space, a int, write bool) api.Errno {
	into, ok := one[*aSpace](k, space)
	if !ok {
		return api.ErrNone
	}
	o, ok := one[mappable](k, n)
	if !ok {
		return api.ErrNone
	}
	return k.layIn(o, into, a, write)
}

// Unmap takes it out.
func (k *Kernel) Unmap(n int) api.Errno {
	o, ok := one[mappable](k, n)
	if !ok {
		return api.ErrNone
	}
	return k.takeOut(o)
}

// Bind binds a thread to a notice.
func (k *Kernel) Bind(notice, thread int) api.Errno {
	to, ok := one[*aNotice](k, notice)
	if !ok {
		return api.ErrNone
	}
	t, ok := one[*aThread](k, thread)
	if !ok {
		return api.ErrNone
	}
	if t.notice != none {
		return api.ErrTwice
	}
	if e := to.is.Bind(thread); e != api.OK {
		return e
	}
	t.notice = notice
	return api.OK
}

// Wire gives a line of interrupts to a domain, and a notice.
func (k *Kernel) Wire(line, domain, notice int, badge uint64) api.Errno {
	if _, ok := one[*aNotice](k, notice); !ok {
		return api.ErrNone
	}
	if bits.High(badge) >= badgeLen {
		return api.ErrField
	}
	if e := k.irq.Own(line, domain); e != api.OK {
		return e
	}
	k.wires[line] = wire{notice: notice, badge: badge}
	return api.OK
}

// layIn maps an object that is not mapped.
func (k *Kernel) layIn(o mappable, into *aSpace, a int, write bool) api.Errno {
	m := o.mapped()
	if m.isMapped() {
		return api.ErrTwice
	}
	if e := k.enter(o, into.span.At, a, write); e != api.OK {
		return e
	}
	m.space, m.at = into.number, a
	return api.OK
}

// enter writes the word by which an object is mapped.
func (k *Kernel) enter(o mappable, dir, a int, write bool) api.Errno {
	if kindOf(o) == api.Table {
		return space.Table(k.mem, dir, a, o.where().At)
	}
	return space.Map(k.mem, dir, a, o.where().At, write)
}

// takeOut unmaps an object. The layer below refuses nothing, unless somebody
// has poked into the tables; the object is mapped no longer then, either.
func (k *Kernel) takeOut(o mappable) api.Errno {
	m := o.mapped()
	if !m.isMapped() {
		return api.ErrState
	}
	dir := k.directory(m.space)
	switch x := o.(type) {
	case *aFrame:
		space.Unmap(k.mem, dir, x.at)
		k.tlb.Drop(x.space, x.at/api.PageWords)
	case *aTable:
		k.takeOutBehind(x)
		space.Untable(k.mem, dir, x.at)
		k.tlb.Flush(x.space)
	}
	*m = mapping{space: none}
	return api.OK
}

// takeOutBehind unmaps all Frames to which a Table leads.
func (k *Kernel) takeOutBehind(t *aTable) {
	for _, f := range all[*aFrame](k) {
		if f.space == t.space && f.at/ofTable == t.at/ofTable {
			k.takeOut(f)
		}
	}
}

// directory is where the directory of a Space that is there begins.
func (k *Kernel) directory(n int) int {
	s, _ := one[*aSpace](k, n)
	return s.span.At
}
