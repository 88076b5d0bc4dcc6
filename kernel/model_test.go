package kernel

import (
	"cmp"
	"slices"

	"donjon/api"
	"donjon/code"
	"donjon/moves"
	"donjon/msg"
	"donjon/revoke"
	"donjon/sched"
	"donjon/thread"
	"donjon/untyped"
)

// The model is the chapter's words over plain facts. Nobody stands in a list:
// who waits, and who is ready, is told by what each thread is at, and by when
// it came to be at that; memory is a list, and each word of a page table is
// read anew. Capabilities alone are kept by the layers below.

type fact struct {
	kind     int
	at, bits int
	used     int
	in, inAt int // where it is mapped; -1: nowhere
	word     uint64
	th       thread.Thread
	root     api.Cap
	space    int
	notice   int
	since    int // when its thread came to be at what it is at
}

type walked struct {
	space, page int
	entry       uint64
}

type line struct {
	owner           int
	pending, masked bool
	notice          int
	badge           uint64
}

type model struct {
	words []uint64
	times []sched.Time
	ticks int
	facts [64]*fact
	caps  *moves.Caps
	tlb   []walked
	lines [8]line
	count int
}

func newModel(words int, times []sched.Time) *model {
	m := &model{words: make([]uint64, words), times: times, caps: moves.New()}
	for i := range m.lines {
		m.lines[i] = line{owner: -1, masked: true, notice: -1}
	}
	return m
}

func (m *model) is(n, kind int) bool {
	return n >= 0 && n < 64 && m.facts[n] != nil && m.facts[n].kind == kind
}

func (m *model) entry() int {
	all := 0
	for _, t := range m.times {
		all += t.Ticks
	}
	left := m.ticks % all
	for i, t := range m.times {
		if left < t.Ticks {
			return i
		}
		left -= t.Ticks
	}
	return -1
}

func (m *model) domain() int { return m.times[m.entry()].Domain }

// those are the threads of which something is so, in the order in which they
// came to be at what they are at.
func (m *model) those(so func(*fact) bool) []int {
	var l []int
	for n, f := range m.facts {
		if f != nil && f.kind == api.Thread && so(f) {
			l = append(l, n)
		}
	}
	slices.SortFunc(l, func(a, b int) int { return cmp.Compare(m.facts[a].since, m.facts[b].since) })
	return l
}

func (m *model) current() (int, bool) {
	for level := 7; level >= 0; level-- {
		l := m.those(func(f *fact) bool {
			return f.th.State == thread.Ready && f.th.Level == level && f.th.Domain == m.domain()
		})
		if len(l) > 0 {
			return l[0], true
		}
	}
	return 0, false
}

func (m *model) waitsAt(n, state int) []int {
	return m.those(func(f *fact) bool { return f.th.State == state && f.th.On == n })
}

// become is what a thread is at from now on.
func (m *model) become(n, state, on int) {
	f := m.facts[n]
	f.th.State, f.th.On, f.th.Badge, f.th.Calls = state, on, 0, false
	m.count++
	f.since = m.count
}

func (m *model) tell(n int, e api.Errno) {
	if m.is(n, api.Thread) {
		m.facts[n].th.Regs[0] = uint64(e)
	}
}

func (m *model) wake(n int, e api.Errno) {
	m.become(n, thread.Ready, 0)
	m.tell(n, e)
}

func (m *model) halt(n int) {
	m.become(n, thread.Inactive, 0)
	m.dismiss(n)
	for _, f := range m.facts {
		if f != nil && f.kind == api.Thread && f.th.Caller == n {
			f.th.Caller = -1
		}
	}
}

func (m *model) dismiss(n int) {
	if c := m.facts[n].th.Caller; c >= 0 {
		m.wake(c, api.ErrState)
		m.facts[n].th.Caller = -1
	}
}

// Objects

func (f *fact) has(a int) bool { return a >= f.at && a < f.at+1<<f.bits }

func (m *model) free(n int) bool { return m.facts[n] == nil && m.caps.Radix(n) == 0 }

func (m *model) room(kind int, s api.Span) bool {
	for _, f := range m.facts {
		if f == nil || f.kind == api.Untyped && kind == api.Untyped {
			continue
		}
		both, ours, theirs := 0, 1<<s.Bits, 1<<f.bits
		for a := s.At; a < s.At+ours; a++ {
			if f.has(a) {
				both++
			}
		}
		if both == 0 || f.kind == api.Untyped && both == ours || kind == api.Untyped && both == theirs {
			continue
		}
		return false
	}
	return true
}

func (m *model) lay(n, kind int, s api.Span, size int) {
	f := &fact{kind: kind, at: s.At, bits: s.Bits, in: -1, space: -1, notice: -1}
	f.th.Caller = -1
	m.facts[n] = f
	for a := s.At; a < s.At+1<<s.Bits && kind != api.Untyped; a++ {
		m.words[a] = 0
	}
	if kind == api.Node {
		m.caps.Node(n, size)
	}
}

func (m *model) create(n, kind int, s api.Span, size int) api.Errno {
	bits, e := untyped.Bits(kind, size)
	switch {
	case n < 0 || n > 63:
		return api.ErrRange
	case !m.free(n):
		return api.ErrTwice
	case e != api.OK:
		return e
	case s.Bits != bits || s.At < 0 || s.At > 1<<16-1<<bits:
		return api.ErrRange
	case s.At%(1<<bits) != 0:
		return api.ErrAlign
	case s.At+1<<bits > len(m.words) || !m.room(kind, s):
		return api.ErrFull
	}
	m.lay(n, kind, s, size)
	return api.OK
}

func (m *model) plant(at api.Slot, c api.Cap) api.Errno {
	if c.Kind >= api.Untyped && c.Kind <= api.Space && !m.is(c.Object, c.Kind) || c.Kind == api.Irq && c.Object > 7 {
		return api.ErrNone
	}
	return m.caps.Plant(at, c)
}

func (m *model) setup(n, level, domain, pc int, root api.Cap, space int, r msg.Regs) api.Errno {
	switch {
	case !m.is(n, api.Thread):
		return api.ErrNone
	case level < 0 || level > 7 || domain < 0 || domain > 3 || pc < 0 || pc > 4095:
		return api.ErrRange
	case m.facts[n].th.State != thread.Inactive:
		return api.ErrState
	case root.Kind != api.Node || !m.is(root.Object, api.Node) || space != -1 && !m.is(space, api.Space):
		return api.ErrKind
	}
	f := m.facts[n]
	f.th = thread.Thread{Caller: f.th.Caller, Level: level, Domain: domain, Pc: pc, Regs: r}
	f.root, f.space = root, space
	return api.OK
}

func (m *model) start(n int) api.Errno {
	if !m.is(n, api.Thread) {
		return api.ErrNone
	}
	if m.facts[n].th.State != thread.Inactive {
		return api.ErrState
	}
	m.become(n, thread.Ready, 0)
	return api.OK
}

// Spaces

// leads is where an entry's word leads, if it is right and what it leads to is there.
func (m *model) leads(w uint64) (int, bool) {
	at := int(w & 0xfff0)
	return at, w&1 == 1 && w&^0xfff3 == 0 && at+16 <= len(m.words)
}

func (m *model) table(dir, a int) (int, bool) {
	w := m.words[dir+a/256]
	at, ok := m.leads(w)
	return at, ok && w&2 == 0
}

func (m *model) mapIn(n, space, a int, write bool) api.Errno {
	if !m.is(space, api.Space) || !m.is(n, api.Frame) && !m.is(n, api.Table) {
		return api.ErrNone
	}
	f, dir := m.facts[n], m.facts[space].at
	if f.in != -1 {
		return api.ErrTwice
	}
	if a < 0 || a > 4095 {
		return api.ErrRange
	}
	at, w := dir+a/256, uint64(f.at+1)
	if f.kind == api.Frame {
		table, ok := m.table(dir, a)
		if !ok {
			return api.ErrFault
		}
		at = table + a/16%16
		if write {
			w += 2
		}
	}
	if m.words[at] != 0 {
		return api.ErrTwice
	}
	m.words[at] = w
	f.in, f.inAt = space, a
	return api.OK
}

func (m *model) unmap(n int) api.Errno {
	if !m.is(n, api.Frame) && !m.is(n, api.Table) {
		return api.ErrNone
	}
	f := m.facts[n]
	if f.in == -1 {
		return api.ErrState
	}
	space, a := f.in, f.inAt
	dir := m.facts[space].at
	f.in, f.inAt = -1, 0
	if f.kind == api.Frame {
		if table, ok := m.table(dir, a); ok {
			m.words[table+a/16%16] = 0
		}
		m.forget(func(w walked) bool { return w.space == space && w.page == a/16 })
		return api.OK
	}
	for n, o := range m.facts {
		if o != nil && o.kind == api.Frame && o.in == space && o.inAt/256 == a/256 {
			m.unmap(n)
		}
	}
	m.words[dir+a/256] = 0
	m.forget(func(w walked) bool { return w.space == space })
	return api.OK
}

func (m *model) forget(is func(walked) bool) { m.tlb = slices.DeleteFunc(m.tlb, is) }

// to is where an address of a thread's space lies.
func (m *model) to(n int, a uint64, write bool) (int, bool) {
	space := m.facts[n].space
	if space == -1 || a > 4095 {
		return 0, false
	}
	page := int(a) / 16
	i := slices.IndexFunc(m.tlb, func(w walked) bool { return w.space == space && w.page == page })
	if i < 0 {
		table, ok := m.table(m.facts[space].at, int(a))
		if !ok {
			return 0, false
		}
		entry := m.words[table+page%16]
		if _, ok := m.leads(entry); !ok {
			return 0, false
		}
		if len(m.tlb) == 8 {
			m.tlb = slices.Delete(m.tlb, 0, 1)
		}
		i = len(m.tlb)
		m.tlb = append(m.tlb, walked{space, page, entry})
	}
	entry := m.tlb[i].entry
	return int(entry&0xfff0) + int(a)%16, !write || entry&2 != 0
}

func (m *model) bind(notice, th int) api.Errno {
	if !m.is(notice, api.Notice) || !m.is(th, api.Thread) {
		return api.ErrNone
	}
	if m.facts[th].notice != -1 || m.bound(notice) != -1 {
		return api.ErrTwice
	}
	m.facts[th].notice = notice
	return api.OK
}

func (m *model) bound(notice int) int {
	for n, f := range m.facts {
		if f != nil && f.kind == api.Thread && f.notice == notice {
			return n
		}
	}
	return -1
}

func (m *model) wire(n, domain, notice int, badge uint64) api.Errno {
	switch {
	case !m.is(notice, api.Notice):
		return api.ErrNone
	case badge >= 1<<28:
		return api.ErrField
	case n < 0 || n > 7 || domain < 0 || domain > 3:
		return api.ErrRange
	case m.lines[n].owner != -1:
		return api.ErrTwice
	}
	l := &m.lines[n]
	l.owner, l.masked, l.notice, l.badge = domain, false, notice, badge
	return api.OK
}

// Steps

func (m *model) step() bool {
	n, ok := m.current()
	if !ok {
		return false
	}
	f := m.facts[n]
	pc := f.th.Pc
	at, ok := m.to(n, uint64(pc), false)
	if !ok {
		m.halt(n)
		return true
	}
	i, e := code.Unpack(m.words[at])
	if e != api.OK || i.Op == code.Halt {
		m.halt(n)
		return true
	}
	fx, _ := code.Run(i, f.th.Regs, pc)
	if i.Op == code.Load || i.Op == code.Store {
		if at, ok = m.to(n, f.th.Regs[i.B]+uint64(i.Imm), i.Op == code.Store); !ok {
			m.halt(n)
			return true
		}
	}
	old := f.th.Regs
	f.th.Regs, f.th.Pc = fx.Regs, fx.Pc
	switch i.Op {
	case code.Load:
		f.th.Regs[i.A] = m.words[at]
	case code.Store:
		m.words[at] = old[i.A]
	case code.Sys:
		m.call(n, i.Imm, pc)
	}
	return true
}

func (m *model) tick() bool {
	before := m.entry()
	m.ticks++
	all := 0
	for _, t := range m.times {
		all += t.Ticks
	}
	next := m.entry() != before || len(m.times) == 1 && m.ticks%all == 0
	if n, ok := m.current(); ok && !next {
		m.become(n, thread.Ready, 0)
	}
	m.serve()
	return next
}

func (m *model) raise(n int) api.Errno {
	if n < 0 || n > 7 {
		return api.ErrRange
	}
	m.lines[n].pending = true
	m.serve()
	return api.OK
}

func (m *model) serve() {
	for i := range m.lines {
		l := &m.lines[i]
		if l.owner == m.domain() && l.pending && !l.masked {
			l.pending, l.masked = false, true
			if l.notice != -1 {
				m.signal(l.notice, l.badge)
			}
		}
	}
}

func (m *model) signal(notice int, badge uint64) {
	f := m.facts[notice]
	woken, word := -1, badge
	if l := m.waitsAt(notice, thread.Waiting); len(l) > 0 {
		woken = l[0]
	} else {
		f.word |= badge
		if b := m.bound(notice); b != -1 && m.facts[b].th.State == thread.Receiving {
			woken, word, f.word = b, f.word, 0
		}
	}
	if woken != -1 {
		m.wake(woken, api.OK)
		m.facts[woken].th.Regs[5] = word
	}
}

// Calls

func (m *model) find(n int, ptr uint64) (api.Slot, api.Cap, api.Errno) {
	return m.caps.Find(m.facts[n].root, ptr)
}

func (m *model) with(n, kind, right int) (api.Cap, bool) {
	_, c, e := m.find(n, m.facts[n].th.Regs[7])
	if e == api.OK && c.Kind != kind {
		e = api.ErrKind
	}
	if e == api.OK && c.Rights&right == 0 {
		e = api.ErrRights
	}
	if e != api.OK {
		m.tell(n, e)
	}
	return c, e == api.OK
}

func (m *model) call(n, number, pc int) {
	f := m.facts[n]
	switch number {
	case 0, 1, 2:
		m.sends(n, number)
	case 3, 4:
		m.receives(n, number == 3)
	case 5, 6:
		if f.th.Caller == -1 {
			if number == 5 {
				m.tell(n, api.ErrState)
				return
			}
		} else if !m.replies(n) {
			return
		}
		if number == 6 {
			m.receives(n, true)
		}
	case 7:
		m.become(n, thread.Ready, 0)
		m.tell(n, api.OK)
	case 8:
		if c, ok := m.with(n, api.Notice, api.Write); ok {
			m.signal(c.Object, c.Badge)
			m.tell(n, api.OK)
		}
	case 9, 10:
		c, ok := m.with(n, api.Notice, api.Read)
		if !ok {
			return
		}
		switch o := m.facts[c.Object]; {
		case o.word != 0:
			m.tell(n, api.OK)
			f.th.Regs[5], o.word = o.word, 0
		case number == 9:
			m.become(n, thread.Waiting, c.Object)
		default:
			m.tell(n, api.ErrNone)
		}
	case 11:
		if e := m.invoke(n); e == api.ErrMore {
			f.th.Pc = pc
		} else {
			m.tell(n, e)
		}
	default:
		m.tell(n, api.ErrMethod)
	}
}

// message is whether a word is an info, and how many words come with it.
func message(w uint64) (int, bool) { return int(w & 7), w>>20 == 0 && w&7 <= 4 }

// carry lays a message into who receives it.
func (m *model) carry(from, to int, badge uint64) bool {
	a, b := &m.facts[from].th.Regs, &m.facts[to].th.Regs
	length, ok := message(a[0])
	if !ok {
		return false
	}
	for i := 0; i <= length; i++ {
		b[i] = a[i]
	}
	b[5] = badge
	return true
}

func (m *model) hand(from, to, rights int) {
	if m.facts[from].th.Regs[0]&8 == 0 || rights&api.Grant == 0 {
		return
	}
	src, _, e := m.find(from, m.facts[from].th.Regs[6])
	dst, e2 := m.caps.Slot(m.facts[to].root, m.facts[to].th.Regs[6], 16)
	if e == api.OK && e2 == api.OK {
		m.caps.Copy(src, dst, 7)
	}
}

func (m *model) sends(n, number int) {
	c, ok := m.with(n, api.Endpoint, api.Write)
	if !ok {
		return
	}
	if _, ok := message(m.facts[n].th.Regs[0]); !ok {
		m.tell(n, api.ErrField)
		return
	}
	l := m.waitsAt(c.Object, thread.Receiving)
	switch {
	case len(l) > 0:
		m.hand(n, l[0], c.Rights)
		m.carry(n, l[0], c.Badge)
		m.become(l[0], thread.Ready, 0)
		if number == 2 {
			m.become(n, thread.Asking, 0)
			m.facts[l[0]].th.Caller = n
		} else {
			m.tell(n, api.OK)
		}
	case number == 1:
		m.tell(n, api.OK)
	default:
		m.become(n, thread.Sending, c.Object)
		m.facts[n].th.Badge, m.facts[n].th.Calls = c.Badge, number == 2
	}
}

func (m *model) receives(n int, waits bool) {
	c, ok := m.with(n, api.Endpoint, api.Read)
	if !ok {
		return
	}
	m.dismiss(n)
	f := m.facts[n]
	if f.notice != -1 && m.facts[f.notice].word != 0 {
		m.tell(n, api.OK)
		f.th.Regs[5], m.facts[f.notice].word = m.facts[f.notice].word, 0
		return
	}
	l := m.waitsAt(c.Object, thread.Sending)
	switch {
	case len(l) > 0:
		s := m.facts[l[0]]
		held := 0
		if _, now, e := m.find(l[0], s.th.Regs[7]); e == api.OK && now.Kind == api.Endpoint && now.Object == c.Object {
			held = now.Rights
		}
		m.hand(l[0], n, held)
		m.carry(l[0], n, s.th.Badge)
		if s.th.Calls {
			m.become(l[0], thread.Asking, 0)
			f.th.Caller = l[0]
		} else {
			m.wake(l[0], api.OK)
		}
	case waits:
		m.become(n, thread.Receiving, c.Object)
	default:
		m.tell(n, api.ErrNone)
	}
}

func (m *model) replies(n int) bool {
	f := m.facts[n]
	if !m.carry(n, f.th.Caller, 0) {
		m.tell(n, api.ErrField)
		return false
	}
	m.become(f.th.Caller, thread.Ready, 0)
	f.th.Caller = -1
	m.tell(n, api.OK)
	return true
}

// Invoke

func (m *model) invoke(n int) api.Errno {
	r := m.facts[n].th.Regs
	at, c, e := m.find(n, r[7])
	if e != api.OK {
		return e
	}
	numbers := api.OK
	for _, v := range r[1:4] {
		if v > 65535 {
			numbers = api.ErrRange
		}
	}
	o, method := c.Object, r[0]
	switch {
	case c.Kind == api.Untyped && method == 1:
		if numbers != api.OK {
			return numbers
		}
		return m.retype(n, at, o, int(r[1]), int(r[2]), int(r[3]))
	case c.Kind == api.Node && method >= 1 && method <= 6:
		if numbers != api.OK {
			return numbers
		}
		return m.node(n, o, r)
	case c.Kind == api.Thread && method == 1:
		return m.start(o)
	case c.Kind == api.Thread && method == 2:
		m.halt(o)
		return api.OK
	case c.Kind == api.Thread && method >= 3 && method <= 5:
		return m.numbered(n, o, r)
	case (c.Kind == api.Frame || c.Kind == api.Table) && method == 1:
		_, s, e := m.find(n, r[1])
		switch {
		case e != api.OK:
			return e
		case s.Kind != api.Space:
			return api.ErrKind
		case r[2] > 65535:
			return api.ErrRange
		case c.Kind == api.Frame && (c.Rights&1 == 0 || r[3] != 0 && c.Rights&2 == 0):
			return api.ErrRights
		}
		return m.mapIn(o, s.Object, int(r[2]), r[3] != 0)
	case (c.Kind == api.Frame || c.Kind == api.Table) && method == 2:
		return m.unmap(o)
	case c.Kind == api.Irq && method == 1:
		if m.lines[o].owner == -1 || !m.lines[o].masked {
			return api.ErrState
		}
		m.lines[o].masked = false
		return api.OK
	}
	return api.ErrMethod
}

func (m *model) retype(n int, of api.Slot, o, kind, size, count int) api.Errno {
	u := m.facts[o]
	used := u.used
	if len(m.caps.Children(of)) == 0 {
		used = 0
	}
	spans, used, e := untyped.Plan(api.Span{At: u.at, Bits: u.bits}, used, kind, size, count)
	if e != api.OK {
		return e
	}
	first, e := m.caps.Slot(m.facts[n].root, m.facts[n].th.Regs[4], 16)
	if e != api.OK {
		return e
	}
	for i := range count {
		c, e := m.caps.Get(api.Slot{Node: first.Node, At: first.At + i})
		if e != api.OK {
			return e
		}
		if c != (api.Cap{}) {
			return api.ErrTwice
		}
	}
	var numbers []int
	for n := range 64 {
		if m.free(n) {
			numbers = append(numbers, n)
		}
	}
	if len(numbers) < count {
		return api.ErrFull
	}
	for _, s := range spans {
		if !m.room(kind, s) {
			return api.ErrFull
		}
	}
	for i, s := range spans {
		m.lay(numbers[i], kind, s, size)
		m.caps.Child(of, api.Slot{Node: first.Node, At: first.At + i}, full(kind, numbers[i]))
	}
	u.used = used
	return api.OK
}

func (m *model) node(n, o int, r msg.Regs) api.Errno {
	slot := func(v uint64) api.Slot { return api.Slot{Node: o, At: int(v)} }
	switch r[0] {
	case 4:
		return m.caps.Rotate(slot(r[1]), slot(r[2]), slot(r[3]))
	case 5:
		return m.destroy(revoke.Delete(m.caps, slot(r[1]), 8))
	case 6:
		return m.destroy(revoke.Revoke(m.caps, slot(r[1]), 8))
	}
	src, c, e := m.find(n, r[1])
	if e != api.OK {
		return e
	}
	switch r[0] {
	case 1:
		return m.caps.Copy(src, slot(r[2]), int(r[3]))
	case 2:
		return m.caps.Mint(src, slot(r[2]), int(r[3]), r[4], c.Guard, c.Bits)
	}
	return m.caps.Move(src, slot(r[2]))
}

func (m *model) numbered(n, o int, r msg.Regs) api.Errno {
	f := m.facts[o]
	switch {
	case r[1] > 7:
		return api.ErrRange
	case r[0] == 3:
		f.th.Level = int(r[1])
		if f.th.State == thread.Ready {
			m.become(o, thread.Ready, 0)
		}
	case r[0] == 5:
		m.facts[n].th.Regs[1] = f.th.Regs[r[1]]
	case f.th.State != thread.Inactive:
		return api.ErrState
	default:
		f.th.Regs[r[1]] = r[2]
	}
	return api.OK
}

func (m *model) destroy(told []api.Cap, _ bool, e api.Errno) api.Errno {
	for _, c := range told {
		n := c.Object
		if c.Kind == api.Irq {
			m.lines[n].notice = -1
		}
		if c.Kind < api.Untyped || c.Kind > api.Space {
			continue
		}
		for _, id := range m.those(func(f *fact) bool {
			return f.th.On == n && (c.Kind == api.Endpoint && (f.th.State == thread.Sending || f.th.State == thread.Receiving) ||
				c.Kind == api.Notice && f.th.State == thread.Waiting)
		}) {
			m.wake(id, api.ErrNone)
		}
		switch c.Kind {
		case api.Thread:
			m.halt(n)
		case api.Notice:
			for _, f := range m.facts {
				if f != nil && f.notice == n {
					f.notice = -1
				}
			}
			for i := range m.lines {
				if m.lines[i].notice == n {
					m.lines[i].notice = -1
				}
			}
		case api.Frame, api.Table:
			m.unmap(n)
		case api.Space:
			for i, f := range m.facts {
				if f != nil && f.in == n {
					m.unmap(i)
				}
				if f != nil && f.space == n {
					f.space = -1
				}
			}
			m.forget(func(w walked) bool { return w.space == n })
		case api.Node:
			m.caps.Clear(n)
		}
		m.facts[n] = nil
	}
	return e
}
