package kernel

import (
	"fmt"
	"math/rand/v2"
	"slices"
	"testing"

	"donjon/api"
	"donjon/code"
	"donjon/msg"
	"donjon/sched"
	"donjon/thread"
)

// telling is all that a kernel tells (24.6), but for what its slots have.
type telling struct {
	now             int
	runs            bool
	domain          int
	pending, masked uint64
	objects         [64]Object
	threads         [64]thread.Thread
	there, isThread [64]bool
	states          [64]uint64
	who             [64][]int
	slots           []api.Slot
	caps            []api.Cap
	words           []uint64
}

func tellingOf(k *Kernel, words int) telling {
	var l telling
	l.now, l.runs = k.Current()
	l.domain = k.Domain()
	l.pending, l.masked = k.Pending()
	for n := range 64 {
		l.objects[n], l.there[n] = k.Object(n)
		l.threads[n], l.isThread[n] = k.Thread(n)
		l.states[n], l.who[n] = k.Waiting(n)
	}
	l.slots = k.Slots()
	for _, at := range l.slots {
		c, _ := k.Cap(at)
		l.caps = append(l.caps, c)
	}
	l.words, _ = k.Words(0, words)
	return l
}

// tellingOfModel is what the chapter says that is told.
func tellingOfModel(m *model) telling {
	var l telling
	l.now, l.runs = m.current()
	l.domain = m.domain()
	for i, x := range m.lines {
		if x.pending {
			l.pending += 1 << i
		}
		if x.masked {
			l.masked += 1 << i
		}
	}
	for n, f := range m.facts {
		if f == nil {
			continue
		}
		l.there[n] = true
		l.objects[n] = Object{Kind: f.kind, Span: api.Span{At: f.at, Bits: f.bits}, Used: f.used, Mapped: f.in != -1, Space: f.in, At: f.inAt}
		switch f.kind {
		case api.Thread:
			l.threads[n], l.isThread[n] = f.th, true
		case api.Endpoint:
			if s := m.waitsAt(n, thread.Sending); len(s) > 0 {
				l.states[n], l.who[n] = 1, s
			}
			if r := m.waitsAt(n, thread.Receiving); len(r) > 0 {
				l.states[n], l.who[n] = 2, r
			}
		case api.Notice:
			l.states[n], l.who[n] = f.word, m.waitsAt(n, thread.Waiting)
		}
	}
	l.slots = m.caps.Full()
	for _, at := range l.slots {
		c, _ := m.caps.Get(at)
		l.caps = append(l.caps, c)
	}
	l.words = m.words
	return l
}

// differs is the first thing in which two of them differ.
func (l *telling) differs(o *telling) string {
	switch {
	case l.now != o.now || l.runs != o.runs || l.domain != o.domain:
		return fmt.Sprintf("runs %d %t in %d; %d %t in %d", l.now, l.runs, l.domain, o.now, o.runs, o.domain)
	case l.pending != o.pending || l.masked != o.masked:
		return fmt.Sprintf("pending %d masked %d; %d, %d", l.pending, l.masked, o.pending, o.masked)
	case !slices.Equal(l.slots, o.slots) || !slices.Equal(l.caps, o.caps):
		return fmt.Sprintf("slots %v %v; %v %v", l.slots, l.caps, o.slots, o.caps)
	}
	for n := range 64 {
		switch {
		case l.there[n] != o.there[n] || l.objects[n] != o.objects[n]:
			return fmt.Sprintf("object %d: %+v %t; %+v %t", n, l.objects[n], l.there[n], o.objects[n], o.there[n])
		case l.isThread[n] != o.isThread[n] || l.threads[n] != o.threads[n]:
			return fmt.Sprintf("thread %d: %+v %t; %+v %t", n, l.threads[n], l.isThread[n], o.threads[n], o.isThread[n])
		case l.states[n] != o.states[n] || !slices.Equal(l.who[n], o.who[n]):
			return fmt.Sprintf("waiting %d: %d %v; %d %v", n, l.states[n], l.who[n], o.states[n], o.who[n])
		}
	}
	for a := range l.words {
		if l.words[a] != o.words[a] {
			return fmt.Sprintf("word %d: %d; %d", a, l.words[a], o.words[a])
		}
	}
	return ""
}

// twins are a kernel and the model, of which the same is asked.
type twins struct {
	t     *testing.T
	rand  *rand.Rand
	k     *Kernel
	m     *model
	size  int   // of memory
	calls []int // those that a row leans on
	kinds []int // what it invokes
	ways  []int // and what is done with Nodes
	pokes bool  // whether it pokes into tables
	did   []string
	seen  map[string]int // how often each thing happened
}

// leanings are what rows lean on: messages, notices, capabilities, objects that
// are made and taken away, spaces, what is waited for and taken away, and all of it.
var leanings = []struct{ calls, kinds, methods []int }{
	{[]int{Send, NBSend, Call, Call, Recv, Recv, NBRecv, Reply, Reply, ReplyRecv, ReplyRecv, Yield, Signal, Invoke}, []int{api.Thread, api.Node}, []int{1, 2, 3, 4, 5, 6}},
	{[]int{Signal, Signal, Wait, Poll, Recv, NBRecv, ReplyRecv, Send, Yield, Invoke}, []int{api.Irq, api.Irq, api.Thread, api.Node}, []int{1, 2, 3, 4, 5, 6}},
	{[]int{Invoke, Invoke, Invoke, Invoke, Send, Recv}, []int{api.Node}, []int{1, 1, 1, 1, 1, 1, 1, 2, 3, 4, 5, 6}},
	{[]int{Invoke}, []int{api.Untyped, api.Untyped, api.Node, api.Node}, []int{1, 1, 1, 3, 4, 5, 6}},
	{[]int{Invoke}, []int{api.Frame, api.Table, api.Table, api.Frame, api.Node}, []int{1, 2, 3, 4, 5, 6}},
	{[]int{Send, Call, Recv, Wait, Signal, Invoke, Invoke, Invoke}, []int{api.Node}, []int{5, 5, 6}},
	{[]int{Send, NBSend, Call, Recv, NBRecv, Reply, ReplyRecv, Yield, Signal, Wait, Poll, Invoke, Invoke, Invoke, Invoke, Invoke, 12}, []int{1, 2, 2, 2, 3, 4, 5, 6, 7, 8, 9, 10, 11}, []int{1, 2, 3, 4, 5, 6}},
}

const rowsWords = 1024

func newTwins(t *testing.T, seed uint64, seen map[string]int) *twins {
	t.Helper()
	r := rand.New(rand.NewPCG(seed, 24))
	times := []sched.Time{{Domain: 0, Ticks: 1 + r.IntN(5)}}
	for range r.IntN(4) {
		times = append(times, sched.Time{Domain: r.IntN(3), Ticks: 1 + r.IntN(3)})
	}
	k, e := New(rowsWords, times)
	if e != api.OK {
		t.Fatalf("New: error %d", e)
	}
	lean := leanings[seed%uint64(len(leanings))]
	tw := &twins{t: t, rand: r, k: k, m: newModel(rowsWords, times), size: rowsWords, calls: lean.calls, kinds: lean.kinds, ways: lean.methods, seen: seen}
	tw.do("New(%v)", times)
	tw.begin()
	return tw
}

func (tw *twins) do(form string, args ...any) { tw.did = append(tw.did, fmt.Sprintf(form, args...)) }

// fail tells what was done last.
func (tw *twins) fail(form string, args ...any) {
	tw.t.Helper()
	from := max(0, len(tw.did)-40)
	for _, d := range tw.did[from:] {
		tw.t.Log(d)
	}
	tw.t.Fatalf(form, args...)
}

// same asks that both answer the same error, and tell the same.
func (tw *twins) same(got, want api.Errno) {
	tw.t.Helper()
	if got != want {
		tw.fail("error %d, not %d", got, want)
	}
	tw.look()
}

func (tw *twins) look() {
	tw.t.Helper()
	a, b := tellingOf(tw.k, tw.size), tellingOfModel(tw.m)
	if d := a.differs(&b); d != "" {
		tw.fail("told, and not as the chapter says: %s", d)
	}
	if bad := a.wrong(tw.pokes); bad != "" {
		tw.fail("24.8: %s", bad)
	}
}

func (tw *twins) create(n, kind int, s api.Span, size int) {
	tw.t.Helper()
	tw.do("Create(%d, %d, %v, %d)", n, kind, s, size)
	tw.same(tw.k.Create(n, kind, s, size), tw.m.create(n, kind, s, size))
}

func (tw *twins) plant(at api.Slot, c api.Cap) {
	tw.t.Helper()
	tw.do("Plant(%v, %+v)", at, c)
	tw.same(tw.k.Plant(at, c), tw.m.plant(at, c))
}

func (tw *twins) setup(n, level, domain, pc int, root api.Cap, space int, r msg.Regs) {
	tw.t.Helper()
	tw.do("Setup(%d, %d, %d, %d, %+v, %d, %v)", n, level, domain, pc, root, space, r)
	tw.same(tw.k.Setup(n, level, domain, pc, root, space, r), tw.m.setup(n, level, domain, pc, root, space, r))
}

func (tw *twins) start(n int) {
	tw.t.Helper()
	tw.do("Start(%d)", n)
	tw.same(tw.k.Start(n), tw.m.start(n))
}

func (tw *twins) mapIn(n, space, a int, write bool) {
	tw.t.Helper()
	tw.do("Map(%d, %d, %d, %t)", n, space, a, write)
	tw.same(tw.k.Map(n, space, a, write), tw.m.mapIn(n, space, a, write))
}

func (tw *twins) unmap(n int) {
	tw.t.Helper()
	tw.do("Unmap(%d)", n)
	tw.same(tw.k.Unmap(n), tw.m.unmap(n))
}

func (tw *twins) bind(notice, th int) {
	tw.t.Helper()
	tw.do("Bind(%d, %d)", notice, th)
	tw.same(tw.k.Bind(notice, th), tw.m.bind(notice, th))
}

func (tw *twins) wire(line, domain, notice int, badge uint64) {
	tw.t.Helper()
	tw.do("Wire(%d, %d, %d, %d)", line, domain, notice, badge)
	tw.same(tw.k.Wire(line, domain, notice, badge), tw.m.wire(line, domain, notice, badge))
}

func (tw *twins) raise(line int) {
	tw.t.Helper()
	tw.do("Raise(%d)", line)
	tw.same(tw.k.Raise(line), tw.m.raise(line))
}

func (tw *twins) tick() {
	tw.t.Helper()
	tw.do("Tick")
	if got, want := tw.k.Tick(), tw.m.tick(); got != want {
		tw.fail("tick: %t, not %t", got, want)
	}
	tw.look()
}

func (tw *twins) poke(a int, v uint64) {
	tw.t.Helper()
	if e := tw.k.Poke(a, v); e != api.OK {
		tw.fail("Poke(%d): error %d", a, e)
	}
	tw.m.words[a] = v
}

// step lets both step, once an instruction was poked to where the thread that
// runs is at, if there is such a place.
func (tw *twins) step(i code.Ins, look bool) bool {
	tw.t.Helper()
	n, ok := tw.m.current()
	if ok {
		tw.lay(n, i)
	}
	got, want := tw.k.Step(), tw.m.step()
	if got != want || got != ok {
		tw.fail("step: %t, not %t", got, want)
	}
	if look {
		tw.look()
	}
	return ok
}

// lay pokes an instruction to where a thread is at, if its page is there.
func (tw *twins) lay(n int, i code.Ins) {
	tw.t.Helper()
	th := tw.m.facts[n]
	if th.space == -1 {
		return
	}
	table, ok := tw.m.table(tw.m.facts[th.space].at, th.th.Pc)
	if !ok {
		return
	}
	if at, ok := tw.m.leads(tw.m.words[table+th.th.Pc/16%16]); ok {
		tw.poke(at+th.th.Pc%16, packed(i))
	}
}

// What there is at the beginning of each row. Memory is laid out by hand:
// the Node 0 at 0, the Space 1, its Table 2, pages of code, and so on.
func (tw *twins) begin() {
	r := tw.rand
	tw.create(0, api.Node, api.Span{At: 0, Bits: 5}, 4)
	tw.create(1, api.Space, api.Span{At: 32, Bits: 4}, 0)
	tw.create(2, api.Table, api.Span{At: 48, Bits: 4}, 0)
	tw.create(3, api.Node, api.Span{At: 64, Bits: 5}, 4)
	tw.create(4, api.Space, api.Span{At: 96, Bits: 4}, 0)
	tw.create(5, api.Table, api.Span{At: 112, Bits: 4}, 0)
	tw.create(6, api.Frame, api.Span{At: 128, Bits: 4}, 0)
	tw.create(7, api.Node, api.Span{At: 144, Bits: 4}, 3)
	tw.create(8, api.Endpoint, api.Span{At: 160, Bits: 1}, 0)
	tw.create(9, api.Endpoint, api.Span{At: 162, Bits: 1}, 0)
	tw.create(10, api.Notice, api.Span{At: 164, Bits: 1}, 0)
	tw.create(11, api.Notice, api.Span{At: 166, Bits: 1}, 0)
	tw.create(12, api.Untyped, api.Span{At: 256, Bits: 6 + r.IntN(3)}, 0)
	tw.create(12, api.Untyped, api.Span{At: 256, Bits: 7}, 7)
	tw.mapIn(2, 1, 0, false)
	for n := range 6 {
		tw.create(20+n, api.Frame, api.Span{At: 512 + 32*n, Bits: 4}, 0)
		tw.mapIn(20+n, 1, 16*n, r.IntN(2) == 0)
		tw.create(30+n, api.Thread, api.Span{At: 512 + 32*n + 16, Bits: 4}, 0)
	}
	tw.plants()
	for n := range 6 {
		tw.wake(30 + n)
	}
	for _, notice := range []int{10, 11} {
		if r.IntN(3) > 0 {
			tw.bind(notice, 30+r.IntN(6))
		}
	}
	for line := range 8 {
		if r.IntN(3) > 0 {
			tw.wire(line, r.IntN(3), 10+r.IntN(2), 1<<line)
		}
	}
}

// wake sets a thread up and starts it.
func (tw *twins) wake(n int) {
	r := tw.rand
	// By a root with 12 bits the Node's own slots are found; by one with 8 bits what
	// is in the Nodes in it, too.
	root := api.Cap{Kind: api.Node, Object: []int{0, 0, 0, 3}[r.IntN(4)], Bits: []int{12, 12, 8}[r.IntN(3)]}
	tw.setup(n, r.IntN(2), []int{0, 0, 0, 1, 2}[r.IntN(5)], 16*((n-30)%6)+r.IntN(3), root, 1, msg.Regs{})
	tw.start(n)
}

// plants fills slots of the Nodes 0, 3 and 7.
func (tw *twins) plants() {
	r := tw.rand
	for _, node := range []int{0, 3} {
		tw.plant(api.Slot{Node: node, At: 15}, api.Cap{Kind: api.Node, Object: node, Bits: 12})
		tw.plant(api.Slot{Node: node, At: 14}, api.Cap{Kind: api.Node, Object: 7, Bits: r.IntN(2)})
		tw.plant(api.Slot{Node: node, At: 13}, api.Cap{Kind: api.Node, Object: 3 - node})
	}
	for node := range 2 {
		tw.plant(api.Slot{Node: 3 * node, At: r.IntN(12)}, with(api.Endpoint, 8, 7, uint64(r.IntN(9))))
		tw.plant(api.Slot{Node: 3 * node, At: r.IntN(12)}, with(api.Notice, 10, 7, uint64(r.IntN(9))))
	}
	for range 20 {
		tw.plant(tw.slot(), tw.cap())
	}
}

func (tw *twins) slot() api.Slot {
	r := tw.rand
	switch r.IntN(8) {
	case 0:
		return api.Slot{Node: 7, At: r.IntN(9)}
	case 1, 2:
		return api.Slot{Node: 3, At: r.IntN(13)}
	case 3:
		return api.Slot{Node: r.IntN(64), At: r.IntN(16)}
	}
	return api.Slot{Node: 0, At: r.IntN(13)}
}

// cap is a capability of something that may be there.
func (tw *twins) cap() api.Cap {
	r := tw.rand
	objects := []int{0, 1, 2, 3, 4, 5, 6, 7, 8, 8, 8, 9, 9, 9, 10, 10, 10, 11, 11, 12, 12, 20, 21, 30, 31, 32, 33, 34, 35}
	n := objects[r.IntN(len(objects))]
	if r.IntN(6) == 0 {
		n = r.IntN(64)
	}
	if f := tw.m.facts[n]; f != nil && r.IntN(12) > 0 {
		c := full(f.kind, n)
		if c.Rights != 0 {
			c.Rights = []int{7, 7, 7, 3, 6, 5, r.IntN(8)}[r.IntN(7)]
		}
		if f.kind == api.Endpoint || f.kind == api.Notice {
			c.Badge = uint64(r.IntN(16))
		}
		return c
	}
	if r.IntN(3) > 0 {
		return api.Cap{Kind: api.Irq, Object: r.IntN(9)}
	}
	return api.Cap{Kind: r.IntN(13), Object: r.IntN(64)}
}

// address is one that may lead to something.
func (tw *twins) address() uint64 {
	r := tw.rand
	switch r.IntN(24) {
	case 0:
		return r.Uint64()
	case 1:
		return uint64(r.IntN(1 << 17))
	case 2, 3, 4, 5:
		return uint64(r.IntN(256))
	}
	return uint64(r.IntN(16))
}

// addressOf is one that leads to a capability of one of some kinds, if there is one.
func (tw *twins) addressOf(n int, kinds ...int) uint64 {
	return tw.addressWith(n, func(c api.Cap) bool { return slices.Contains(kinds, c.Kind) })
}

// addressFor is one for a message, or a signal: most of the time of one of two
// objects, the first of them more often, and with all rights.
func (tw *twins) addressFor(n, kind, object int) uint64 {
	switch tw.rand.IntN(6) {
	case 0:
		return tw.addressOf(n, kind)
	case 1:
		object++
	}
	return tw.addressWith(n, func(c api.Cap) bool { return c.Kind == kind && c.Object == object && c.Rights == 7 })
}

func (tw *twins) addressWith(n int, so func(c api.Cap) bool) uint64 {
	root := tw.m.facts[n].root
	for _, a := range tw.rand.Perm(256) {
		if _, c, e := tw.m.caps.Find(root, uint64(a)); e == api.OK && so(c) {
			return uint64(a)
		}
	}
	return tw.address()
}

// emptyAddress is one that leads to an empty slot, if there is one.
func (tw *twins) emptyAddress(n int) uint64 {
	root := tw.m.facts[n].root
	for _, a := range tw.rand.Perm(256) {
		if at, e := tw.m.caps.Slot(root, uint64(a), 16); e == api.OK {
			if c, _ := tw.m.caps.Get(at); c.Kind == api.Null {
				return uint64(a)
			}
		}
	}
	return tw.address()
}

// number is what a register may hold that is asked for a number.
func (tw *twins) number(below int) uint64 {
	if tw.rand.IntN(40) == 0 {
		return []uint64{65535, 65536, big, 1 << 32}[tw.rand.IntN(4)]
	}
	return uint64(tw.rand.IntN(below))
}

// registers are what a thread may make a call with.
func (tw *twins) registers(n, number int) msg.Regs {
	r := tw.rand
	var l msg.Regs
	for i := range l {
		l[i] = tw.number(20)
	}
	switch number {
	case Send, NBSend, Call, Reply, ReplyRecv:
		l[0] = info(uint64(r.IntN(9)), r.IntN(5), r.IntN(3) > 0)
		if r.IntN(20) == 0 {
			l[0] = uint64(r.IntN(1 << 21))
		}
	}
	l[6] = tw.addressOf(n, api.Untyped, api.Node, api.Endpoint, api.Notice, api.Frame)
	if r.IntN(2) == 0 {
		l[6] = tw.emptyAddress(n)
	}
	switch {
	case number == Invoke:
		tw.invoke(n, &l)
	case number >= Signal:
		l[7] = tw.addressFor(n, api.Notice, 10)
	default:
		l[7] = tw.addressFor(n, api.Endpoint, 8)
	}
	if r.IntN(25) == 0 {
		l[7] = tw.address()
	}
	return l
}

// invoke draws what is asked of what.
func (tw *twins) invoke(n int, l *msg.Regs) {
	r := tw.rand
	kind := tw.kinds[r.IntN(len(tw.kinds))]
	l[7] = tw.addressOf(n, kind)
	l[0] = uint64(1 + r.IntN(6))
	if methods := methodsOf[kind]; methods > 0 && r.IntN(12) > 0 {
		l[0] = uint64(1 + r.IntN(int(methods)))
	}
	switch {
	case kind == api.Untyped:
		k := kinds[r.IntN(len(kinds))]
		size, _ := sizeOf(k)
		l[1], l[2], l[3] = uint64(k), uint64(size), 1+tw.number(3)
		if r.IntN(3) == 0 {
			l[3] = 1 + tw.number(16)
		}
		l[4] = tw.emptyAddress(n)
		if r.IntN(6) == 0 {
			l[1], l[2], l[3] = tw.number(12), tw.number(8), tw.number(20)
		}
	case kind == api.Node:
		tw.node(n, l)
	case kind == api.Thread:
		l[1] = tw.number(9)
	case kind == api.Frame || kind == api.Table:
		l[1], l[2], l[3] = tw.addressOf(n, api.Space), uint64(16*r.IntN(32)), uint64(r.IntN(2))
		if r.IntN(10) == 0 {
			l[2] = tw.number(4200)
		}
	}
}

// node draws what is done with a Node's slots.
func (tw *twins) node(n int, l *msg.Regs) {
	r := tw.rand
	l[0] = uint64(tw.ways[r.IntN(len(tw.ways))])
	_, c, _ := tw.m.find(n, l[7])
	if l[0] < 4 {
		l[1], l[2], l[3], l[4] = tw.addressOf(n, 2, 3, 4, 5, 6, 7, 8), tw.slotOf(c.Object, false), uint64(r.IntN(8)), tw.number(20)
		if r.IntN(3) > 0 {
			l[1] = tw.addressOf(n, api.Notice)
		}
		if r.IntN(12) == 0 {
			l[1], l[2], l[3] = tw.address(), tw.number(17), tw.number(9)
		}
		return
	}
	l[1], l[2], l[3] = tw.slotOf(c.Object, l[0] != 4), tw.slotOf(c.Object, true), tw.slotOf(c.Object, true)
	if l[0] == 6 && r.IntN(2) == 0 {
		l[1] = tw.eldestOf(c.Object)
	}
	if r.IntN(12) == 0 {
		l[1], l[2], l[3] = tw.number(17), tw.number(17), tw.number(17)
	}
	// Most of the time it is no Node's that is deleted at the slots behind: its
	// thread would find nothing more.
	if l[0] == 5 && l[1] > 12 && r.IntN(4) > 0 {
		l[1] = tw.number(13)
	}
}

// eldestOf is the slot of a node of which most comes.
func (tw *twins) eldestOf(node int) uint64 {
	best, most := 0, 0
	for at := range 16 {
		if kin := len(tw.m.caps.Kin(api.Slot{Node: node, At: at})); kin > most {
			best, most = at, kin
		}
	}
	return uint64(best)
}

// slotOf is the number of a node's slot that is full, or empty, if there is one.
func (tw *twins) slotOf(node int, full bool) uint64 {
	for _, at := range tw.rand.Perm(16) {
		if c, e := tw.m.caps.Get(api.Slot{Node: node, At: at}); e == api.OK && (c.Kind != api.Null) == full {
			return uint64(at)
		}
	}
	return tw.number(16)
}

// call lets the thread that runs make a call, or as far as it comes.
func (tw *twins) call() {
	n, ok := tw.m.current()
	if !ok {
		tw.tick()
		return
	}
	number := tw.calls[tw.rand.IntN(len(tw.calls))]
	l := tw.registers(n, number)
	for reg, v := range l {
		if !tw.load(n, reg, v) {
			return
		}
	}
	tw.do("%d calls %d with %v", n, number, l)
	what := tw.what(n, number, l)
	for more := true; more; more = more && tw.rand.IntN(4) > 0 {
		pc := tw.m.facts[n].th.Pc
		tw.step(code.Ins{Op: code.Sys, Imm: number}, true)
		now, ok := tw.m.current()
		more = ok && now == n && tw.m.facts[n].th.Pc == pc && tw.m.facts[n].th.Regs == l
		tw.note(n, what, more)
	}
}

// what is a call, and of what it is.
func (tw *twins) what(n, number int, l msg.Regs) string {
	if number != Invoke {
		return fmt.Sprintf("call %d", number)
	}
	_, c, e := tw.m.find(n, l[7])
	if e != api.OK {
		return "invoke nothing"
	}
	return fmt.Sprintf("invoke %d.%d", c.Kind, min(l[0], 9))
}

// note counts what was told, or what a thread is at then.
func (tw *twins) note(n int, what string, more bool) {
	if tw.pokes {
		return // a thread may run what nobody laid then
	}
	th, ok := tw.k.Thread(n)
	switch {
	case !ok:
		what += ": gone"
	case th.State != thread.Ready:
		what += fmt.Sprintf(": state %d", th.State)
	case more:
		what += ": more"
	case th.Regs[0] > 13:
		what += ": a message"
	default:
		what += fmt.Sprintf(": %d", th.Regs[0])
	}
	tw.seen[what]++
}

// load lets the thread that runs set a register, in its own code.
func (tw *twins) load(n, reg int, v uint64) bool {
	if v < 1<<12 {
		return tw.one(n, code.Ins{Op: code.Const, A: reg, Imm: int(v)})
	}
	for at := 60; at >= 0; at -= 12 {
		op := code.More
		if at == 60 {
			op = code.Const
		}
		if !tw.one(n, code.Ins{Op: op, A: reg, Imm: int(v >> at % 4096)}) {
			return false
		}
	}
	return true
}

// one lets the thread that runs do an instruction, in its page; whether it
// runs still.
func (tw *twins) one(n int, i code.Ins) bool {
	if pc := tw.m.facts[n].th.Pc; pc%16 == 15 {
		tw.step(code.Ins{Op: code.Jump, Imm: pc - 15}, false)
	}
	tw.step(i, false)
	now, ok := tw.m.current()
	return ok && now == n
}

// act is whatever else may be done.
func (tw *twins) act() {
	r := tw.rand
	switch r.IntN(16) {
	case 0:
		kind := kinds[r.IntN(len(kinds))]
		size, bits := sizeOf(kind)
		tw.create(r.IntN(66)-1, kind, api.Span{At: r.IntN(64) << bits, Bits: bits}, size)
	case 1:
		tw.plant(tw.slot(), tw.cap())
	case 2, 3:
		for n := 30; n < 36; n++ {
			if tw.m.is(n, api.Thread) && tw.m.facts[n].th.State == thread.Inactive {
				tw.wake(n)
			}
		}
	case 4:
		tw.setup(30+r.IntN(7), r.IntN(9), r.IntN(5), r.IntN(100), tw.cap(), r.IntN(6)-1, msg.Regs{1, 2})
	case 5:
		tw.start(30 + r.IntN(7))
	case 6:
		tw.mapIn([]int{2, 5, 6, 20, 21, r.IntN(64)}[r.IntN(6)], []int{1, 1, 4, r.IntN(64)}[r.IntN(4)], r.IntN(600)-1, r.IntN(2) == 0)
	case 7:
		tw.unmap([]int{5, 6, r.IntN(64)}[r.IntN(3)])
	case 8:
		tw.bind([]int{10, 11, r.IntN(64)}[r.IntN(3)], 30+r.IntN(7))
	case 9:
		tw.wire(r.IntN(9), r.IntN(4), []int{10, 11, r.IntN(64)}[r.IntN(3)], uint64(r.IntN(1<<29)))
	case 10, 11:
		tw.raise(r.IntN(10) - 1)
	case 12:
		tw.instruction()
		if tw.pokes {
			tw.pokeTable()
		}
	default:
		tw.tick()
	}
}

// pokeTable pokes an entry, or none, into a word of a Space or a Table.
func (tw *twins) pokeTable() {
	r := tw.rand
	n := []int{1, 2, 4, 5}[r.IntN(4)]
	if !tw.m.is(n, api.Space) && !tw.m.is(n, api.Table) {
		return
	}
	at, v := tw.m.facts[n].at+r.IntN(16), uint64(16*r.IntN(64)+[]int{1, 3, 1, 2}[r.IntN(4)])
	if r.IntN(3) == 0 {
		v = 0
	}
	tw.do("Poke(%d, %d)", at, v)
	tw.poke(at, v)
	tw.look()
}

// instruction is one that is no call.
func (tw *twins) instruction() {
	r := tw.rand
	n, ok := tw.m.current()
	if !ok || !tw.load(n, 3, uint64(r.IntN(120))) {
		return
	}
	op := []int{code.Load, code.Load, code.Store, code.Jump, code.Halt}[r.IntN(5)]
	i := code.Ins{Op: op, A: r.IntN(8), B: 3, Imm: r.IntN(20)}
	if op == code.Jump {
		i.Imm = r.IntN(100)
	}
	tw.do("%d does %+v", n, i)
	tw.step(i, true)
}

const rows = 480

// TestDrawn holds drawn rows of calls against the model, and asks behind each
// call what 24.8 says. In every eighth row somebody pokes into tables.
func TestDrawn(t *testing.T) {
	seen := map[string]int{}
	for seed := range uint64(rows) {
		tw := newTwins(t, seed, seen)
		tw.pokes = seed%8 == 7
		for range 120 {
			if tw.rand.IntN(3) > 0 {
				tw.call()
			} else {
				tw.act()
			}
		}
	}
	for _, what := range reached() {
		if seen[what] == 0 {
			t.Errorf("no row reaches %q", what)
		}
	}
}

// reached are things that rows come to: of each call what it is told, or what
// its thread is at then.
func reached() []string {
	var l []string
	for what, ends := range map[string][]string{
		"call 0":         {"0", "1", "10", "2", "3", "5", "6", "state 2"},
		"call 1":         {"0", "10", "2", "3", "6"},
		"call 2":         {"1", "10", "2", "3", "6", "state 2", "state 4"},
		"call 3":         {"0", "1", "2", "3", "5", "6", "a message", "state 3"},
		"call 4":         {"0", "2", "3", "6", "a message"},
		"call 5":         {"0", "8"},
		"call 6":         {"0", "1", "2", "3", "5", "6", "a message", "state 3"},
		"call 7":         {"0"},
		"call 8":         {"0", "1", "2", "3", "5", "6"},
		"call 9":         {"0", "1", "2", "3", "6", "state 5"},
		"call 10":        {"0", "1", "2", "3", "6"},
		"call 12":        {"13"},
		"invoke 1.1":     {"0", "1", "2", "4", "6", "7"},
		"invoke 1.2":     {"13"},
		"invoke 1.3":     {"13"},
		"invoke 1.4":     {"13"},
		"invoke 1.6":     {"13"},
		"invoke 2.1":     {"0", "1", "3", "4", "5", "6"},
		"invoke 2.2":     {"0", "1", "3", "4", "6", "8"},
		"invoke 2.3":     {"0", "1", "3", "4", "6"},
		"invoke 2.4":     {"0", "10", "3", "4", "6"},
		"invoke 2.5":     {"0", "1", "3", "6", "gone"},
		"invoke 2.6":     {"0", "3", "6", "more"},
		"invoke 3.1":     {"0", "8"},
		"invoke 3.2":     {"0", "state 0"},
		"invoke 3.3":     {"0"},
		"invoke 3.4":     {"8"},
		"invoke 3.5":     {"0"},
		"invoke 3.6":     {"13"},
		"invoke 4.1":     {"13"},
		"invoke 4.2":     {"13"},
		"invoke 4.3":     {"13"},
		"invoke 4.4":     {"13"},
		"invoke 4.5":     {"13"},
		"invoke 4.6":     {"13"},
		"invoke 5.1":     {"13"},
		"invoke 5.2":     {"13"},
		"invoke 5.3":     {"13"},
		"invoke 5.4":     {"13"},
		"invoke 5.5":     {"13"},
		"invoke 5.6":     {"13"},
		"invoke 6.1":     {"0", "1", "12", "2", "3", "4", "5", "6"},
		"invoke 6.2":     {"0", "8"},
		"invoke 6.3":     {"13"},
		"invoke 6.4":     {"13"},
		"invoke 6.5":     {"13"},
		"invoke 6.6":     {"13"},
		"invoke 7.1":     {"0", "2", "3", "4", "6"},
		"invoke 7.2":     {"0", "8"},
		"invoke 8.1":     {"13"},
		"invoke 8.2":     {"13"},
		"invoke 8.5":     {"13"},
		"invoke 8.6":     {"13"},
		"invoke 9.1":     {"0", "8"},
		"invoke 9.2":     {"13"},
		"invoke 9.5":     {"13"},
		"invoke nothing": {"1", "3", "6"},
	} {
		for _, end := range ends {
			l = append(l, what+": "+end)
		}
	}
	slices.Sort(l)
	return l
}

// goOn lets both step, with whatever stands where the thread that runs is at.
func (tw *twins) goOn() {
	tw.t.Helper()
	n, ok := tw.m.current()
	if ok {
		tw.do("%d steps at %d", n, tw.m.facts[n].th.Pc)
	}
	if got, want := tw.k.Step(), tw.m.step(); got != want {
		tw.fail("step: %t, not %t", got, want)
	}
	tw.look()
}

// write fills the threads' pages with instructions that are drawn: many set a
// register to what may be an address, or a number, and many are calls.
func (tw *twins) write() {
	r := tw.rand
	for n := range 6 {
		for at := range 16 {
			i := code.Ins{Op: r.IntN(18), A: r.IntN(8), B: r.IntN(8), Imm: r.IntN(100)}
			switch r.IntN(8) {
			case 0, 1, 2:
				i = code.Ins{Op: code.Const, A: r.IntN(8), Imm: r.IntN(20)}
			case 3:
				i = code.Ins{Op: code.Const, A: 7, Imm: int(tw.addressOf(30+n, 1+r.IntN(8)) % 4096)}
			case 4, 5, 6:
				i = code.Ins{Op: code.Sys, Imm: r.IntN(12)}
			}
			tw.poke(512+32*n+at, packed(i))
		}
	}
	tw.look()
}

// TestDrawnPrograms holds threads that run by themselves, tick by tick and
// interrupt by interrupt, against the model.
func TestDrawnPrograms(t *testing.T) {
	for seed := range uint64(150) {
		tw := newTwins(t, 1000+seed, map[string]int{})
		tw.write()
		for range 300 {
			switch tw.rand.IntN(20) {
			case 0:
				tw.raise(tw.rand.IntN(8))
			case 1, 2:
				tw.tick()
			case 3:
				tw.act()
			default:
				tw.goOn()
			}
		}
	}
}
