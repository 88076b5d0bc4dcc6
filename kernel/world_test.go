package kernel

import (
	"fmt"
	"slices"
	"testing"

	"donjon/api"
	"donjon/code"
	"donjon/msg"
	"donjon/sched"
	"donjon/thread"
)

// What every world has: a Node, whose slots are found by their numbers alone,
// and a Space with a Table, in which each thread has a page for its code.
const (
	rootNode  = 0
	codeSpace = 1
	codeTable = 2
	firstCode = 40 // the first thread's Frame of code; the further ones follow
	rootSlot  = 15 // in which the Node's own capability lies
)

var rootCap = api.Cap{Kind: api.Node, Object: rootNode, Bits: 12}

// regs are some of a thread's registers.
type regs map[int]uint64

// world is a kernel to whose threads instructions are handed one by one: each
// is poked to where its thread is at.
type world struct {
	t    *testing.T
	k    *Kernel
	next int         // the place behind all objects
	code map[int]int // where each thread's page is in memory
	page map[int]int // and in its space
}

// newWorld has memory for all that tests need, and one domain, if not told otherwise.
func newWorld(t *testing.T, times ...sched.Time) *world {
	t.Helper()
	if len(times) == 0 {
		times = []sched.Time{{Domain: 0, Ticks: 1000}}
	}
	k, e := New(4096, times)
	if e != api.OK {
		t.Fatalf("New: error %d", e)
	}
	w := &world{t: t, k: k, code: map[int]int{}, page: map[int]int{}}
	w.create(rootNode, api.Node, 4)
	w.create(codeSpace, api.Space, 0)
	w.create(codeTable, api.Table, 0)
	w.ok(k.Map(codeTable, codeSpace, 0, false))
	w.plant(rootSlot, rootCap)
	return w
}

func (w *world) ok(e api.Errno) {
	w.t.Helper()
	w.want(e, api.OK)
}

func (w *world) want(e, want api.Errno) {
	w.t.Helper()
	if e != want {
		w.t.Fatalf("error %d, not %d", e, want)
	}
}

// create lays an object behind all others.
func (w *world) create(n, kind, size int) api.Span {
	w.t.Helper()
	bits := map[int]int{api.Untyped: size, api.Node: size + 1, api.Endpoint: 1, api.Notice: 1}[kind]
	if bits == 0 && kind != api.Untyped {
		bits = 4
	}
	for w.next%(1<<bits) != 0 {
		w.next++
	}
	s := api.Span{At: w.next, Bits: bits}
	if e := w.k.Create(n, kind, s, size); e != api.OK {
		w.t.Fatalf("Create(%d, %d, %v, %d): error %d", n, kind, s, size, e)
	}
	w.next += 1 << bits
	return s
}

// plant lays a capability into a slot of the Node 0, and answers its address.
func (w *world) plant(at int, c api.Cap) uint64 {
	w.t.Helper()
	if e := w.k.Plant(api.Slot{Node: rootNode, At: at}, c); e != api.OK {
		w.t.Fatalf("Plant(%d, %+v): error %d", at, c, e)
	}
	return uint64(at)
}

// make lays an object behind all others, and its capability, with all rights
// that it may have, into a slot of the Node 0: its address.
func (w *world) make(n, kind, size, at int) uint64 {
	w.t.Helper()
	w.create(n, kind, size)
	return w.plant(at, full(kind, n))
}

// full is an object's capability with all rights that it may have.
func full(kind, n int) api.Cap {
	c := api.Cap{Kind: kind, Object: n}
	switch kind {
	case api.Endpoint, api.Notice, api.Frame:
		c.Rights = 7
	}
	return c
}

// with is a capability with other rights, and a badge.
func with(kind, n, rights int, badge uint64) api.Cap {
	return api.Cap{Kind: kind, Object: n, Rights: rights, Badge: badge}
}

// thread makes a thread that is ready at the level 0 of the domain 0.
func (w *world) thread(n int) {
	w.t.Helper()
	w.threadAt(n, 0, 0)
}

// threadAt makes a thread that is ready, with a page of its own for its code.
func (w *world) threadAt(n, level, domain int) {
	w.t.Helper()
	w.idle(n, level, domain)
	w.ok(w.k.Start(n))
}

// idle makes a thread that is not started.
func (w *world) idle(n, level, domain int) {
	w.t.Helper()
	w.create(n, api.Thread, 0)
	s := w.create(firstCode+len(w.code), api.Frame, 0)
	page := len(w.code)
	w.ok(w.k.Map(firstCode+page, codeSpace, 16*page, false))
	w.code[n], w.page[n] = s.At, page
	w.ok(w.k.Setup(n, level, domain, 16*page, rootCap, codeSpace, msg.Regs{}))
}

// again sets an inactive thread up as it was at first, and starts it.
func (w *world) again(n int) {
	w.t.Helper()
	w.ok(w.k.Setup(n, 0, 0, 16*w.page[n], rootCap, codeSpace, msg.Regs{}))
	w.ok(w.k.Start(n))
}

// turn lets ticks go by until a thread is the one that runs.
func (w *world) turn(n int) {
	w.t.Helper()
	for range 200 {
		if at, ok := w.k.Current(); ok && at == n {
			return
		}
		w.k.Tick()
	}
	w.t.Fatalf("%d does not come to its turn: %+v", n, w.of(n))
}

// step lets a thread do one instruction.
func (w *world) step(n int, i code.Ins) {
	w.t.Helper()
	w.turn(n)
	w.lay(n, i)
	if !w.k.Step() {
		w.t.Fatalf("%d does not step", n)
	}
}

// lay pokes an instruction to where a thread is at.
func (w *world) lay(n int, i code.Ins) {
	w.t.Helper()
	if w.of(n).Pc%16 == 15 && i.Op != code.Jump {
		w.step(n, code.Ins{Op: code.Jump, Imm: 16 * w.page[n]})
	}
	word, e := code.Pack(i)
	w.ok(e)
	w.ok(w.k.Poke(w.code[n]+w.of(n).Pc%16, word))
}

// set lets a thread set one of its registers.
func (w *world) set(n, reg int, v uint64) {
	w.t.Helper()
	w.step(n, code.Ins{Op: code.Const, A: reg, Imm: int(v >> 60)})
	for at := 48; at >= 0; at -= 12 {
		if v>>at != 0 || w.of(n).Regs[reg] != 0 {
			w.step(n, code.Ins{Op: code.More, A: reg, Imm: int(v >> at % 4096)})
		}
	}
	if w.of(n).Regs[reg] != v {
		w.t.Fatalf("%d: register %d is %d, not %d", n, reg, w.of(n).Regs[reg], v)
	}
}

// load lets a thread set some of its registers.
func (w *world) load(n int, r regs) {
	w.t.Helper()
	for reg := range api.Registers {
		if v, ok := r[reg]; ok {
			w.set(n, reg, v)
		}
	}
}

// call lets a thread set some of its registers, and then make a call.
func (w *world) call(n, number int, r regs) {
	w.t.Helper()
	w.load(n, r)
	w.step(n, code.Ins{Op: code.Sys, Imm: number})
}

// invoke lets a thread make the call Invoke, which is told an error.
func (w *world) invoke(n int, want api.Errno, r regs) {
	w.t.Helper()
	w.call(n, Invoke, r)
	if got := api.Errno(w.of(n).Regs[0]); got != want {
		w.t.Fatalf("%d, Invoke %v: told %d, not %d", n, r, got, want)
	}
}

// until lets a thread invoke until it is not told that there is more; how often.
func (w *world) until(n int, want api.Errno, r regs) int {
	w.t.Helper()
	w.load(n, r)
	for times := 1; times < 100; times++ {
		at := w.of(n).Pc
		w.step(n, code.Ins{Op: code.Sys, Imm: Invoke})
		if w.of(n).Pc != at {
			if got := api.Errno(w.of(n).Regs[0]); got != want {
				w.t.Fatalf("%d, Invoke %v: told %d, not %d", n, r, got, want)
			}
			return times
		}
	}
	w.t.Fatalf("%d, Invoke %v: no end", n, r)
	return 0
}

// of is a thread that is there.
func (w *world) of(n int) thread.Thread {
	w.t.Helper()
	th, ok := w.k.Thread(n)
	if !ok {
		w.t.Fatalf("no thread %d", n)
	}
	return th
}

// object is an object that is there.
func (w *world) object(n int) Object {
	w.t.Helper()
	o, ok := w.k.Object(n)
	if !ok {
		w.t.Fatalf("no object %d", n)
	}
	return o
}

// gone asks that there is no such object.
func (w *world) gone(list ...int) {
	w.t.Helper()
	for _, n := range list {
		if o, ok := w.k.Object(n); ok || o != (Object{}) {
			w.t.Fatalf("object %d: %+v, %t", n, o, ok)
		}
	}
}

// has asks what some of a thread's registers are.
func (w *world) has(n int, r regs) {
	w.t.Helper()
	th := w.of(n)
	for reg, v := range r {
		if th.Regs[reg] != v {
			w.t.Fatalf("%d: register %d is %d, not %d: %+v", n, reg, th.Regs[reg], v, th)
		}
	}
}

// holds asks what all of a thread's registers are.
func (w *world) holds(n int, r ...uint64) {
	w.t.Helper()
	if th := w.of(n); th.Regs != msg.Regs(r) {
		w.t.Fatalf("%d: registers %v, not %v", n, th.Regs, r)
	}
}

// state asks what a thread is at, and on what.
func (w *world) state(n, state, on int) {
	w.t.Helper()
	if th := w.of(n); th.State != state || th.On != on {
		w.t.Fatalf("%d: state %d on %d, not %d on %d", n, th.State, th.On, state, on)
	}
}

// ready asks that threads are ready, and come in that order.
func (w *world) ready(list ...int) {
	w.t.Helper()
	for _, n := range list {
		w.state(n, thread.Ready, 0)
	}
	var came []int
	for range list {
		n, ok := w.k.Current()
		if !ok {
			break
		}
		came = append(came, n)
		w.k.Tick()
	}
	if !slices.Equal(came, list) {
		w.t.Fatalf("ready: %v, not %v", came, list)
	}
}

// caller asks who waits for a thread's answer.
func (w *world) caller(n, want int) {
	w.t.Helper()
	if th := w.of(n); th.Caller != want {
		w.t.Fatalf("%d: %d waits for its answer, not %d", n, th.Caller, want)
	}
}

// waiting asks what an Endpoint, or a Notice, is at, and who waits.
func (w *world) waiting(n int, is uint64, who ...int) {
	w.t.Helper()
	if got, l := w.k.Waiting(n); got != is || !slices.Equal(l, who) {
		w.t.Fatalf("Waiting(%d): %d, %v, not %d, %v", n, got, l, is, who)
	}
}

// cap asks what is in a slot of the Node 0.
func (w *world) cap(at int, want api.Cap) {
	w.t.Helper()
	if c, e := w.k.Cap(api.Slot{Node: rootNode, At: at}); e != api.OK || c != want {
		w.t.Fatalf("slot %d: %+v (error %d), not %+v", at, c, e, want)
	}
}

// empty asks that there is nothing in some slots of the Node 0.
func (w *world) empty(list ...int) {
	w.t.Helper()
	for _, at := range list {
		w.cap(at, api.Cap{})
	}
}

// word asks what a word of memory is.
func (w *world) word(at int, want uint64) {
	w.t.Helper()
	if l, e := w.k.Words(at, 1); e != api.OK || l[0] != want {
		w.t.Fatalf("word %d: %v (error %d), not %d", at, l, e, want)
	}
}

// info is the word of a message's info.
func info(label uint64, length int, withCap bool) uint64 {
	w, e := msg.Pack(msg.Info{Label: label, Length: length, Cap: withCap})
	if e != api.OK {
		panic(e)
	}
	return w
}

// shot is all that a kernel tells (24.6), a line each thing.
func shot(k *Kernel) []string {
	var l []string
	tell := func(form string, args ...any) { l = append(l, fmt.Sprintf(form, args...)) }
	now, ok := k.Current()
	tell("current %d %t domain %d", now, ok, k.Domain())
	pending, masked := k.Pending()
	tell("pending %d masked %d", pending, masked)
	for n := range api.MaxObjects {
		if o, ok := k.Object(n); ok {
			tell("object %d %+v", n, o)
		}
		if th, ok := k.Thread(n); ok {
			tell("thread %d %+v", n, th)
		}
		if is, who := k.Waiting(n); is != 0 || len(who) > 0 {
			tell("waiting %d %d %v", n, is, who)
		}
	}
	for _, at := range k.Slots() {
		c, e := k.Cap(at)
		tell("slot %v %+v %d", at, c, e)
	}
	size := 1 << 16
	for {
		words, e := k.Words(0, size)
		if e == api.OK {
			for at, v := range words {
				if v != 0 {
					tell("word %d %d", at, v)
				}
			}
			return l
		}
		size /= 2
	}
}

// sameBut asks that a kernel tells the same as before, but for lines that begin so.
func (w *world) sameBut(before []string, but ...string) {
	w.t.Helper()
	meant := func(line string) bool {
		return slices.ContainsFunc(but, func(b string) bool { return len(line) >= len(b) && line[:len(b)] == b })
	}
	old := slices.DeleteFunc(slices.Clone(before), meant)
	now := slices.DeleteFunc(shot(w.k), meant)
	if slices.Equal(old, now) {
		return
	}
	for i := range max(len(old), len(now)) {
		if i >= len(old) || i >= len(now) || old[i] != now[i] {
			w.t.Fatalf("changed: from line %d on it was\n%v\nand is\n%v", i, old[min(i, len(old)):], now[min(i, len(now)):])
		}
	}
}

// refuses asks that an error is answered, and nothing is changed.
func (w *world) refuses(want api.Errno, do func() api.Errno) {
	w.t.Helper()
	before := shot(w.k)
	if e := do(); e != want {
		w.t.Fatalf("error %d, not %d", e, want)
	}
	w.sameBut(before)
}

// refusesCall asks that a call is told an error, and nothing else is done.
func (w *world) refusesCall(n, number int, want api.Errno, r regs) {
	w.t.Helper()
	w.load(n, r)
	w.turn(n)
	w.lay(n, code.Ins{Op: code.Sys, Imm: number})
	th, before := w.of(n), shot(w.k)
	if !w.k.Step() {
		w.t.Fatalf("%d does not step", n)
	}
	th.Pc++
	th.Regs[0] = uint64(want)
	if got := w.of(n); got != th {
		w.t.Fatalf("%d, call %d %v: %+v, not %+v", n, number, r, got, th)
	}
	w.sameBut(before, fmt.Sprintf("thread %d ", n))
}

// forbids asks that Invoke is told an error, and nothing else is done.
func (w *world) forbids(n int, want api.Errno, r regs) {
	w.t.Helper()
	w.refusesCall(n, Invoke, want, r)
}

func digits(n int) string { return fmt.Sprint(n) }
