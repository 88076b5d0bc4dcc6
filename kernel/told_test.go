package kernel

import (
	"math"
	"slices"
	"testing"

	"donjon/api"
	"donjon/msg"
	"donjon/sched"
	"donjon/thread"
)

// 24.6

func TestWhatIsTold(t *testing.T) {
	w := newWorld(t, sched.Time{Domain: 3, Ticks: 2}, sched.Time{Domain: 1, Ticks: 1})
	w.threadAt(5, 2, 1)
	if n, ok := w.k.Current(); ok || n != 0 || w.k.Domain() != 3 {
		t.Errorf("%d runs (%t) in the domain %d", n, ok, w.k.Domain())
	}
	w.k.Tick()
	w.k.Tick()
	if n, ok := w.k.Current(); !ok || n != 5 || w.k.Domain() != 1 {
		t.Errorf("%d runs (%t) in the domain %d", n, ok, w.k.Domain())
	}
	w.ok(w.k.Poke(4095, 7))
	w.ok(w.k.Poke(4093, 5))
	if l, e := w.k.Words(4093, 3); e != api.OK || !slices.Equal(l, []uint64{5, 0, 7}) {
		t.Errorf("words %v, error %d", l, e)
	}
	for _, c := range [][2]int{{4093, 4}, {-1, 1}, {0, -1}, {4097, 0}, {1 << 62, 1 << 62}} {
		if l, e := w.k.Words(c[0], c[1]); e != api.ErrRange || len(l) != 0 {
			t.Errorf("Words%v: %v, error %d", c, l, e)
		}
	}
}

func TestNothingIsTold(t *testing.T) {
	w := newWorld(t)
	w.make(10, api.Endpoint, 0, 3)
	w.thread(5)
	w.call(5, Recv, regs{7: 3})
	for _, n := range []int{-1, 64, 33, 1 << 62, -1 << 62} {
		w.gone(n)
		if th, ok := w.k.Thread(n); ok || th != (thread.Thread{}) {
			t.Errorf("thread %d: %+v, %t", n, th, ok)
		}
		w.waiting(n, 0)
	}
	for _, n := range []int{rootNode, codeSpace, codeTable, 10} {
		if th, ok := w.k.Thread(n); ok || th != (thread.Thread{}) {
			t.Errorf("thread %d: %+v, %t", n, th, ok)
		}
	}
	for _, n := range []int{rootNode, codeSpace, codeTable, 5} {
		w.waiting(n, 0)
	}
	for _, at := range []api.Slot{{Node: 1}, {Node: 64}, {Node: -1}, {At: 16}, {At: -1}} {
		if c, e := w.k.Cap(at); e != api.ErrLookup || c != (api.Cap{}) {
			t.Errorf("slot %v: %+v, error %d", at, c, e)
		}
	}
}

func TestSlotsAreTold(t *testing.T) {
	w := newWorld(t)
	w.create(9, api.Node, 1)
	for _, at := range []api.Slot{{Node: 9, At: 1}, {At: 3}, {Node: 9}, {At: 0}} {
		w.ok(w.k.Plant(at, full(api.Space, codeSpace)))
	}
	want := []api.Slot{{At: 0}, {At: 3}, {At: 15}, {Node: 9}, {Node: 9, At: 1}}
	if got := w.k.Slots(); !slices.Equal(got, want) {
		t.Errorf("%v, not %v", got, want)
	}
}

func TestWaitingIsTold(t *testing.T) {
	w := noticed(t)
	w.waiting(10, 0)
	w.call(6, Send, regs{0: 0, 7: 3})
	w.waiting(10, 1, 6)
	w.call(5, Recv, regs{7: 3})
	w.waiting(10, 0)
	w.call(5, Recv, regs{7: 3})
	w.call(7, Wait, regs{7: 4})
	w.call(6, Wait, regs{7: 4})
	w.waiting(10, 2, 5)
	w.waiting(11, 0, 7, 6)
}

// TestAnswersAreNewMemory (R4): what is done with an answer changes nothing.
func TestAnswersAreNewMemory(t *testing.T) {
	w := noticed(t)
	w.call(5, Send, regs{0: 0, 7: 3})
	w.call(6, Wait, regs{7: 4})
	before := shot(w.k)
	for range 2 {
		_, a := w.k.Waiting(10)
		a[0] = 63
		_, b := w.k.Waiting(11)
		b[0] = 63
		_ = append(b[:0], 1, 2, 3)
		words, _ := w.k.Words(0, 4096)
		clear(words)
		for i, l := 0, w.k.Slots(); i < len(l); i++ {
			l[i] = api.Slot{Node: 63, At: 63}
		}
	}
	w.sameBut(before)
}

// TestEachCallEnds (R1): none panics, whatever it is given; and what answers
// an error has changed nothing (R2).
func TestEachCallEnds(t *testing.T) {
	numbers := []int{math.MinInt, -1 << 32, -65, -1, 0, 1, 4, 7, 8, 15, 16, 63, 64, 4095, 4096, 1 << 16, 1 << 32, math.MaxInt}
	w := newWorld(t)
	w.inEachState()
	w.create(4, api.Untyped, 5)
	w.create(7, api.Table, 0)
	w.create(8, api.Frame, 0)
	w.ok(w.k.Map(8, codeSpace, 0xf0, true))
	w.ok(w.k.Bind(33, 21))
	before := shot(w.k)
	refused := func(e api.Errno, what string, args ...int) {
		t.Helper()
		if e == api.OK {
			t.Fatalf("%s%v is OK", what, args)
		}
	}
	for _, a := range numbers {
		for _, b := range numbers {
			for _, c := range numbers {
				refused(w.k.Create(a, b, api.Span{At: c, Bits: a}, b), "Create", a, b, c)
				refused(w.k.Plant(api.Slot{Node: a, At: b}, api.Cap{Kind: c, Object: a, Rights: b, Bits: c, Badge: uint64(a), Guard: uint64(b)}), "Plant", a, b, c)
				refused(w.k.Setup(a, b, c, a, api.Cap{Kind: api.Node, Object: b, Bits: c}, a, msg.Regs{}), "Setup", a, b, c)
				if a != 7 || b != codeSpace || c < 256 || c > 4095 { // the Table may be mapped there
					refused(w.k.Map(a, b, c, true), "Map", a, b, c)
				}
				refused(w.k.Wire(a, b, c, uint64(a)), "Wire", a, b, c)
			}
			if _, e := w.k.Words(a, b); e != api.OK && e != api.ErrRange {
				t.Errorf("Words(%d, %d): error %d", a, b, e)
			}
			refused(w.k.Bind(a, b), "Bind", a, b)
			w.k.Cap(api.Slot{Node: a, At: b})
		}
		refused(w.k.Start(a), "Start", a)
		if a != 8 {
			refused(w.k.Unmap(a), "Unmap", a)
		}
		if a < 0 || a > 4095 {
			refused(w.k.Poke(a, 1), "Poke", a)
		}
		if a < 0 || a > 7 {
			refused(w.k.Raise(a), "Raise", a)
		}
		w.k.Object(a)
		w.k.Thread(a)
		w.k.Waiting(a)
	}
	w.sameBut(before)
}
