package kernel

import (
	"math"
	"testing"

	"donjon/api"
	"donjon/code"
	"donjon/msg"
	"donjon/thread"
)

// big is a word that is no number, no address and no info.
const big = math.MaxUint64

// pair is a world with two threads 5 and 6, an Endpoint 10, and its capability
// with all rights and the badge 99 at the address 3.
func pair(t *testing.T) *world {
	t.Helper()
	w := newWorld(t)
	w.thread(5)
	w.thread(6)
	w.create(10, api.Endpoint, 0)
	w.plant(3, with(api.Endpoint, 10, 7, 99))
	return w
}

// 24.3: with a kind and a right

// asks are the calls that ask for a kind and a right.
var asks = []struct{ number, kind, right int }{
	{Send, api.Endpoint, api.Write}, {NBSend, api.Endpoint, api.Write}, {Call, api.Endpoint, api.Write},
	{Recv, api.Endpoint, api.Read}, {NBRecv, api.Endpoint, api.Read}, {ReplyRecv, api.Endpoint, api.Read},
	{Signal, api.Notice, api.Write}, {Wait, api.Notice, api.Read}, {Poll, api.Notice, api.Read},
}

func TestCallsAskForAKind(t *testing.T) {
	for _, c := range asks {
		for _, kind := range kinds {
			if kind == c.kind {
				continue
			}
			w := newWorld(t)
			w.thread(5)
			size, _ := sizeOf(kind)
			w.create(10, kind, size)
			w.plant(3, full(kind, 10))
			w.refusesCall(5, c.number, api.ErrKind, regs{0: 0, 1: 7, 7: 3})
		}
		for _, x := range []api.Cap{{Kind: api.Irq, Object: 3}, {Kind: api.Control}, {Kind: api.Reply, Object: 10}} {
			w := newWorld(t)
			w.thread(5)
			w.create(10, c.kind, 0) // so that a Reply names one of the kind, by its number
			w.plant(3, x)
			w.refusesCall(5, c.number, api.ErrKind, regs{0: 0, 7: 3})
		}
	}
}

func TestCallsAskForARight(t *testing.T) {
	for _, c := range asks {
		for r := range 8 {
			if r&c.right != 0 {
				continue
			}
			w := newWorld(t)
			w.thread(5)
			w.create(10, c.kind, 0)
			w.plant(3, with(c.kind, 10, r, 5))
			w.refusesCall(5, c.number, api.ErrRights, regs{0: 0, 7: 3})
		}
	}
}

func TestCallsNeedNoOtherRight(t *testing.T) {
	for _, c := range asks {
		w := newWorld(t)
		w.thread(5)
		w.create(10, c.kind, 0)
		w.plant(3, with(c.kind, 10, c.right, 5))
		w.call(5, c.number, regs{0: 0, 7: 3})
		th := w.of(5)
		switch c.number {
		case NBSend, Signal:
			w.has(5, regs{0: 0})
		case NBRecv, Poll:
			w.has(5, regs{0: uint64(api.ErrNone)})
		default:
			if th.State == thread.Ready || th.On != 10 {
				t.Errorf("call %d: %+v", c.number, th)
			}
		}
	}
}

func TestCallsFind(t *testing.T) {
	for _, c := range asks {
		w := newWorld(t)
		w.thread(5)
		w.refusesCall(5, c.number, api.ErrNone, regs{0: 0, 7: 3})                  // an empty slot
		w.refusesCall(5, c.number, api.ErrRange, regs{0: 0, 7: 1 << 16})           // no address of 16 bits
		w.refusesCall(5, c.number, api.ErrRange, regs{0: 0, 7: big})               // nor is this
		w.refusesCall(5, c.number, api.ErrLookup, regs{0: 0, 7: 1 << 15})          // another guard
		w.refusesCall(5, c.number, api.ErrLookup, regs{0: uint64(big), 7: 1 << 4}) // the 12 bits of a guard end there
	}
}

// TestCallsFindBitsLeft: bits that are left behind what is no Node do not matter.
func TestCallsFindBitsLeft(t *testing.T) {
	w := newWorld(t)
	w.create(11, api.Node, 1)
	w.create(10, api.Endpoint, 0)
	w.ok(w.k.Plant(api.Slot{Node: 11, At: 1}, full(api.Endpoint, 10)))
	w.create(5, api.Thread, 0)
	page := w.create(12, api.Frame, 0)
	w.ok(w.k.Map(12, codeSpace, 0, false))
	word, _ := code.Pack(code.Ins{Op: code.Sys, Imm: NBSend})
	w.ok(w.k.Poke(page.At, word))
	w.ok(w.k.Setup(5, 0, 0, 0, api.Cap{Kind: api.Node, Object: 11}, codeSpace, msg.Regs{7: 0xabcd}))
	w.ok(w.k.Start(5))
	w.k.Step()
	w.has(5, regs{0: 0})
}

func TestSendAsksForAnInfo(t *testing.T) {
	for _, number := range []int{Send, NBSend, Call} {
		for _, word := range []uint64{5, 7, 13, 1 << 20, 1 << 63, big} {
			w := pair(t)
			w.refusesCall(5, number, api.ErrField, regs{0: word, 7: 3})
			w.call(6, Recv, regs{7: 3})
			w.refusesCall(5, number, api.ErrField, regs{0: word, 7: 3}) // and nobody is met
			w.waiting(10, 2, 6)
		}
		w := pair(t)
		w.plant(4, with(api.Endpoint, 10, 5, 0))
		w.refusesCall(5, number, api.ErrRights, regs{0: 5, 7: 4}) // what it is of comes first
		w.refusesCall(5, number, api.ErrNone, regs{0: 5, 7: 5})
	}
}

// 24.3: Send, NBSend and Call

func TestSendMeetsAReceiver(t *testing.T) {
	for length := 0; length <= 4; length++ {
		for _, number := range []int{Send, NBSend} {
			w := pair(t)
			w.call(6, Recv, regs{0: 70, 1: 71, 2: 72, 3: 73, 4: 74, 5: 75, 6: 76, 7: 3})
			w.state(6, thread.Receiving, 10)
			w.waiting(10, 2, 6)
			at := w.of(6).Pc
			in := info(5, length, false)
			w.call(5, number, regs{0: in, 1: 11, 2: big, 3: 13, 4: 14, 5: 15, 6: 16, 7: 3})
			want := []uint64{in, 71, 72, 73, 74, 99, 76, 3}
			copy(want[1:1+length], []uint64{11, big, 13, 14})
			w.holds(6, want...)
			w.holds(5, 0, 11, big, 13, 14, 15, 16, 3)
			w.waiting(10, 0)
			w.caller(5, -1)
			w.caller(6, -1)
			if w.of(6).Pc != at {
				t.Errorf("it goes on at %d, not %d", w.of(6).Pc, at)
			}
			w.ready(5, 6)
		}
	}
}

func TestSendBadges(t *testing.T) {
	for _, badge := range []uint64{0, 1, 1<<28 - 1} {
		w := pair(t)
		w.plant(4, with(api.Endpoint, 10, api.Write, badge))
		w.call(6, Recv, regs{5: 75, 7: 3})
		w.call(5, Send, regs{0: 0, 7: 4})
		w.has(6, regs{5: badge})
		w.call(5, Send, regs{0: 0, 7: 4})
		if th := w.of(5); th.Badge != badge || th.State != thread.Sending || th.Calls {
			t.Errorf("%+v", th)
		}
		w.call(6, Recv, regs{5: 75, 7: 3})
		w.has(6, regs{5: badge})
	}
}

func TestSendWaits(t *testing.T) {
	w := pair(t)
	w.call(5, Send, regs{0: info(9, 1, false), 1: 11, 5: 15, 7: 3})
	want := thread.Thread{State: thread.Sending, On: 10, Badge: 99, Caller: -1, Pc: w.of(5).Pc,
		Regs: msg.Regs{info(9, 1, false), 11, 0, 0, 0, 15, 0, 3}}
	if got := w.of(5); got != want {
		t.Errorf("%+v, not %+v", got, want)
	}
	w.waiting(10, 1, 5)
	w.ready(6)
	w.call(6, Send, regs{0: info(8, 0, false), 7: 3})
	w.waiting(10, 1, 5, 6)
	if _, ok := w.k.Current(); ok {
		t.Errorf("somebody runs")
	}
}

func TestCallWaits(t *testing.T) {
	w := pair(t)
	w.call(5, Call, regs{0: info(9, 1, false), 1: 11, 7: 3})
	if th := w.of(5); th.State != thread.Sending || th.On != 10 || th.Badge != 99 || !th.Calls {
		t.Errorf("%+v", th)
	}
	w.waiting(10, 1, 5)
	w.ready(6)
}

func TestNBSendDoesNotWait(t *testing.T) {
	w := pair(t)
	w.refusesCall(5, NBSend, api.OK, regs{0: info(9, 1, false), 7: 3})
	w.waiting(10, 0)
	w.call(6, Send, regs{0: 0, 7: 3})
	w.refusesCall(5, NBSend, api.OK, regs{0: info(9, 1, false), 7: 3}) // behind who waits to send, too
	w.waiting(10, 1, 6)
}

func TestCallMeetsAReceiver(t *testing.T) {
	w := pair(t)
	w.call(6, Recv, regs{1: 71, 2: 72, 7: 3})
	in := info(5, 1, false)
	w.call(5, Call, regs{0: in, 1: 11, 5: 15, 7: 3})
	w.holds(6, in, 11, 72, 0, 0, 99, 0, 3)
	w.holds(5, in, 11, 0, 0, 0, 15, 0, 3) // it is told nothing yet
	w.state(5, thread.Asking, 0)
	w.caller(6, 5)
	w.waiting(10, 0)
	w.ready(6)
}

func TestSendersAreMetInOrder(t *testing.T) {
	w := pair(t)
	w.thread(7)
	w.thread(8)
	for _, n := range []int{7, 5, 8} {
		w.call(n, Send, regs{0: info(uint64(n), 0, false), 7: 3})
	}
	w.waiting(10, 1, 7, 5, 8)
	for i, n := range []int{7, 5, 8} {
		w.call(6, Recv, regs{7: 3})
		w.has(6, regs{0: info(uint64(n), 0, false), 5: 99})
		w.has(n, regs{0: 0})
		w.state(n, thread.Ready, 0)
		w.waiting(10, []uint64{1, 1, 0}[i], []int{7, 5, 8}[i+1:]...)
	}
}

func TestReceiversAreMetInOrder(t *testing.T) {
	w := pair(t)
	w.thread(7)
	w.thread(8)
	for _, n := range []int{7, 5, 8} {
		w.call(n, Recv, regs{7: 3})
	}
	w.waiting(10, 2, 7, 5, 8)
	for i, n := range []int{7, 5, 8} {
		w.call(6, Send, regs{0: info(uint64(i), 0, false), 7: 3})
		w.has(n, regs{0: info(uint64(i), 0, false), 5: 99})
		w.state(n, thread.Ready, 0)
		w.waiting(10, []uint64{2, 2, 0}[i], []int{7, 5, 8}[i+1:]...)
	}
}

// 24.3: Recv and NBRecv

func TestRecvMeetsASender(t *testing.T) {
	for length := 0; length <= 4; length++ {
		for _, number := range []int{Recv, NBRecv, ReplyRecv} {
			w := pair(t)
			in := info(65535, length, false)
			w.call(5, Send, regs{0: in, 1: 11, 2: big, 3: 13, 4: 14, 5: 15, 6: 16, 7: 3})
			w.call(6, number, regs{0: 70, 1: 71, 2: 72, 3: 73, 4: 74, 5: 75, 6: 76, 7: 3})
			want := []uint64{in, 71, 72, 73, 74, 99, 76, 3}
			copy(want[1:1+length], []uint64{11, big, 13, 14})
			w.holds(6, want...)
			w.holds(5, 0, 11, big, 13, 14, 15, 16, 3)
			if th := w.of(5); th.State != thread.Ready || th.Badge != 0 {
				t.Errorf("%+v", th)
			}
			w.waiting(10, 0)
			w.caller(6, -1)
			w.ready(6, 5)
		}
	}
}

func TestRecvMeetsACaller(t *testing.T) {
	for _, number := range []int{Recv, NBRecv, ReplyRecv} {
		w := pair(t)
		in := info(5, 2, false)
		w.call(5, Call, regs{0: in, 1: 11, 2: 12, 5: 15, 7: 3})
		w.call(6, number, regs{7: 3})
		w.holds(6, in, 11, 12, 0, 0, 99, 0, 3)
		w.holds(5, in, 11, 12, 0, 0, 15, 0, 3)
		if th := w.of(5); th.State != thread.Asking || th.On != 0 || th.Badge != 0 || th.Calls {
			t.Errorf("%+v", th)
		}
		w.caller(6, 5)
		w.ready(6)
	}
}

func TestRecvWaits(t *testing.T) {
	for _, number := range []int{Recv, ReplyRecv} {
		w := pair(t)
		w.call(6, number, regs{0: 70, 5: 75, 7: 3})
		w.holds(6, 70, 0, 0, 0, 0, 75, 0, 3)
		w.state(6, thread.Receiving, 10)
		w.waiting(10, 2, 6)
		w.ready(5)
		w.call(5, number, regs{0: 70, 7: 3})
		w.waiting(10, 2, 6, 5)
	}
}

func TestNBRecvDoesNotWait(t *testing.T) {
	w := pair(t)
	w.refusesCall(6, NBRecv, api.ErrNone, regs{0: 70, 7: 3})
	w.call(5, Recv, regs{7: 3})
	w.refusesCall(6, NBRecv, api.ErrNone, regs{0: 70, 7: 3})
	w.waiting(10, 2, 5)
}

// called is a pair of which 6 has received, and 5 waits for its answer.
func called(t *testing.T) *world {
	t.Helper()
	w := pair(t)
	w.call(5, Call, regs{0: info(5, 1, false), 1: 11, 2: 12, 5: 15, 7: 3})
	w.call(6, Recv, regs{7: 3})
	w.caller(6, 5)
	return w
}

// TestRecvWhileSomebodyWaits: who receives answers nobody any more.
func TestRecvWhileSomebodyWaits(t *testing.T) {
	for _, number := range []int{Recv, NBRecv} {
		w := called(t)
		w.call(6, number, regs{0: 70, 7: 3})
		w.holds(5, uint64(api.ErrState), 11, 12, 0, 0, 15, 0, 3)
		w.state(5, thread.Ready, 0)
		w.caller(6, -1)
		if number == Recv {
			w.state(6, thread.Receiving, 10)
			w.ready(5)
		} else {
			w.has(6, regs{0: uint64(api.ErrNone)})
			w.ready(6, 5)
		}
	}
}

// TestRecvThatIsRefused: nobody is turned away where the call itself is refused.
func TestRecvThatIsRefused(t *testing.T) {
	for _, number := range []int{Recv, NBRecv} {
		w := called(t)
		w.plant(4, with(api.Endpoint, 10, 6, 0))
		w.refusesCall(6, number, api.ErrRights, regs{7: 4})
		w.refusesCall(6, number, api.ErrNone, regs{7: 5})
		w.refusesCall(6, number, api.ErrKind, regs{7: rootSlot})
		w.caller(6, 5)
		w.state(5, thread.Asking, 0)
	}
}

func TestRecvMeetsTheNextCaller(t *testing.T) {
	w := called(t)
	w.thread(7)
	w.call(7, Call, regs{0: 0, 7: 3})
	w.call(6, Recv, regs{7: 3})
	w.has(5, regs{0: uint64(api.ErrState)})
	w.state(7, thread.Asking, 0)
	w.caller(6, 7)
	w.ready(6, 5)
}

// 24.3: the notice that is bound

func TestRecvTellsTheNoticesWord(t *testing.T) {
	for _, number := range []int{Recv, NBRecv, ReplyRecv} {
		w := pair(t)
		w.create(11, api.Notice, 0)
		w.plant(4, with(api.Notice, 11, api.Write, 20))
		w.plant(5, with(api.Notice, 11, api.Write, 3))
		w.ok(w.k.Bind(11, 6))
		w.call(5, Signal, regs{7: 4})
		w.call(5, Signal, regs{7: 5})
		w.waiting(11, 23)
		w.call(5, Send, regs{0: info(1, 0, false), 7: 3}) // the word comes ahead of it
		w.call(6, number, regs{0: 70, 1: 71, 5: 75, 6: 76, 7: 3})
		w.holds(6, 0, 71, 0, 0, 0, 23, 76, 3)
		w.waiting(11, 0)
		w.waiting(10, 1, 5)
		w.call(6, number, regs{7: 3})
		w.has(6, regs{0: info(1, 0, false), 5: 99})
		w.waiting(10, 0)
	}
}

func TestRecvOfAnothersNotice(t *testing.T) {
	w := pair(t)
	w.create(11, api.Notice, 0)
	w.plant(4, with(api.Notice, 11, api.Write, 20))
	w.ok(w.k.Bind(11, 5))
	w.call(5, Signal, regs{7: 4})
	w.call(6, Recv, regs{7: 3})
	w.state(6, thread.Receiving, 10)
	w.waiting(11, 20)
}

func TestRecvTellsAWordAndTurnsTheCallerAway(t *testing.T) {
	w := called(t)
	w.create(11, api.Notice, 0)
	w.plant(4, with(api.Notice, 11, api.Write, 20))
	w.ok(w.k.Bind(11, 6))
	w.call(6, Signal, regs{7: 4})
	w.call(6, Recv, regs{7: 3})
	w.has(6, regs{0: 0, 5: 20})
	w.has(5, regs{0: uint64(api.ErrState)})
	w.caller(6, -1)
	w.ready(6, 5)
}

func TestRecvThatIsRefusedTakesNoWord(t *testing.T) {
	w := pair(t)
	w.create(11, api.Notice, 0)
	w.plant(4, with(api.Notice, 11, api.Write, 20))
	w.ok(w.k.Bind(11, 6))
	w.call(5, Signal, regs{7: 4})
	w.refusesCall(6, Recv, api.ErrKind, regs{7: 4})
	w.waiting(11, 20)
}

// 24.3: Reply and ReplyRecv

func TestReply(t *testing.T) {
	for length := 0; length <= 4; length++ {
		w := called(t)
		in := info(7, length, true) // a capability does not go along with an answer
		w.call(6, Reply, regs{0: in, 1: 21, 2: 22, 3: 23, 4: big, 5: 25, 6: 3, 7: 27})
		want := []uint64{in, 11, 12, 0, 0, 0, 0, 3}
		copy(want[1:1+length], []uint64{21, 22, 23, big})
		w.holds(5, want...)
		w.holds(6, 0, 21, 22, 23, big, 25, 3, 27)
		w.state(5, thread.Ready, 0)
		w.caller(6, -1)
		w.empty(0)
		w.ready(6, 5)
	}
}

func TestReplyToNobody(t *testing.T) {
	w := pair(t)
	w.refusesCall(6, Reply, api.ErrState, regs{0: info(1, 1, false)})
	w.refusesCall(6, Reply, api.ErrState, regs{0: 5}) // that comes first
	w = called(t)
	w.call(6, Reply, regs{0: 0})
	w.refusesCall(6, Reply, api.ErrState, regs{0: 0})
}

func TestReplyThatIsNoMessage(t *testing.T) {
	for _, number := range []int{Reply, ReplyRecv} {
		for _, word := range []uint64{5, 15, 1 << 20, big} {
			w := called(t)
			w.refusesCall(6, number, api.ErrField, regs{0: word, 7: 3})
			w.caller(6, 5)
			w.state(5, thread.Asking, 0)
		}
	}
}

func TestReplyRecvWaits(t *testing.T) {
	w := called(t)
	in := info(7, 1, false)
	w.call(6, ReplyRecv, regs{0: in, 1: 21, 5: 25, 7: 3})
	w.holds(5, in, 21, 12, 0, 0, 0, 0, 3)
	w.holds(6, 0, 21, 0, 0, 0, 25, 0, 3) // it was told OK
	w.state(6, thread.Receiving, 10)
	w.caller(6, -1)
	w.ready(5)
}

func TestReplyRecvMeetsTheNextOne(t *testing.T) {
	w := called(t)
	w.thread(7)
	w.call(7, Call, regs{0: info(4, 1, false), 1: 41, 7: 3})
	w.call(6, ReplyRecv, regs{0: info(7, 1, false), 1: 21, 7: 3})
	w.has(5, regs{0: info(7, 1, false), 1: 21, 5: 0})
	w.has(6, regs{0: info(4, 1, false), 1: 41, 5: 99})
	w.caller(6, 7)
	w.state(7, thread.Asking, 0)
	w.ready(6, 5)
}

// TestReplyRecvIsRefusedBehindTheAnswer: the answer has gone then.
func TestReplyRecvIsRefusedBehindTheAnswer(t *testing.T) {
	w := called(t)
	w.call(6, ReplyRecv, regs{0: info(7, 0, false), 7: 5})
	w.has(5, regs{0: info(7, 0, false), 5: 0})
	w.state(5, thread.Ready, 0)
	w.has(6, regs{0: uint64(api.ErrNone)})
	w.caller(6, -1)
}

func TestReplyRecvWithoutACaller(t *testing.T) {
	w := pair(t)
	w.call(6, ReplyRecv, regs{0: big, 7: 3}) // no message is asked for
	w.holds(6, big, 0, 0, 0, 0, 0, 0, 3)
	w.state(6, thread.Receiving, 10)
}

// TestAnswersGoWhereTheyAreWaitedFor: who is asked may ask on.
func TestAnswersGoWhereTheyAreWaitedFor(t *testing.T) {
	w := called(t)
	w.thread(7)
	w.create(12, api.Endpoint, 0)
	w.plant(4, with(api.Endpoint, 12, 7, 0))
	w.call(7, Recv, regs{7: 4})
	w.call(6, Call, regs{0: 0, 7: 4})
	w.caller(7, 6)
	w.caller(6, 5)
	w.call(7, Reply, regs{0: info(1, 1, false), 1: 71})
	w.has(6, regs{0: info(1, 1, false), 1: 71})
	w.state(5, thread.Asking, 0)
	w.call(6, Reply, regs{0: info(2, 1, false), 1: 61})
	w.has(5, regs{0: info(2, 1, false), 1: 61})
}

// 24.3: capabilities go along

// sends lets 5 send to 6, or call it, with a capability: 6 waits ahead of it,
// or comes behind it. The capability at from goes to the address to.
func (w *world) sends(number int, ahead, withCap bool, of, from, to uint64) {
	w.t.Helper()
	if ahead {
		w.call(6, Recv, regs{6: to, 7: 3})
	}
	w.call(5, number, regs{0: info(1, 0, withCap), 6: from, 7: of})
	if !ahead {
		w.call(6, Recv, regs{6: to, 7: 3})
	}
	w.has(6, regs{0: info(1, 0, withCap), 6: to})
	w.state(6, thread.Ready, 0)
}

func TestCapabilitiesGoAlong(t *testing.T) {
	for _, number := range []int{Send, Call} {
		for _, ahead := range []bool{true, false} {
			for rights := range 8 {
				if rights&api.Write == 0 {
					continue
				}
				for _, withCap := range []bool{true, false} {
					w := pair(t)
					of := w.plant(4, with(api.Endpoint, 10, rights, 0))
					w.create(11, api.Frame, 0)
					from := w.plant(5, with(api.Frame, 11, 5, 0))
					w.sends(number, ahead, withCap, of, from, 8)
					if withCap && rights&api.Grant != 0 {
						w.cap(8, with(api.Frame, 11, 5, 0))
						// It comes of what was sent.
						w.comes(5, 8)
					} else {
						w.empty(8)
					}
				}
			}
		}
	}
}

// comes asks that what is in a slot came of what is in another one: a revoke takes it away.
func (w *world) comes(of, at int) {
	w.t.Helper()
	w.thread(39)
	w.invoke(39, api.OK, regs{0: 6, 1: uint64(of), 2: 0, 3: 0, 7: rootSlot})
	w.empty(at)
}

// TestCapabilitiesThatDoNotGo: the message comes without one.
func TestCapabilitiesThatDoNotGo(t *testing.T) {
	for _, ahead := range []bool{true, false} {
		for _, c := range []struct {
			name     string
			from, to uint64
		}{
			{"nothing is sent", 9, 8},
			{"no address is sent", 1 << 16, 8},
			{"it leads nowhere", 1 << 15, 8},
			{"the receiver's leads nowhere", 5, 1 << 15},
			{"the receiver's is no address", 5, 1 << 16},
			{"the receiver's is not empty", 5, 3},
			{"it is its own place", 5, 5},
			{"an Untyped, which is not copied", 6, 8},
			{"an address that goes on behind its slot", 5, 0x8001},
		} {
			// What is not found is not the first slot of all, be it empty or not.
			for _, first := range []bool{false, true} {
				w := pair(t)
				w.create(11, api.Frame, 0)
				w.plant(5, full(api.Frame, 11))
				w.make(12, api.Untyped, 4, 6)
				if first {
					w.plant(0, full(api.Frame, 11))
				}
				slots := len(w.k.Slots())
				w.sends(Send, ahead, true, 3, c.from, c.to)
				if now := len(w.k.Slots()); now != slots {
					t.Errorf("%s: %d slots are full, not %d", c.name, now, slots)
				}
				w.has(5, regs{0: 0})
			}
		}
	}
}

// TestCapabilitiesGoWhereTheRootsLead: each one's own root is asked, and the
// receiver's slot may lie anywhere that takes 16 bits.
func TestCapabilitiesGoWhereTheRootsLead(t *testing.T) {
	w := newWorld(t)
	w.thread(5)
	w.make(10, api.Endpoint, 0, 3)
	w.create(11, api.Node, 2)
	w.ok(w.k.Plant(api.Slot{Node: 11, At: 2}, full(api.Endpoint, 10)))
	w.create(6, api.Thread, 0)
	page := w.create(12, api.Frame, 0)
	w.ok(w.k.Map(12, codeSpace, 0xf0, false))
	word, _ := code.Pack(code.Ins{Op: code.Sys, Imm: Recv})
	w.ok(w.k.Poke(page.At, word))
	// 6 has the Node 11 as its root: a guard of 14 bits, 9; its slot 3, and its slot 2.
	root := api.Cap{Kind: api.Node, Object: 11, Bits: 14, Guard: 9}
	w.ok(w.k.Setup(6, 7, 0, 0xf0, root, codeSpace, msg.Regs{6: 9<<2 | 3, 7: 9<<2 | 2}))
	w.ok(w.k.Start(6))
	w.k.Step()
	w.state(6, thread.Receiving, 10)
	w.plant(7, with(api.Endpoint, 10, 2, 55))
	w.call(5, Send, regs{0: info(0, 0, true), 6: 7, 7: 3})
	if c, e := w.k.Cap(api.Slot{Node: 11, At: 3}); e != api.OK || c != with(api.Endpoint, 10, 2, 55) {
		t.Errorf("%+v, error %d", c, e)
	}
}

// TestGrantIsAskedNow: what who waits to send holds when it is met counts.
func TestGrantIsAskedNow(t *testing.T) {
	for _, c := range []struct {
		name string
		now  api.Cap // what the sender's register 7 leads to then
		goes bool
	}{
		{"the same", with(api.Endpoint, 10, 6, 0), true},
		{"Grant alone", with(api.Endpoint, 10, 4, 77), true},
		{"without Grant", with(api.Endpoint, 10, 3, 0), false},
		{"nothing", api.Cap{}, false},
		{"another Endpoint's", with(api.Endpoint, 11, 7, 0), false},
		{"another kind's, with Grant", with(api.Notice, 12, 7, 0), false},
		{"another kind's", full(api.Space, codeSpace), false},
		{"another kind's, of that number", api.Cap{Kind: api.Reply, Object: 10}, false},
	} {
		w := pair(t)
		w.thread(7)
		w.create(11, api.Endpoint, 0)
		w.create(12, api.Notice, 0)
		w.create(13, api.Frame, 0)
		w.plant(4, with(api.Endpoint, 10, 6, 0))
		w.plant(5, full(api.Frame, 13))
		w.call(5, Send, regs{0: info(0, 0, true), 6: 5, 7: 4})
		w.invoke(7, api.OK, regs{0: 5, 1: 4, 2: 0, 3: 0, 7: rootSlot})
		if c.now != (api.Cap{}) {
			w.plant(4, c.now)
		}
		w.call(6, Recv, regs{6: 8, 7: 3})
		w.has(6, regs{0: info(0, 0, true), 5: 0}) // the badge is the one it had when it was sent
		if c.goes {
			w.cap(8, full(api.Frame, 13))
		} else {
			w.empty(8)
		}
	}
}

// TestGrantOfTheReceiver: it does not matter, whoever comes first.
func TestGrantOfTheReceiver(t *testing.T) {
	for _, ahead := range []bool{true, false} {
		w := pair(t)
		w.plant(4, with(api.Endpoint, 10, 2, 0))
		w.make(13, api.Frame, 0, 5)
		w.sends(Send, ahead, true, 4, 5, 8) // 6 receives with Grant, 5 sends without
		w.empty(8)
	}
}

func TestNBSendHandsOn(t *testing.T) {
	w := pair(t)
	w.make(13, api.Frame, 0, 5)
	w.sends(NBSend, true, true, 3, 5, 8)
	w.cap(8, full(api.Frame, 13))
	w.call(5, NBSend, regs{0: info(0, 0, true), 6: 5, 7: 3}) // nobody is met
	w.empty(9)
}
