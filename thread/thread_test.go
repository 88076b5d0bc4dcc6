package thread

import (
	"math"
	"testing"

	"donjon/api"
	"donjon/msg"
)

func TestStatesAreNumberedAsTold(t *testing.T) {
	got := [6]int{Inactive, Ready, Sending, Receiving, Asking, Waiting}
	for k, state := range got {
		if state != k {
			t.Errorf("state %d is %d", k, state)
		}
	}
}

func TestTheChaptersExample(t *testing.T) {
	x, e := New(3, 1)
	if want := (Thread{State: Inactive, Caller: -1, Level: 3, Domain: 1}); x != want || e != api.OK {
		t.Fatalf("New: %+v, error %d", x, e)
	}
	x, e = Start(x)
	if want := (Thread{State: Ready, Caller: -1, Level: 3, Domain: 1}); x != want || e != api.OK {
		t.Fatalf("Start: %+v, error %d", x, e)
	}
	x, e = Block(x, Sending, 5, 7, true)
	if want := (Thread{State: Sending, On: 5, Badge: 7, Calls: true, Caller: -1, Level: 3, Domain: 1}); x != want || e != api.OK {
		t.Fatalf("Block: %+v, error %d", x, e)
	}
	wantStart(t, x, Thread{}, api.ErrState)
	x, e = Wake(x, someRegs)
	if want := (Thread{State: Ready, Caller: -1, Level: 3, Domain: 1, Regs: someRegs}); x != want || e != api.OK {
		t.Fatalf("Wake: %+v, error %d", x, e)
	}
}

// A thread's whole way: it is blocked in each state that it may be blocked in,
// woken with registers, asked, answers, and is stopped.
func TestAThreadsWay(t *testing.T) {
	x := Thread{State: Ready, Caller: -1, Level: 7, Domain: 3, Pc: 4095, Regs: someRegs}
	steps := []struct {
		state, on int
		badge     uint64
		calls     bool
	}{
		{Sending, 0, 0, false}, {Sending, 63, topBadge, true}, {Sending, 1, 0, true}, {Sending, 2, 9, false},
		{Receiving, 0, 0, false}, {Receiving, 63, 0, false}, {Asking, 0, 0, false}, {Waiting, 0, 0, false}, {Waiting, 63, 0, false},
	}
	for k, s := range steps {
		asked := x
		asked.Caller = k * 7
		wantAsk(t, x, k*7, asked, api.OK)

		waits := asked
		waits.State, waits.On, waits.Badge, waits.Calls = s.state, s.on, s.badge, s.calls
		wantBlock(t, asked, s.state, s.on, s.badge, s.calls, waits, api.OK)

		woken := asked
		woken.Regs = msg.Regs{uint64(k), 1, 2, 3, 4, 5, 6, 7}
		wantWake(t, waits, woken.Regs, woken, api.OK)

		stopped := asked
		stopped.State = Inactive
		wantStop(t, waits, stopped)
		wantStart(t, stopped, asked, api.OK)

		x = woken
		x.Caller = -1
		wantAsk(t, woken, -1, x, api.OK)
	}
}

// 20.1, and the section Words

func TestCheckOfRightOnes(t *testing.T) {
	wantCheck(t, Thread{}, api.OK)
	for _, m := range most {
		wantCheck(t, m, api.OK)
		wantCheck(t, Thread{State: m.State}, api.OK)
		wantCheck(t, Thread{State: m.State, Caller: -1}, api.OK)
	}
	for _, x := range rightThreads() {
		wantCheck(t, x, api.OK)
	}
}

func TestCheckOfWrongOnes(t *testing.T) {
	for _, w := range wrongThreads() {
		wantCheck(t, w.t, w.e)
	}
}

func TestCheckTellsEachState(t *testing.T) {
	for state := -300; state <= 300; state++ {
		want := api.ErrState
		if 0 <= state && state <= 5 {
			want = api.OK
		}
		wantCheck(t, Thread{State: state}, want)
	}
	for _, state := range states() {
		seeCheck(t, Thread{State: state})
		seeCheck(t, Thread{State: state, On: 1})
		seeCheck(t, Thread{State: state, Badge: 1})
		seeCheck(t, Thread{State: state, Calls: true})
	}
}

// A State that is none comes ahead of all else that is wrong.
func TestCheckTellsTheStateFirst(t *testing.T) {
	for _, state := range []int{math.MinInt, -1, 6, math.MaxInt} {
		for _, x := range []Thread{
			{On: -1}, {On: 64}, {Badge: 1}, {Badge: 1 << 28}, {Calls: true}, {Caller: -2}, {Caller: 64},
			{Level: -1}, {Level: 8}, {Domain: -1}, {Domain: 4}, {Pc: -1}, {Pc: 4096},
		} {
			wantCheck(t, x, api.ErrField)
			x.State = state
			wantCheck(t, x, api.ErrState)
		}
	}
}

// On, Badge and Calls in each of the six states.
func TestCheckTellsWhatAStateHas(t *testing.T) {
	rows := [6]struct{ on, badge, calls api.Errno }{
		{api.ErrField, api.ErrField, api.ErrField},
		{api.ErrField, api.ErrField, api.ErrField},
		{api.OK, api.OK, api.OK},
		{api.OK, api.ErrField, api.ErrField},
		{api.ErrField, api.ErrField, api.ErrField},
		{api.OK, api.ErrField, api.ErrField},
	}
	for state, row := range rows {
		for on := 1; on < 64; on++ {
			wantCheck(t, Thread{State: state, On: on}, row.on)
		}
		for bit := range 28 {
			wantCheck(t, Thread{State: state, Badge: 1 << bit}, row.badge)
		}
		wantCheck(t, Thread{State: state, Badge: topBadge}, row.badge)
		wantCheck(t, Thread{State: state, Calls: true}, row.calls)
		wantCheck(t, Thread{State: state}, api.OK)
		for bit := 28; bit < 64; bit++ {
			wantCheck(t, Thread{State: state, Badge: 1 << bit}, api.ErrField)
			wantCheck(t, Thread{State: state, Badge: 1<<bit + 5}, api.ErrField)
		}
		for _, on := range []int{-1, -64, 64, 65, 127, 128, math.MinInt, math.MaxInt} {
			wantCheck(t, Thread{State: state, On: on}, api.ErrField)
		}
	}
}

// The fields one by one, at all that they may be, and far beyond.
func TestCheckOfEachField(t *testing.T) {
	fields := []struct {
		least, greatest int
		put             func(*Thread, int)
	}{
		{0, 63, func(t *Thread, v int) { t.On = v }},
		{-1, 63, func(t *Thread, v int) { t.Caller = v }},
		{0, 7, func(t *Thread, v int) { t.Level = v }},
		{0, 3, func(t *Thread, v int) { t.Domain = v }},
		{0, 4095, func(t *Thread, v int) { t.Pc = v }},
	}
	for k, f := range fields {
		for _, state := range []int{Sending, Receiving, Waiting, Ready, Inactive, Asking} {
			if k == 0 && most[state].On == 0 {
				continue
			}
			values := beside(f.least, f.greatest)
			for v := f.least - 10; v <= f.greatest+10; v++ {
				values = append(values, v)
			}
			for _, v := range values {
				want := api.ErrField
				if f.least <= v && v <= f.greatest {
					want = api.OK
				}
				for _, x := range []Thread{{State: state, Caller: -1}, most[state]} {
					f.put(&x, v)
					wantCheck(t, x, want)
				}
			}
		}
	}
}

// Registers may be whatever they are.
func TestCheckAsksNothingOfRegisters(t *testing.T) {
	for _, m := range most {
		for k := range 8 {
			for bit := range 64 {
				m.Regs = msg.Regs{}
				m.Regs[k] = 1 << bit
				wantCheck(t, m, api.OK)
			}
		}
		m.Regs = otherRegs
		wantCheck(t, m, api.OK)
	}
}

func TestNewOfEachLevelAndDomain(t *testing.T) {
	for level := range 8 {
		for domain := range 4 {
			wantNew(t, level, domain, Thread{State: Inactive, Caller: -1, Level: level, Domain: domain}, api.OK)
		}
	}
}

func TestNewOutOfRange(t *testing.T) {
	for level := -20; level <= 20; level++ {
		for domain := -20; domain <= 20; domain++ {
			seeNew(t, level, domain)
		}
	}
	for _, level := range beside(0, 7) {
		for _, domain := range beside(0, 3) {
			seeNew(t, level, domain)
		}
	}
	for _, wrong := range [][2]int{
		{-1, 0}, {8, 0}, {0, -1}, {0, 4}, {-1, -1}, {8, 4}, {3, 7}, {7, 4}, {8, 3}, {-1, 3}, {7, -1},
		{math.MinInt, 0}, {math.MaxInt, 0}, {0, math.MinInt}, {0, math.MaxInt}, {1 << 32, 1}, {1, 1 << 32},
	} {
		wantNew(t, wrong[0], wrong[1], Thread{}, api.ErrRange)
	}
}

func TestStartOfInactiveOnes(t *testing.T) {
	for _, x := range rightThreads() {
		if x.State != Inactive {
			continue
		}
		want := x
		want.State = Ready
		wantStart(t, x, want, api.OK)
	}
}

func TestStartOfOthers(t *testing.T) {
	for _, x := range rightThreads() {
		if x.State != Inactive {
			wantStart(t, x, Thread{}, api.ErrState)
		}
	}
}

func TestStopOfRightOnes(t *testing.T) {
	for _, x := range rightThreads() {
		want := Thread{Caller: x.Caller, Level: x.Level, Domain: x.Domain, Pc: x.Pc, Regs: x.Regs}
		wantStop(t, x, want)
		wantStop(t, want, want)
	}
}

// Whatever it was: a thread that is not right is stopped likewise, and keeps
// the rest of what it was.
func TestStopOfWrongOnes(t *testing.T) {
	for _, w := range wrongThreads() {
		x := w.t
		wantStop(t, x, Thread{Caller: x.Caller, Level: x.Level, Domain: x.Domain, Pc: x.Pc, Regs: x.Regs})
	}
	x := Thread{
		State: math.MinInt, On: math.MaxInt, Badge: math.MaxUint64, Calls: true,
		Caller: math.MinInt, Level: math.MaxInt, Domain: -9, Pc: 70000, Regs: otherRegs,
	}
	wantStop(t, x, Thread{Caller: math.MinInt, Level: math.MaxInt, Domain: -9, Pc: 70000, Regs: otherRegs})
}

// 20.2

func TestBlockInEachState(t *testing.T) {
	for _, x := range rightThreads() {
		if x.State != Ready {
			continue
		}
		for _, y := range rightThreads() {
			if y.Level != 3 || y.Domain != 1 || y.Pc != 100 || y.Caller != 9 {
				continue // what Block is not handed
			}
			want, err := Thread{}, api.ErrState
			if y.State != Inactive && y.State != Ready {
				want, err = x, api.OK
				want.State, want.On, want.Badge, want.Calls = y.State, y.On, y.Badge, y.Calls
			}
			wantBlock(t, x, y.State, y.On, y.Badge, y.Calls, want, err)
		}
	}
}

// All objects, and all bits of badges, and beyond.
func TestBlockOfEachObjectAndBadge(t *testing.T) {
	x := Thread{State: Ready, Caller: 4, Level: 5, Domain: 2, Pc: 77, Regs: someRegs}
	for _, state := range states() {
		for on := -3; on < 70; on++ {
			seeBlock(t, x, state, on, 0, false)
		}
		for _, on := range beside(0, 63) {
			seeBlock(t, x, state, on, 0, false)
			seeBlock(t, x, state, on, 7, true)
		}
		for _, badge := range badges() {
			for _, calls := range []bool{false, true} {
				seeBlock(t, x, state, 0, badge, calls)
				seeBlock(t, x, state, 63, badge, calls)
			}
		}
	}
}

func TestBlockRefuses(t *testing.T) {
	x := Thread{State: Ready, Caller: -1, Level: 1, Domain: 1, Pc: 1, Regs: someRegs}
	for _, r := range []struct {
		state, on int
		badge     uint64
		calls     bool
		err       api.Errno
	}{
		{Inactive, 0, 0, false, api.ErrState},
		{Ready, 0, 0, false, api.ErrState},
		{-1, 0, 0, false, api.ErrState},
		{6, 0, 0, false, api.ErrState},
		{math.MinInt, 0, 0, false, api.ErrState},
		{math.MaxInt, 0, 0, false, api.ErrState},
		{Sending, -1, 0, false, api.ErrField},
		{Sending, 64, 0, false, api.ErrField},
		{Sending, 0, 1 << 28, false, api.ErrField},
		{Sending, 0, math.MaxUint64, true, api.ErrField},
		{Receiving, -1, 0, false, api.ErrField},
		{Receiving, 64, 0, false, api.ErrField},
		{Receiving, 5, 1, false, api.ErrField},
		{Receiving, 5, 0, true, api.ErrField},
		{Asking, 1, 0, false, api.ErrField},
		{Asking, -1, 0, false, api.ErrField},
		{Asking, 0, 1, false, api.ErrField},
		{Asking, 0, 0, true, api.ErrField},
		{Waiting, -1, 0, false, api.ErrField},
		{Waiting, 64, 0, false, api.ErrField},
		{Waiting, 5, 1, false, api.ErrField},
		{Waiting, 5, 0, true, api.ErrField},
	} {
		wantBlock(t, x, r.state, r.on, r.badge, r.calls, Thread{}, r.err)
	}
}

// Of what the thread would be Check's error is named first: no state, then
// what is not right otherwise, then a state in which none waits.
func TestBlockTellsChecksErrorFirst(t *testing.T) {
	x := Thread{State: Ready, Caller: -1, Regs: someRegs}
	for _, on := range []int{-1, 1, 64} {
		for _, state := range []int{-1, 6} {
			wantBlock(t, x, state, on, 1<<28, true, Thread{}, api.ErrState)
		}
		for _, state := range []int{Inactive, Ready} {
			wantBlock(t, x, state, on, 0, false, Thread{}, api.ErrField)
			wantBlock(t, x, state, on, 1, true, Thread{}, api.ErrField)
		}
	}
	for _, state := range []int{Inactive, Ready} {
		wantBlock(t, x, state, 0, 1, false, Thread{}, api.ErrField)
		wantBlock(t, x, state, 0, 0, true, Thread{}, api.ErrField)
		wantBlock(t, x, state, 0, 0, false, Thread{}, api.ErrState)
	}
}

func TestBlockOfOneThatIsNotReady(t *testing.T) {
	for _, x := range rightThreads() {
		if x.State == Ready {
			continue
		}
		for _, state := range []int{-1, Inactive, Ready, Sending, Receiving, Asking, Waiting, 6} {
			wantBlock(t, x, state, 0, 0, false, Thread{}, api.ErrState)
			wantBlock(t, x, state, 64, 1<<28, true, Thread{}, api.ErrState)
		}
		wantBlock(t, x, x.State, x.On, x.Badge, x.Calls, Thread{}, api.ErrState)
	}
}

func TestWakeOfThoseThatWait(t *testing.T) {
	for _, x := range rightThreads() {
		for _, regs := range []msg.Regs{{}, someRegs, otherRegs, {9}} {
			if x.State == Inactive || x.State == Ready {
				wantWake(t, x, regs, Thread{}, api.ErrState)
				continue
			}
			want := Thread{State: Ready, Caller: x.Caller, Level: x.Level, Domain: x.Domain, Pc: x.Pc, Regs: regs}
			wantWake(t, x, regs, want, api.OK)
		}
	}
}

// Each register, with each bit, is the one that is handed in.
func TestWakeGivesEachRegister(t *testing.T) {
	x := Thread{State: Asking, Caller: 3, Level: 2, Domain: 1, Pc: 8, Regs: otherRegs}
	for k := range 8 {
		for bit := range 64 {
			var regs msg.Regs
			regs[k] = 1 << bit
			wantWake(t, x, regs, Thread{State: Ready, Caller: 3, Level: 2, Domain: 1, Pc: 8, Regs: regs}, api.OK)
		}
	}
}

func TestAskOfEachCaller(t *testing.T) {
	for _, x := range rightThreads() {
		for _, caller := range []int{-1, 0, 1, 9, 62, 63} {
			want, err := x, api.OK
			want.Caller = caller
			if caller != -1 && x.Caller != -1 {
				want, err = Thread{}, api.ErrTwice
			}
			wantAsk(t, x, caller, want, err)
		}
		for _, caller := range []int{-2, 64, math.MinInt, math.MaxInt} {
			wantAsk(t, x, caller, Thread{}, api.ErrRange)
		}
	}
}

// Who is there already is not known by its number: the same one is refused,
// and so is 0; nobody is always taken.
func TestAskOfEachCallerWhereOneIs(t *testing.T) {
	for _, m := range most {
		for is := -1; is < 64; is++ {
			x := m
			x.Caller, x.Regs = is, someRegs
			for caller := -4; caller < 68; caller++ {
				seeAsk(t, x, caller)
			}
			for _, caller := range beside(-1, 63) {
				seeAsk(t, x, caller)
			}
		}
	}
}

// A caller out of range is told ahead of one that is there already.
func TestAskTellsTheRangeFirst(t *testing.T) {
	for _, is := range []int{-1, 0, 63} {
		x := Thread{State: Ready, Caller: is}
		wantAsk(t, x, -2, Thread{}, api.ErrRange)
		wantAsk(t, x, 64, Thread{}, api.ErrRange)
	}
}

// Threads that are not right: Check's error is ahead of all others, also
// where the call could not be made of a right one, and of arguments that are
// wrong, too.
func TestWrongOnesAreRefused(t *testing.T) {
	for _, w := range wrongThreads() {
		wantStart(t, w.t, Thread{}, w.e)
		for _, state := range []int{-1, Inactive, Ready, Sending, Asking, 6} {
			wantBlock(t, w.t, state, 0, 0, false, Thread{}, w.e)
			wantBlock(t, w.t, state, 64, 1<<28, true, Thread{}, w.e)
		}
		wantWake(t, w.t, someRegs, Thread{}, w.e)
		for _, caller := range []int{-2, -1, 0, 63, 64} {
			wantAsk(t, w.t, caller, Thread{}, w.e)
		}
	}
}

// What the thread is at is laid in as a whole, but the rest of it is asked,
// too: a Ready one of which the rest is wrong is refused, and so is one that
// would be right only once it is blocked.
func TestBlockDoesNotMendAThread(t *testing.T) {
	for _, x := range []Thread{
		{State: Ready, On: 5}, {State: Ready, Badge: 1}, {State: Ready, Calls: true},
		{State: Ready, Caller: -2}, {State: Ready, Level: 8}, {State: Ready, Domain: 4}, {State: Ready, Pc: 4096},
	} {
		wantBlock(t, x, Sending, 5, 7, true, Thread{}, api.ErrField)
		wantBlock(t, x, Asking, 0, 0, false, Thread{}, api.ErrField)
	}
	wantWake(t, Thread{State: Asking, On: 5}, someRegs, Thread{}, api.ErrField)
	wantWake(t, Thread{State: Receiving, Badge: 5}, someRegs, Thread{}, api.ErrField)
	wantStart(t, Thread{State: Inactive, On: 5}, Thread{}, api.ErrField)
	wantAsk(t, Thread{State: Ready, Caller: 64}, -1, Thread{}, api.ErrField)
	wantAsk(t, Thread{State: Ready, Caller: -2}, 5, Thread{}, api.ErrField)
}

// All together: each field at its edges, each with each, in each call.
func TestEachThreadInEachCall(t *testing.T) {
	eachThread(func(x Thread) {
		seeCheck(t, x)
		seeStart(t, x)
		seeStop(t, x)
		seeWake(t, x, otherRegs)
		seeAsk(t, x, -1)
		seeAsk(t, x, 0)
		seeAsk(t, x, 64)
		seeBlock(t, x, Sending, 5, 7, true)
		seeBlock(t, x, Ready, 0, 0, false)
		seeBlock(t, x, Asking, 0, 1, false)
	})
}

// Each way to block, of threads of which the rest is at its edges.
func TestEachWayToBlock(t *testing.T) {
	eachRest(func(x Thread) {
		for _, is := range []int{Ready, Inactive, Waiting} {
			x.State = is
			for state := -2; state < 8; state++ {
				for _, on := range []int{-1, 0, 1, 63, 64} {
					for _, badge := range []uint64{0, 1, topBadge, topBadge + 1} {
						seeBlock(t, x, state, on, badge, false)
						seeBlock(t, x, state, on, badge, true)
					}
				}
			}
		}
	})
}

func TestDrawnThreads(t *testing.T) {
	n := &numbers{last: 20}
	right, blocked := 0, 0
	for range 200000 {
		x := n.thread()
		if toldCheck(x) == api.OK {
			right++
		}
		seeCheck(t, x)
		seeStart(t, x)
		seeStop(t, x)
		seeWake(t, x, n.regs())
		seeAsk(t, x, n.about(-1, 63))
		state := n.about(0, 5)
		on, badge, calls := n.way(state)
		seeBlock(t, x, state, on, badge, calls)
		x.State, x.On, x.Badge, x.Calls = Ready, 0, 0, false
		seeBlock(t, x, state, on, badge, calls)
		if _, e := toldBlock(x, state, on, badge, calls); e == api.OK {
			blocked++
		}
		seeNew(t, n.about(0, 7), n.about(0, 3))
	}
	if right < 40000 || blocked < 40000 {
		t.Errorf("%d threads were right, and %d blocked", right, blocked)
	}
}
