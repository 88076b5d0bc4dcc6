package thread

import (
	"math"
	"testing"

	"donjon/api"
	"donjon/msg"
)

const topBadge = 1<<28 - 1

// most is the greatest that each field may be in a state, written out from the
// chapter: a row's place is its State.
var most = [6]Thread{
	{State: 0, Caller: 63, Level: 7, Domain: 3, Pc: 4095},
	{State: 1, Caller: 63, Level: 7, Domain: 3, Pc: 4095},
	{State: 2, On: 63, Badge: topBadge, Calls: true, Caller: 63, Level: 7, Domain: 3, Pc: 4095},
	{State: 3, On: 63, Caller: 63, Level: 7, Domain: 3, Pc: 4095},
	{State: 4, Caller: 63, Level: 7, Domain: 3, Pc: 4095},
	{State: 5, On: 63, Caller: 63, Level: 7, Domain: 3, Pc: 4095},
}

// toldCheck is what the section Words says, by the rows of most.
func toldCheck(t Thread) api.Errno {
	for _, m := range most {
		if t.State != m.State {
			continue
		}
		switch {
		case t.On < 0, t.On > m.On, t.Badge > m.Badge, t.Calls && !m.Calls, t.Caller < -1, t.Caller > m.Caller,
			t.Level < 0, t.Level > m.Level, t.Domain < 0, t.Domain > m.Domain, t.Pc < 0, t.Pc > m.Pc:
			return api.ErrField
		}
		return api.OK
	}
	return api.ErrState
}

func toldNew(level, domain int) (Thread, api.Errno) {
	for l := range 8 {
		for d := range 4 {
			if level == l && domain == d {
				return Thread{Caller: -1, Level: l, Domain: d}, api.OK
			}
		}
	}
	return Thread{}, api.ErrRange
}

// other is a thread that is at something else, all its fields written out.
func other(t Thread, state, on int, badge uint64, calls bool, caller int, regs msg.Regs) Thread {
	return Thread{
		State: state, On: on, Badge: badge, Calls: calls, Caller: caller,
		Level: t.Level, Domain: t.Domain, Pc: t.Pc, Regs: regs,
	}
}

func toldStart(t Thread) (Thread, api.Errno) {
	switch e := toldCheck(t); {
	case e != api.OK:
		return Thread{}, e
	case t.State != 0:
		return Thread{}, api.ErrState
	}
	return other(t, 1, 0, 0, false, t.Caller, t.Regs), api.OK
}

func toldStop(t Thread) Thread { return other(t, 0, 0, 0, false, t.Caller, t.Regs) }

func toldBlock(t Thread, state, on int, badge uint64, calls bool) (Thread, api.Errno) {
	is := other(t, state, on, badge, calls, t.Caller, t.Regs)
	switch e, later := toldCheck(t), toldCheck(is); {
	case e != api.OK:
		return Thread{}, e
	case t.State != 1:
		return Thread{}, api.ErrState
	case later != api.OK:
		return Thread{}, later
	case state < 2:
		return Thread{}, api.ErrState
	}
	return is, api.OK
}

func toldWake(t Thread, regs msg.Regs) (Thread, api.Errno) {
	switch e := toldCheck(t); {
	case e != api.OK:
		return Thread{}, e
	case t.State < 2:
		return Thread{}, api.ErrState
	}
	return other(t, 1, 0, 0, false, t.Caller, regs), api.OK
}

func toldAsk(t Thread, caller int) (Thread, api.Errno) {
	switch e := toldCheck(t); {
	case e != api.OK:
		return Thread{}, e
	case caller < -1, caller > 63:
		return Thread{}, api.ErrRange
	case caller >= 0 && t.Caller >= 0:
		return Thread{}, api.ErrTwice
	}
	return other(t, t.State, t.On, t.Badge, t.Calls, caller, t.Regs), api.OK
}

// The calls, each held against what is wanted of it. Each is made twice:
// nothing is kept from one to the next.

func wantCheck(t *testing.T, x Thread, want api.Errno) {
	t.Helper()
	for range 2 {
		if e := Check(x); e != want {
			t.Fatalf("Check(%+v): error %d, not %d", x, e, want)
		}
	}
}

func wantNew(t *testing.T, level, domain int, want Thread, err api.Errno) {
	t.Helper()
	for range 2 {
		if x, e := New(level, domain); x != want || e != err {
			t.Fatalf("New(%d, %d): %+v, error %d; not %+v, error %d", level, domain, x, e, want, err)
		}
	}
}

func wantStart(t *testing.T, x, want Thread, err api.Errno) {
	t.Helper()
	for range 2 {
		if y, e := Start(x); y != want || e != err {
			t.Fatalf("Start(%+v): %+v, error %d; not %+v, error %d", x, y, e, want, err)
		}
	}
}

func wantStop(t *testing.T, x, want Thread) {
	t.Helper()
	for range 2 {
		if y := Stop(x); y != want {
			t.Fatalf("Stop(%+v): %+v, not %+v", x, y, want)
		}
	}
}

func wantBlock(t *testing.T, x Thread, state, on int, badge uint64, calls bool, want Thread, err api.Errno) {
	t.Helper()
	for range 2 {
		if y, e := Block(x, state, on, badge, calls); y != want || e != err {
			t.Fatalf("Block(%+v, %d, %d, %#x, %v): %+v, error %d; not %+v, error %d", x, state, on, badge, calls, y, e, want, err)
		}
	}
}

func wantWake(t *testing.T, x Thread, regs msg.Regs, want Thread, err api.Errno) {
	t.Helper()
	for range 2 {
		if y, e := Wake(x, regs); y != want || e != err {
			t.Fatalf("Wake(%+v, %v): %+v, error %d; not %+v, error %d", x, regs, y, e, want, err)
		}
	}
}

func wantAsk(t *testing.T, x Thread, caller int, want Thread, err api.Errno) {
	t.Helper()
	for range 2 {
		if y, e := Ask(x, caller); y != want || e != err {
			t.Fatalf("Ask(%+v, %d): %+v, error %d; not %+v, error %d", x, caller, y, e, want, err)
		}
	}
}

// The calls, each held against what the chapter tells.

func seeCheck(t *testing.T, x Thread) {
	t.Helper()
	wantCheck(t, x, toldCheck(x))
}

func seeNew(t *testing.T, level, domain int) {
	t.Helper()
	x, e := toldNew(level, domain)
	wantNew(t, level, domain, x, e)
}

func seeStart(t *testing.T, x Thread) {
	t.Helper()
	y, e := toldStart(x)
	wantStart(t, x, y, e)
}

func seeStop(t *testing.T, x Thread) {
	t.Helper()
	wantStop(t, x, toldStop(x))
}

func seeBlock(t *testing.T, x Thread, state, on int, badge uint64, calls bool) {
	t.Helper()
	y, e := toldBlock(x, state, on, badge, calls)
	wantBlock(t, x, state, on, badge, calls, y, e)
}

func seeWake(t *testing.T, x Thread, regs msg.Regs) {
	t.Helper()
	y, e := toldWake(x, regs)
	wantWake(t, x, regs, y, e)
}

func seeAsk(t *testing.T, x Thread, caller int) {
	t.Helper()
	y, e := toldAsk(x, caller)
	wantAsk(t, x, caller, y, e)
}

// Registers of which each one is another one.
var (
	someRegs  = msg.Regs{11, 12, 13, 14, 15, 16, 17, math.MaxUint64}
	otherRegs = msg.Regs{math.MaxUint64 - 1, 27, 26, 25, 24, 23, 22, 21}
)

// beside are numbers at, beside and far from the bounds of a field from the
// least to the greatest, and such as lie within if their high bits are lost.
func beside(least, greatest int) []int {
	l := []int{
		math.MinInt, math.MinInt + 1, least - 100, least - 2, least - 1, least, least + 1,
		greatest - 1, greatest, greatest + 1, greatest + 2, 2*greatest + 1, greatest + 100, math.MaxInt - 1, math.MaxInt,
	}
	for k := 13; k < 63; k++ {
		l = append(l, 1<<k+least, 1<<k+greatest, -1<<k+least, -1<<k+greatest)
	}
	return l
}

// states are all six, and numbers that are none.
func states() []int { return append([]int{2, 3}, beside(0, 5)...) }

// badges are at, beside and far from the bound, and each bit by itself.
func badges() []uint64 {
	l := []uint64{0, 3, 7, topBadge - 1, topBadge, topBadge + 2, 1<<29 - 1, 1<<32 - 1, 1<<32 + 1, math.MaxInt64, math.MaxUint64, math.MaxUint64 - topBadge}
	for k := range 64 {
		l = append(l, 1<<k)
	}
	return l
}

// eachThread hands on threads with each field at, and beside, its bounds, each
// with each: right ones and others.
func eachThread(see func(Thread)) {
	for _, state := range []int{math.MinInt, -1, 0, 1, 2, 3, 4, 5, 6, math.MaxInt} {
		for _, on := range []int{-1, 0, 1, 63, 64} {
			for _, badge := range []uint64{0, 1, topBadge, topBadge + 1} {
				for _, calls := range []bool{false, true} {
					eachRest(func(t Thread) {
						t.State, t.On, t.Badge, t.Calls = state, on, badge, calls
						see(t)
					})
				}
			}
		}
	}
}

// eachRest hands on inactive threads with each field that they have at, and
// beside, its bounds, each with each.
func eachRest(see func(Thread)) {
	for _, caller := range []int{-2, -1, 0, 63, 64} {
		for _, level := range []int{-1, 0, 7, 8} {
			for _, domain := range []int{-1, 0, 3, 4} {
				for _, pc := range []int{-1, 0, 4095, 4096} {
					see(Thread{Caller: caller, Level: level, Domain: domain, Pc: pc, Regs: someRegs})
				}
			}
		}
	}
}

// rightThreads are right ones in all states: each field at its least, at its
// greatest, and between, each with each.
func rightThreads() []Thread {
	var l []Thread
	for _, m := range most {
		for _, on := range []int{0, 5, 63} {
			for _, badge := range []uint64{0, 7, topBadge} {
				for _, calls := range []bool{false, true} {
					if on > m.On || badge > m.Badge || calls && !m.Calls {
						continue
					}
					for _, caller := range []int{-1, 0, 9, 63} {
						for _, level := range []int{0, 3, 7} {
							for _, domain := range []int{0, 1, 3} {
								for _, pc := range []int{0, 100, 4095} {
									l = append(l, Thread{
										State: m.State, On: on, Badge: badge, Calls: calls,
										Caller: caller, Level: level, Domain: domain, Pc: pc, Regs: someRegs,
									})
								}
							}
						}
					}
				}
			}
		}
	}
	return l
}

// wrong is a thread that is not right, and Check's error of it.
type wrong struct {
	t Thread
	e api.Errno
}

// wrongThreads are, of each state, a right one of which one thing is wrong;
// those of no state; and those of no state of which all else is wrong, too.
func wrongThreads() []wrong {
	var l []wrong
	for _, m := range most {
		m.Regs = otherRegs
		for _, spoil := range []func(*Thread){
			func(t *Thread) { t.On = -1 },
			func(t *Thread) { t.On = m.On + 1 },
			func(t *Thread) { t.On = math.MinInt },
			func(t *Thread) { t.On = math.MaxInt },
			func(t *Thread) { t.Badge = m.Badge + 1 },
			func(t *Thread) { t.Badge = math.MaxUint64 },
			func(t *Thread) { t.Caller = -2 },
			func(t *Thread) { t.Caller = 64 },
			func(t *Thread) { t.Level = -1 },
			func(t *Thread) { t.Level = 8 },
			func(t *Thread) { t.Domain = -1 },
			func(t *Thread) { t.Domain = 4 },
			func(t *Thread) { t.Pc = -1 },
			func(t *Thread) { t.Pc = 4096 },
		} {
			x := m
			spoil(&x)
			l = append(l, wrong{x, api.ErrField})
		}
		if !m.Calls {
			x := m
			x.Calls = true
			l = append(l, wrong{x, api.ErrField})
		}
	}
	for _, state := range []int{math.MinInt, -256, -6, -1, 6, 7, 8, 256, 258, 1<<32 + 1, math.MaxInt} {
		l = append(l,
			wrong{Thread{State: state}, api.ErrState},
			wrong{Thread{State: state, Caller: -1, Regs: someRegs}, api.ErrState},
			wrong{Thread{State: state, On: 64, Badge: 1 << 28, Calls: true, Caller: -2, Level: 8, Domain: 4, Pc: 4096}, api.ErrState},
			wrong{Thread{State: state, On: -1, Caller: 64, Level: -1, Domain: -1, Pc: -1}, api.ErrState})
	}
	return l
}

// numbers are drawn by a rule, the same ones each time.
type numbers struct{ last uint64 }

func (n *numbers) next() uint64 {
	n.last = n.last*6364136223846793005 + 1442695040888963407
	return n.last>>33 ^ n.last<<31
}

func (n *numbers) below(m int) int { return int(n.next() % uint64(m)) }

func (n *numbers) bool() bool { return n.below(2) == 0 }

// about is a number from the least to the greatest mostly, and at times
// beside these.
func (n *numbers) about(least, greatest int) int {
	if n.below(16) == 0 {
		l := beside(least, greatest)
		return l[n.below(len(l))]
	}
	return least + n.below(greatest-least+1)
}

func (n *numbers) badge() uint64 {
	if n.below(8) == 0 {
		l := badges()
		return l[n.below(len(l))]
	}
	return n.next() & topBadge >> n.below(29)
}

func (n *numbers) regs() msg.Regs {
	var r msg.Regs
	for k := range r {
		r[k] = n.next() >> n.below(65)
	}
	return r
}

// thread is a right one mostly; what a state does not have it has at times.
func (n *numbers) thread() Thread {
	t := Thread{
		State: n.about(0, 5), Caller: n.about(-1, 63), Level: n.about(0, 7),
		Domain: n.about(0, 3), Pc: n.about(0, 4095), Regs: n.regs(),
	}
	if n.bool() {
		t.Caller = -1
	}
	t.On, t.Badge, t.Calls = n.way(t.State)
	return t
}

// way is what a thread is at in a state: as the state has it mostly.
func (n *numbers) way(state int) (int, uint64, bool) {
	on, badge, calls := n.about(0, 63), n.badge(), n.bool()
	if n.below(8) == 0 {
		return on, badge, calls
	}
	if state != 2 {
		badge, calls = 0, false
	}
	if state != 2 && state != 3 && state != 5 {
		on = 0
	}
	return on, badge, calls
}
