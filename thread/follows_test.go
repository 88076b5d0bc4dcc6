package thread

import (
	"testing"

	"donjon/api"
)

// 20.3

// isRight is the section Words, asked of an answer as the chapter writes it;
// Check is asked as well, because a wrong Check might agree with a wrong call.
func isRight(t Thread) bool {
	is := map[int]bool{0: true, 1: true, 2: true, 3: true, 4: true, 5: true}[t.State]
	is = is && t.On >= 0 && t.On <= 63
	if t.State == 0 || t.State == 1 || t.State == 4 {
		is = is && t.On == 0
	}
	is = is && t.Badge < 268435456
	if t.State != 2 {
		is = is && t.Badge == 0 && !t.Calls
	}
	return is && t.Caller >= -1 && t.Caller <= 63 && t.Level >= 0 && t.Level <= 7 &&
		t.Domain >= 0 && t.Domain <= 3 && t.Pc >= 0 && t.Pc <= 4095 && Check(t) == api.OK
}

// rest is what Block and Wake leave as it is.
func rest(t Thread) [4]int { return [4]int{t.Caller, t.Level, t.Domain, t.Pc} }

// life is a thread that goes from call to call, by its answers alone.
type life struct {
	t    *testing.T
	is   Thread
	seen counts
}

// counts are of what happened, so that a test may see that it saw enough.
type counts struct {
	started, stopped, woken, asked, refused int
	blocked                                 [6]int
}

// take goes on with an answer without an error, which is right; an error's is
// the zero value, and the thread stays what it was.
func (l *life) take(call string, x Thread, e api.Errno) bool {
	l.t.Helper()
	if e != api.OK {
		if x != (Thread{}) {
			l.t.Fatalf("%s of %+v: error %d, and %+v", call, l.is, e, x)
		}
		l.seen.refused++
		return false
	}
	if !isRight(x) {
		l.t.Fatalf("%s of %+v is not right: %+v", call, l.is, x)
	}
	l.is = x
	return true
}

func (l *life) begin(level, domain int) {
	l.t.Helper()
	x, e := New(level, domain)
	l.take("New", x, e)
}

func (l *life) start() {
	l.t.Helper()
	x, e := Start(l.is)
	if l.take("Start", x, e) {
		l.seen.started++
	}
}

func (l *life) stop() {
	l.t.Helper()
	if l.take("Stop", Stop(l.is), api.OK) {
		l.seen.stopped++
	}
}

func (l *life) block(state, on int, badge uint64, calls bool) {
	l.t.Helper()
	was := rest(l.is)
	x, e := Block(l.is, state, on, badge, calls)
	if l.take("Block", x, e) {
		l.seen.blocked[l.is.State]++
		l.leaves("Block", was)
	}
}

func (l *life) wake(n *numbers) {
	l.t.Helper()
	was := rest(l.is)
	x, e := Wake(l.is, n.regs())
	if l.take("Wake", x, e) {
		l.seen.woken++
		l.leaves("Wake", was)
	}
}

func (l *life) ask(caller int) {
	l.t.Helper()
	x, e := Ask(l.is, caller)
	if l.take("Ask", x, e) {
		l.seen.asked++
	}
}

func (l *life) leaves(call string, was [4]int) {
	l.t.Helper()
	if is := rest(l.is); is != was {
		l.t.Fatalf("%s: Caller, Level, Domain and Pc were %v, and are %v", call, was, is)
	}
}

// Lives of threads, from New on: whatever is called, in whichever order. Pc is
// changed by no call, so that it is laid in at times, as who runs them does.
func TestAnswersAreRight(t *testing.T) {
	n := &numbers{last: 203}
	l := &life{t: t}
	l.begin(3, 1)
	for range 400000 {
		switch n.below(12) {
		case 0:
			l.begin(n.about(0, 7), n.about(0, 3))
		case 1:
			l.stop()
		case 2, 3:
			l.start()
		case 4, 5:
			l.ask(n.about(-1, 63))
		case 6:
			l.ask(-1)
		case 7:
			l.is.Pc = n.below(4096)
		case 8, 9:
			l.wake(n)
		default:
			state := n.about(0, 5)
			on, badge, calls := n.way(state)
			l.block(state, on, badge, calls)
		}
	}
	s := l.seen
	if s.blocked[Inactive]+s.blocked[Ready] != 0 {
		t.Errorf("blocked, and not so that it waits: %+v", s)
	}
	least := min(s.started, s.stopped, s.woken, s.asked, s.refused, s.blocked[2], s.blocked[3], s.blocked[4], s.blocked[5])
	if least < 2000 {
		t.Errorf("too little was seen: %+v", s)
	}
}

// What comes of any thread that is right, in one call.
func TestAnswersOfRightOnesAreRight(t *testing.T) {
	n := &numbers{last: 204}
	for _, x := range rightThreads() {
		if !isRight(x) {
			t.Fatalf("not right: %+v", x)
		}
		of := func() *life { return &life{t: t, is: x} }
		of().start()
		of().stop()
		of().wake(n)
		for caller := -2; caller <= 64; caller++ {
			of().ask(caller)
		}
		for state := -1; state <= 6; state++ {
			for _, on := range []int{-1, 0, 63, 64} {
				for _, badge := range []uint64{0, topBadge, topBadge + 1} {
					of().block(state, on, badge, false)
					of().block(state, on, badge, true)
				}
			}
		}
	}
}

// What comes of threads that are not right: with an error nothing, and without
// one only what is right. (Stop answers of each: of its own fields, which it
// lays in, nothing is wrong then.)
func TestAnswersOfWrongOnes(t *testing.T) {
	n := &numbers{last: 205}
	for _, w := range wrongThreads() {
		of := func() *life { return &life{t: t, is: w.t} }
		of().start()
		of().wake(n)
		of().ask(-1)
		of().ask(5)
		of().block(Sending, 5, 7, true)
		of().block(Asking, 0, 0, false)

		x := Stop(w.t)
		x.Caller, x.Level, x.Domain, x.Pc = -1, 0, 0, 0
		if !isRight(x) {
			t.Fatalf("Stop(%+v) is not right: %+v", w.t, x)
		}
	}
}

// Where nothing but its state, and what goes with that, is wrong, a thread is
// right once it is stopped.
func TestStopMendsTheState(t *testing.T) {
	n := &numbers{last: 206}
	wrongs := 0
	for range 100000 {
		x := n.thread()
		x.Caller, x.Level, x.Domain, x.Pc = n.below(65)-1, n.below(8), n.below(4), n.below(4096)
		if Check(x) != api.OK {
			wrongs++
		}
		l := &life{t: t, is: x}
		l.stop()
		l.leaves("Stop", rest(x))
		l.start()
		if l.is.State != Ready {
			t.Fatalf("%+v, stopped and started: %+v", x, l.is)
		}
	}
	if wrongs < 10000 {
		t.Errorf("%d were not right", wrongs)
	}
}
