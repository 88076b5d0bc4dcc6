package notice

import (
	"math"
	"slices"
	"testing"

	"donjon/api"
)

// 19.3

// ledger asks what follows of a notice's answers alone: which bits were
// signalled and not told yet, and that nobody waits beside a word.
type ledger struct {
	t    *testing.T
	n    *Notice
	owed uint64
	seen counts
}

// counts are of what happened, so that a test may see that it saw enough.
type counts struct{ woken, bound, asked, kept, waits, refused int }

func newLedger(t *testing.T) *ledger { return &ledger{t: t, n: New()} }

// look is for behind each call.
func (l *ledger) look() {
	l.t.Helper()
	word, ids := l.n.State()
	if len(ids) > 0 && word != 0 {
		l.t.Fatalf("%v wait, and the word is %#x", ids, word)
	}
	if l.owed&^word != 0 {
		l.t.Fatalf("lost: %#x was signalled and not told, and the word is %#x", l.owed, word)
	}
	if word&^l.owed != 0 {
		l.t.Fatalf("the word is %#x, and %#x was signalled and not told", word, l.owed)
	}
	if len(ids) > 0 {
		l.seen.waits++
	}
	if word != 0 {
		l.seen.kept++
	}
}

// tell is for each word that is told: of it nothing is owed any more, and
// nobody is told what was not signalled.
func (l *ledger) tell(word uint64) {
	l.t.Helper()
	if word&^l.owed != 0 {
		l.t.Fatalf("%#x was told, and only %#x was signalled", word, l.owed)
	}
	l.owed &^= word
}

func (l *ledger) signal(badge uint64, bound bool) {
	l.t.Helper()
	_, before := l.n.State()
	l.owed |= badge
	if _, word, ok := l.n.Signal(badge, bound); ok {
		l.tell(word)
		if len(before) > 0 {
			l.seen.woken++
		} else {
			l.seen.bound++
		}
	} else if word != 0 {
		l.t.Fatalf("Signal(%#x, %v): nobody is told %#x", badge, bound, word)
	}
	l.look()
}

func (l *ledger) wait(id int, wait bool) {
	l.t.Helper()
	word, ok, err := l.n.Wait(id, wait)
	switch {
	case err != api.OK:
		l.seen.refused++
	case ok:
		l.tell(word)
		l.seen.asked++
	}
	if !ok && word != 0 {
		l.t.Fatalf("Wait(%d, %v): %#x is not told", id, wait, word)
	}
	l.look()
}

func (l *ledger) drawn(n *numbers) {
	l.t.Helper()
	id := n.below(64+4) - 2
	switch k := n.below(40); {
	case k < 17:
		l.signal(n.badge(), n.below(3) == 0)
	case k < 33:
		l.wait(id, n.below(4) > 0)
	case k < 36:
		l.n.Cancel(id)
	case k < 39:
		l.n.Bind(id)
	default:
		l.n.Unbind()
	}
	l.look()
}

func TestNoBitIsLostWhateverIsCalled(t *testing.T) {
	all := counts{}
	for seed := range uint64(120) {
		n := &numbers{last: 200 + seed}
		l := newLedger(t)
		l.look()
		for range 400 {
			l.drawn(n)
		}
		all.woken, all.bound = all.woken+l.seen.woken, all.bound+l.seen.bound
		all.asked, all.kept = all.asked+l.seen.asked, all.kept+l.seen.kept
		all.waits, all.refused = all.waits+l.seen.waits, all.refused+l.seen.refused
	}
	if min(all.woken, all.bound, all.asked, all.kept, all.waits, all.refused) < 700 {
		t.Errorf("%+v", all)
	}
}

// Each row of at most six calls, with two badges that share a bit.
func TestNoBitIsLostInShortRows(t *testing.T) {
	calls := []func(l *ledger){
		func(l *ledger) { l.signal(3, false) },
		func(l *ledger) { l.signal(6, true) },
		func(l *ledger) { l.wait(0, true) },
		func(l *ledger) { l.wait(63, false) },
		func(l *ledger) { l.n.Cancel(0); l.look() },
		func(l *ledger) { l.n.Bind(63); l.look() },
		func(l *ledger) { l.n.Unbind(); l.look() },
	}
	eachRow(len(calls), 6, func(row []int) {
		l := newLedger(t)
		for _, c := range row {
			calls[c](l)
		}
	})
}

// Each bit by itself: signalled while nobody waits, while some do, and for one
// that is bound; at the end all are told, each as often as it was signalled
// with a telling between.
func TestEachBitIsTold(t *testing.T) {
	for k := range 64 {
		bit := uint64(1) << k
		l := newLedger(t)
		l.signal(bit, false)
		l.signal(^bit, false)
		l.wait(1, true)
		l.wait(1, true)
		l.signal(bit, false)
		l.signal(bit, true)
		l.n.Bind(2)
		l.signal(0, true)
		l.signal(bit, true)
		l.signal(bit, false)
		l.n.Unbind()
		l.signal(^bit, true)
		l.wait(3, false)
		if l.owed != 0 || l.seen.asked != 2 || l.seen.woken != 1 || l.seen.bound != 2 {
			t.Errorf("bit %d: %#x is owed, %+v", k, l.owed, l.seen)
		}
	}
}

// A word that is there lets nobody wait, so that no signal finds both; and who
// waits lets no word be there, however many signals come.
func TestWhileSomebodyWaitsTheWordIsNought(t *testing.T) {
	all := shuffled(16)
	for _, many := range []int{1, 2, 63, 64} {
		for _, badge := range []uint64{0, 1, 1 << 63, math.MaxUint64} {
			l := newLedger(t)
			l.signal(5, false)
			for _, id := range all[:many] {
				l.wait(id, true)
			}
			if word, ids := l.n.State(); word != 0 || !slices.Equal(ids, all[1:many]) {
				t.Fatalf("%#x, %v; not 0, %v", word, ids, all[1:many])
			}
			for range many + 1 {
				l.signal(badge, true)
			}
			if _, ids := l.n.State(); len(ids) > 0 {
				t.Fatalf("%v still wait", ids)
			}
			l.wait(all[0], true)
			if l.owed != 0 {
				t.Fatalf("%#x is owed", l.owed)
			}
		}
	}
}

// What is refused takes no word away.
func TestRefusedCallsLoseNothing(t *testing.T) {
	for _, badge := range badges() {
		l := newLedger(t)
		l.signal(badge, false)
		for _, id := range noIDs() {
			l.wait(id, true)
			l.wait(id, false)
			l.n.Bind(id)
			l.n.Cancel(id)
			l.look()
		}
		l.n.Bind(0)
		l.n.Bind(0)
		l.n.Bind(63)
		l.look()
		if l.owed != badge {
			t.Fatalf("%#x is owed, not %#x", l.owed, badge)
		}
	}
}
