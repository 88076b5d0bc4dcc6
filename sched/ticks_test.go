package sched

import "testing"

// 21.2

func wantNow(t *testing.T, s *Sched, entry, left, domain int) {
	t.Helper()
	if e, l := s.Now(); e != entry || l != left || s.Domain() != domain {
		t.Fatalf("at %d, %d left, domain %d; not %d, %d, %d", e, l, s.Domain(), entry, left, domain)
	}
}

// passed lets ticks go by of which none begins an entry.
func passed(t *testing.T, s *Sched, many int) {
	t.Helper()
	for range many {
		if s.Tick() {
			e, l := s.Now()
			t.Fatalf("true, at %d, %d left", e, l)
		}
	}
}

func begins(t *testing.T, s *Sched, entry, left, domain int) {
	t.Helper()
	if !s.Tick() {
		t.Fatalf("false, ahead of the entry %d", entry)
	}
	wantNow(t, s, entry, left, domain)
}

func TestTheChaptersExample(t *testing.T) {
	s := made(t, []Time{{0, 2}, {1, 1}})
	wantNow(t, s, 0, 2, 0)
	for range 3 {
		passed(t, s, 1)
		wantNow(t, s, 0, 1, 0)
		begins(t, s, 1, 1, 1)
		begins(t, s, 0, 2, 0)
	}
}

func TestOneEntryOfOneTick(t *testing.T) {
	for domain := range 4 {
		s := made(t, []Time{{domain, 1}})
		for range 50 {
			begins(t, s, 0, 1, domain)
		}
	}
}

func TestOneEntryOfEachTicks(t *testing.T) {
	for ticks := 1; ticks <= 1000; ticks += 1 + ticks/8 {
		s := made(t, []Time{{3, ticks}})
		for range 3 {
			passed(t, s, ticks-1)
			wantNow(t, s, 0, 1, 3)
			begins(t, s, 0, ticks, 3)
		}
	}
}

func TestOneEntryOfTheMostTicks(t *testing.T) {
	s := made(t, []Time{{3, 1000}})
	for range 3 {
		for left := 1000; left > 1; left-- {
			wantNow(t, s, 0, left, 3)
			passed(t, s, 1)
		}
		wantNow(t, s, 0, 1, 3)
		begins(t, s, 0, 1000, 3)
	}
}

func TestSixteenEntriesOfOneTick(t *testing.T) {
	times := make([]Time, 16)
	for k := range times {
		times[k] = Time{3 - k%4, 1}
	}
	s := made(t, times)
	for k := 1; k < 100; k++ {
		begins(t, s, k%16, 1, 3-k%4)
	}
}

func TestTheGreatestSchedule(t *testing.T) {
	times := make([]Time, 16)
	for k := range times {
		times[k] = Time{k * 3 % 4, 1000}
	}
	s := made(t, times)
	for range 2 {
		for k := range 16 {
			wantNow(t, s, k, 1000, k*3%4)
			passed(t, s, 999)
			wantNow(t, s, k, 1, k*3%4)
			next := (k + 1) % 16
			begins(t, s, next, 1000, next*3%4)
		}
	}
}

func TestShortAndLongEntries(t *testing.T) {
	s := made(t, []Time{{0, 1}, {3, 1000}, {2, 1}, {1, 7}})
	for range 3 {
		begins(t, s, 1, 1000, 3)
		passed(t, s, 999)
		begins(t, s, 2, 1, 2)
		begins(t, s, 3, 7, 1)
		passed(t, s, 6)
		wantNow(t, s, 3, 1, 1)
		begins(t, s, 0, 1, 0)
	}
}

// The next entry begins, and is told, also where its domain is the same.
func TestTwoEntriesOfOneDomainBehindOneAnother(t *testing.T) {
	s := made(t, []Time{{2, 2}, {2, 3}, {1, 1}, {2, 1}})
	s.Put(9, 2, 0)
	for range 3 {
		passed(t, s, 1)
		begins(t, s, 1, 3, 2)
		if id, ok := s.Pick(); id != 9 || !ok {
			t.Errorf("%d, %v", id, ok)
		}
		passed(t, s, 2)
		begins(t, s, 2, 1, 1)
		if id, ok := s.Pick(); id != 0 || ok {
			t.Errorf("%d, %v", id, ok)
		}
		begins(t, s, 3, 1, 2)
		begins(t, s, 0, 2, 2)
	}
}

func TestTwoEntriesThatAreTheSame(t *testing.T) {
	s := made(t, []Time{{1, 2}, {1, 2}})
	for k := 1; k < 9; k++ {
		passed(t, s, 1)
		begins(t, s, k%2, 2, 1)
	}
}

func TestADomainInMoreThanOneEntry(t *testing.T) {
	h := newHeld(t, []Time{{0, 1}, {1, 2}, {0, 3}, {2, 1}, {0, 1}}, [3]int{4, 0, 3}, [3]int{5, 0, 3}, [3]int{6, 1, 3}, [3]int{7, 2, 3})
	for _, who := range []int{4, 6, 6, 5, 4, 5, 7, 4, 5, 6, 6, 4, 5, 4, 7, 5, 4} {
		h.picks(who)
		h.yield(who)
		h.tick()
	}
	h.emptied()
}

// Entries' turns stand as they were left while other domains run.
func TestTurnsStayWhileOthersRun(t *testing.T) {
	h := newHeld(t, []Time{{3, 1}, {0, 2}}, [3]int{1, 3, 6}, [3]int{2, 3, 6}, [3]int{3, 3, 6}, [3]int{4, 0, 0})
	for _, who := range []int{1, 2, 3, 1} {
		h.picks(who)
		h.yield(who)
		h.tick()
		h.picks(4)
		h.tick()
		h.picks(4)
		h.tick()
	}
	h.dropsInOrder(2, 3, 1)
}

func TestAskingChangesNoTick(t *testing.T) {
	s := made(t, []Time{{1, 3}, {0, 1}})
	s.Put(8, 1, 2)
	for range 4 {
		for left := 3; left > 0; left-- {
			for range 20 {
				s.Pick()
				s.Domain()
				wantNow(t, s, 0, left, 1)
			}
			s.Tick()
		}
		begins(t, s, 0, 3, 1)
	}
}

// A yield and a drop of who runs do not end its domain's ticks.
func TestCallsBetweenLetNoTickGoBy(t *testing.T) {
	h := newHeld(t, []Time{{1, 2}, {2, 2}})
	for k := range 40 {
		h.put(k, 1+k%2, k%8)
		h.yield(k / 2)
		h.drop(k / 3)
		h.put(k, 0, 0)
		h.put(-1, 9, 9)
		h.yield(99)
		h.tick()
	}
	h.emptied()
}
