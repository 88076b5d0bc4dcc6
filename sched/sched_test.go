package sched

import (
	"slices"
	"testing"

	"donjon/api"
)

// 21.1: New

func TestNewOfEachLength(t *testing.T) {
	for many := 1; many <= 16; many++ {
		h := newHeld(t, entries(many))
		if entry, left := h.s.Now(); entry != 0 || left != 1 {
			t.Errorf("%d entries: at %d, %d left", many, entry, left)
		}
		for range 3*len(h.want.moments) + 2 {
			h.tick()
		}
	}
}

func TestNewOfEachDomainAndEachTicks(t *testing.T) {
	for domain := range 4 {
		for ticks := 1; ticks <= 1000; ticks++ {
			s := made(t, []Time{{domain, ticks}})
			if entry, left := s.Now(); entry != 0 || left != ticks || s.Domain() != domain {
				t.Fatalf("domain %d, %d ticks: at %d, %d left, domain %d", domain, ticks, entry, left, s.Domain())
			}
		}
	}
}

func TestNewBeginsAtTheFirstEntry(t *testing.T) {
	for domain := range 4 {
		for _, ticks := range []int{1, 2, 999, 1000} {
			s := made(t, []Time{{domain, ticks}, {3 - domain, 7}, {1, 5}})
			if entry, left := s.Now(); entry != 0 || left != ticks || s.Domain() != domain {
				t.Errorf("at %d, %d left, domain %d", entry, left, s.Domain())
			}
		}
	}
}

func TestNobodyIsReadyAtFirst(t *testing.T) {
	h := newHeld(t, round(0))
	for range 8 {
		h.picksNobody()
		h.there()
		h.tick()
	}
	for _, id := range noIDs() {
		h.drop(id)
		h.yield(id)
	}
}

func TestNewOfNoEntryIsErrRange(t *testing.T) {
	wantNoSched(t, nil)
	wantNoSched(t, []Time{})
	wantNoSched(t, round(0)[:0]) // what lies behind the end is no entry
}

func TestNewOfTooManyEntriesIsErrRange(t *testing.T) {
	for _, many := range []int{17, 18, 31, 32, 33, 64, 255, 256, 257, 272, 1000, 1 << 16, 1<<16 + 1, 1<<16 + 16} {
		times := make([]Time, many)
		for k := range times {
			times[k] = Time{k % 4, 1}
		}
		wantNoSched(t, times)
		times[0].Domain = 4
		wantNoSched(t, times)
	}
}

// Each place of each length is looked at, also the last one.
func TestNewOfAWrongEntryIsErrRange(t *testing.T) {
	for many := 1; many <= 16; many++ {
		for at := range many {
			times := entries(many)
			right := times[at]
			for _, domain := range noDomains() {
				times[at] = Time{domain, right.Ticks}
				wantNoSched(t, times)
			}
			for _, ticks := range noTicks() {
				times[at] = Time{right.Domain, ticks}
				wantNoSched(t, times)
			}
			times[at] = Time{4, 0}
			wantNoSched(t, times)
			times[at] = right
			made(t, times)
		}
	}
}

func TestNewOfWrongEntriesAtTwoPlacesIsErrRange(t *testing.T) {
	for _, wrong := range []Time{{-1, 1}, {4, 1}, {0, 0}, {3, 1001}} {
		for _, other := range []Time{{-1, 1}, {4, 1}, {0, 0}, {3, 1001}} {
			wantNoSched(t, []Time{wrong, other})
			wantNoSched(t, []Time{{0, 1}, wrong, {1, 1}, other})
		}
	}
}

// What lies behind the end is no entry, so that it needn't be right, however
// much it is.
func TestNewLooksAtTheEntriesAlone(t *testing.T) {
	for _, room := range []int{0, 2, 15, 16, 300} {
		for many := 1; many <= 16; many++ {
			all := make([]Time, many+room)
			for k := range all {
				all[k] = Time{-1, 5000}
			}
			copy(all[:many], entries(many))
			h := newHeld(t, all[:many])
			for range 2*len(h.want.moments) + 1 {
				h.tick()
			}
		}
	}
}

func TestNewLeavesTheScheduleAsItIs(t *testing.T) {
	all := []Time{{0, 2}, {1, 1}, {3, 1000}, {7, 7}, {0, 0}}
	want := slices.Clone(all)
	s := made(t, all[:3])
	for id := range 10 {
		s.Put(id, id%4, id%8)
		s.Tick()
		s.Yield(id)
		s.Drop(id / 2)
	}
	wantNoSched(t, all)
	wantNoSched(t, all[3:])
	wantNoSched(t, all[:0])
	if !slices.Equal(all, want) {
		t.Errorf("%v, not %v", all, want)
	}
}

func TestChangingTheScheduleChangesNothing(t *testing.T) {
	for later := range 9 {
		times := []Time{{0, 2}, {1, 1}, {3, 3}, {2, 1}}
		h := newHeld(t, times, [3]int{5, 0, 1}, [3]int{6, 1, 1}, [3]int{7, 2, 1}, [3]int{8, 3, 1})
		for range later {
			h.tick()
		}
		for k := range times {
			times[k] = Time{-9, -9}
		}
		h.same()
		for range 15 {
			h.tick()
		}
		_ = append(times[:1], Time{2, 900})
		h.emptied()
	}
}

func TestSchedsShareNothing(t *testing.T) {
	times := []Time{{0, 2}, {1, 1}, {2, 1}, {3, 3}}
	a, b := newHeld(t, times), newHeld(t, times)
	n := &numbers{last: 3}
	for range 400 {
		for _, h := range []*held{a, b} {
			id := n.below(64)
			switch n.below(4) {
			case 0:
				h.drop(id)
			case 1:
				h.yield(id)
			case 2:
				h.tick()
			default:
				h.put(id, n.below(4), n.below(8))
			}
			a.same()
			b.same()
		}
	}
	a.emptied()
	b.emptied()
	newHeld(t, times).there()
}

// 21.1: Put

func TestPutOfEachIDInEachDomainAtEachLevel(t *testing.T) {
	for domain := range 4 {
		for level := range 8 {
			for id := range 64 {
				h := newHeld(t, round(id), [3]int{id, domain, level})
				for range 5 {
					if h.s.Domain() == domain {
						h.picks(id)
					} else {
						h.picksNobody()
					}
					h.tick()
				}
				h.drop(id)
				h.drop(id)
				h.put(id, 3-domain, 7-level)
				h.until(3 - domain)
				h.dropsInOrder(id)
			}
		}
	}
}

// Of 0 who is picked, and that nobody is, are told apart by the bool alone.
func TestPickOfTheIDNought(t *testing.T) {
	h := newHeld(t, []Time{{0, 3}}, [3]int{0, 0, 0})
	for range 3 {
		if id, ok := h.s.Pick(); id != 0 || !ok {
			t.Errorf("%d, %v", id, ok)
		}
		h.tick()
	}
	h.drop(0)
	h.picksNobody()
}

func TestPutPutsBehindThoseOfTheLevel(t *testing.T) {
	h := newHeld(t, round(2), [3]int{9, 2, 3}, [3]int{63, 2, 0}, [3]int{2, 2, 3}, [3]int{0, 2, 0}, [3]int{5, 2, 3}, [3]int{1, 2, 7}, [3]int{62, 2, 0})
	h.there()
	h.dropsInOrder(1, 9, 2, 5, 63, 0, 62)
}

func TestPickIsOfTheHighestLevel(t *testing.T) {
	for low := range 8 {
		for high := low + 1; high < 8; high++ {
			h := newHeld(t, round(1), [3]int{10, 1, low}, [3]int{20, 1, high}, [3]int{30, 1, low})
			h.dropsInOrder(20, 10, 30)
			h = newHeld(t, round(1), [3]int{20, 1, high}, [3]int{10, 1, low}, [3]int{30, 1, high})
			h.dropsInOrder(20, 30, 10)
		}
	}
}

func TestAllLevelsOfAllDomains(t *testing.T) {
	h := newHeld(t, round(0))
	for k := range 32 {
		h.put(63-k, k%4, k/4)
		h.put(k, k%4, k/4)
	}
	h.there()
	for domain := range 4 {
		for level := 7; level >= 0; level-- {
			for _, id := range []int{63 - 4*level - domain, 4*level + domain} {
				h.picks(id)
				h.drop(id)
			}
		}
		h.picksNobody()
		h.tick()
	}
}

// Who is ready in another domain is not picked, however high its level.
func TestPickIsOfTheDomainThatRuns(t *testing.T) {
	for domain := range 4 {
		h := newHeld(t, round(domain), [3]int{4, domain, 0})
		for k := 1; k < 4; k++ {
			h.put(k, (domain+k)%4, 7)
		}
		for range 2 {
			h.picks(4)
			for k := 1; k < 4; k++ {
				h.tick()
				h.picks(k)
			}
			h.tick()
		}
		h.drop(4)
		h.picksNobody()
		h.emptied()
	}
}

func TestPutOutOfRangeIsErrRange(t *testing.T) {
	for _, puts := range [][][3]int{{}, {{0, 0, 0}}, {{63, 3, 7}}, {{3, 1, 1}, {0, 0, 7}, {63, 2, 0}}} {
		h := newHeld(t, []Time{{0, 1}, {3, 2}, {1, 1}, {2, 1}}, puts...)
		for _, id := range noIDs() {
			for domain := range 4 {
				for level := range 8 {
					h.refused(id, domain, level, api.ErrRange)
				}
			}
		}
		for _, id := range []int{0, 1, 3, 62, 63} { // some of them are there: ErrRange is ahead
			for _, domain := range noDomains() {
				for level := range 8 {
					h.refused(id, domain, level, api.ErrRange)
				}
			}
			for _, level := range noLevels() {
				for domain := range 4 {
					h.refused(id, domain, level, api.ErrRange)
				}
			}
		}
		h.emptied()
	}
}

func TestPutOfMoreThanOneOutOfRangeIsErrRange(t *testing.T) {
	h := newHeld(t, round(0), [3]int{3, 1, 1}, [3]int{0, 0, 7}, [3]int{63, 2, 0})
	for _, domain := range noDomains() {
		for _, level := range noLevels() {
			for _, id := range []int{-1, 0, 3, 5, 63, 64} {
				h.refused(id, domain, level, api.ErrRange)
			}
		}
	}
	for _, id := range noIDs() {
		for _, other := range noDomains() {
			h.refused(id, other, 1, api.ErrRange)
		}
		for _, other := range noLevels() {
			h.refused(id, 1, other, api.ErrRange)
		}
	}
	h.emptied()
}

func TestPutOfWhoIsThereIsErrTwice(t *testing.T) {
	all := shuffled(9)
	for _, many := range []int{1, 2, 3, 9, 64} {
		h := newHeld(t, round(many))
		for k, id := range all[:many] {
			h.put(id, k%4, k%7)
		}
		for _, id := range all[:many] {
			for domain := range 4 { // its own domain and level are among them
				for level := range 8 {
					h.refused(id, domain, level, api.ErrTwice)
				}
			}
			h.same()
		}
		h.emptied()
	}
}

// Who is refused stays where it is among the others.
func TestErrTwiceChangesNoTurn(t *testing.T) {
	for domain := range 4 {
		h := newHeld(t, round(0), [3]int{7, 1, 4}, [3]int{8, 1, 4}, [3]int{9, 1, 4}, [3]int{5, domain, 7})
		h.refused(7, domain, 4, api.ErrTwice)
		h.refused(8, domain, 5, api.ErrTwice)
		h.refused(5, 1, 4, api.ErrTwice)
		h.emptied()
	}
}

func TestAllInOneDomainAtOneLevel(t *testing.T) {
	for domain := range 4 {
		for _, level := range []int{0, 3, 7} {
			all := shuffled(uint64(domain*8 + level))
			h := newHeld(t, round(domain))
			for _, id := range all {
				h.put(id, domain, level)
			}
			h.there()
			for _, id := range all {
				h.refused(id, 3-domain, 7-level, api.ErrTwice)
			}
			h.refused(64, domain, level, api.ErrRange)
			h.dropsInOrder(all...)
			h.emptied()
		}
	}
}

func TestWhoComesAgainMayComeElsewhere(t *testing.T) {
	for from := range 32 {
		for to := range 32 {
			h := newHeld(t, round(0), [3]int{20, to % 4, to / 4}, [3]int{9, from % 4, from / 4}, [3]int{30, from % 4, from / 4}, [3]int{40, to % 4, to / 4})
			h.drop(9)
			h.put(9, to%4, to/4)
			h.refused(9, from%4, from/4, api.ErrTwice)
			h.until(to % 4)
			h.yield(9)
			h.emptied()
		}
	}
}

// 21.1: Drop

func TestDropOfTheFirstABetweenAndTheLastOne(t *testing.T) {
	for domain := range 4 {
		for _, c := range []struct {
			id   int
			left []int
		}{
			{7, []int{0, 63, 2, 5}},
			{0, []int{7, 63, 2, 5}},
			{63, []int{7, 0, 2, 5}},
			{2, []int{7, 0, 63, 5}},
			{5, []int{7, 0, 63, 2}},
		} {
			h := newHeld(t, round(domain+1), [3]int{40, (domain + 1) % 4, 6}, [3]int{41, (domain + 3) % 4, 6})
			for _, id := range []int{7, 0, 63, 2, 5} {
				h.put(id, domain, 6)
			}
			h.drop(c.id) // while another domain runs
			h.drop(c.id)
			h.there()
			h.picks(40)
			h.until(domain)
			h.dropsInOrder(c.left...)
			h.emptied()
		}
	}
}

func TestDropOfEachOfAll(t *testing.T) {
	all := shuffled(11)
	for k, id := range all {
		h := newHeld(t, round(0))
		for at, other := range all {
			h.put(other, at%4, at%8)
		}
		h.drop(id)
		h.there()
		h.put(id, (k+1)%4, k%3)
		h.emptied()
	}
}

func TestDropOfWhoIsNotThere(t *testing.T) {
	all := shuffled(10)
	for _, many := range []int{0, 1, 2, 32, 63, 64} {
		h := newHeld(t, round(many))
		for k, id := range all[:many] {
			h.put(id, k%4, k%8)
		}
		for _, id := range append(noIDs(), all[many:]...) {
			h.drop(id)
		}
		h.emptied()
	}
}

// 21.1: Yield

func TestYieldOfTheOnlyOne(t *testing.T) {
	for domain := range 4 {
		for level := range 8 {
			h := newHeld(t, round(domain), [3]int{9, domain, level})
			for range 3 {
				h.yield(9)
				h.picks(9)
			}
			h.refused(9, domain, level, api.ErrTwice)
			h.dropsInOrder(9)
		}
	}
}

func TestYieldOfTheFirstABetweenAndTheLastOne(t *testing.T) {
	for domain := range 4 {
		for level := 1; level < 7; level++ {
			for _, c := range []struct {
				id   int
				then []int
			}{
				{7, []int{0, 63, 2, 5, 7}},
				{0, []int{7, 63, 2, 5, 0}},
				{63, []int{7, 0, 2, 5, 63}},
				{2, []int{7, 0, 63, 5, 2}},
				{5, []int{7, 0, 63, 2, 5}},
			} {
				h := newHeld(t, round(domain+1), [3]int{40, (domain + 1) % 4, level}, [3]int{41, (domain + 3) % 4, level})
				for _, id := range []int{7, 0, 63, 2, 5} {
					h.put(id, domain, level)
				}
				h.put(20, domain, level+1)
				h.put(30, domain, level-1)
				h.yield(c.id) // while another domain runs
				h.picks(40)
				h.until(domain)
				h.dropsInOrder(slices.Concat([]int{20}, c.then, []int{30})...)
				h.emptied()
			}
		}
	}
}

// A yield lets nobody of a lower level run, and nobody of another domain.
func TestYieldStaysAtItsLevelAndInItsDomain(t *testing.T) {
	h := newHeld(t, round(3), [3]int{1, 3, 5}, [3]int{2, 3, 4}, [3]int{3, 0, 5}, [3]int{4, 3, 4})
	h.yield(1)
	h.picks(1)
	h.yield(2)
	h.picks(1)
	h.yield(3)
	h.picks(1)
	h.dropsInOrder(1, 4, 2)
	h.tick()
	h.dropsInOrder(3)
}

func TestYieldOfWhoIsNotThere(t *testing.T) {
	all := shuffled(12)
	for _, many := range []int{0, 1, 2, 32, 63, 64} {
		h := newHeld(t, round(many))
		for k, id := range all[:many] {
			h.put(id, k%4, k%8)
		}
		for _, id := range append(noIDs(), all[many:]...) {
			h.yield(id)
		}
		h.emptied()
	}
}

// A yield of who went away lets it not come back.
func TestYieldBehindADrop(t *testing.T) {
	h := newHeld(t, round(0), [3]int{6, 0, 2}, [3]int{7, 0, 2}, [3]int{8, 1, 2})
	h.drop(6)
	h.yield(6)
	h.drop(8)
	h.yield(8)
	h.dropsInOrder(7)
	h.yield(7)
	h.emptied()
}

// Those of one level have their turns one behind another.
func TestYieldGoesRound(t *testing.T) {
	for many := 1; many <= 64; many++ {
		s := made(t, []Time{{2, 1000}})
		for id := range many {
			s.Put(id, 2, 5)
		}
		for k := range 2*many + 3 {
			id, ok := s.Pick()
			if id != k%many || !ok || !s.Yield(id) {
				t.Fatalf("%d of %d: %d, %v", k, many, id, ok)
			}
		}
	}
}

func TestYieldOfEachOfAll(t *testing.T) {
	all := shuffled(13)
	for _, id := range all {
		h := newHeld(t, round(id))
		for at, other := range all {
			h.put(other, at%4, at%3)
		}
		h.yield(id)
		h.emptied()
	}
}

// 21.1: Pick

func TestPickStays(t *testing.T) {
	h := newHeld(t, round(0), [3]int{6, 0, 2}, [3]int{7, 0, 2})
	for range 100 {
		h.picks(6)
	}
	h.there()
	h.dropsInOrder(6, 7)
}

func TestPickOfADomainInWhichNobodyIsReady(t *testing.T) {
	for domain := range 4 {
		h := newHeld(t, round(domain))
		for id := range 60 {
			h.put(id, (domain+1+id%3)%4, id%8)
		}
		for range 3 {
			h.picksNobody()
			for range 4 {
				h.tick()
			}
		}
		h.put(60, domain, 0)
		h.picks(60)
		h.emptied()
	}
}

// Who is put into a domain that has no entry is there, and never picked.
func TestADomainWithoutAnEntry(t *testing.T) {
	for domain := range 4 {
		h := newHeld(t, []Time{{domain, 1}, {domain, 2}})
		for k := range 12 {
			h.put(k, (domain+1+k%3)%4, k%8)
		}
		for range 7 {
			h.picksNobody()
			h.tick()
		}
		for k := range 12 {
			h.yield(k)
			h.refused(k, domain, 7, api.ErrTwice)
		}
		h.there()
		h.drop(4)
		h.put(4, domain, 0)
		h.picks(4)
		h.emptied()
	}
}

// 21.1 and 21.2: rows of calls

// Each row of at most four calls with three ids, two domains and two levels,
// and ticks.
func TestEachShortRow(t *testing.T) {
	ids, domains, levels := []int{0, 9, 63}, []int{0, 3}, []int{0, 7}
	count := 0
	eachRow(19, 4, func(row []int) {
		h := newHeld(t, []Time{{3, 2}, {0, 1}})
		for _, c := range row {
			switch {
			case c < 12:
				h.put(ids[c%3], domains[c/3%2], levels[c/6])
			case c < 15:
				h.drop(ids[c-12])
			case c < 18:
				h.yield(ids[c-15])
			default:
				h.tick()
			}
		}
		count++
		for range 3 {
			for id, is := h.want.pick(); is; id, is = h.want.pick() {
				h.drop(id)
			}
			h.tick()
		}
	})
	if count != 137561 {
		t.Errorf("%d rows", count)
	}
}

// Each row of at most six calls at one level, where turns change most.
func TestEachShortRowOfOneLevel(t *testing.T) {
	count := 0
	eachRow(6, 6, func(row []int) {
		h := newHeld(t, []Time{{1, 1}}, [3]int{9, 1, 4}, [3]int{0, 1, 4}, [3]int{63, 1, 4})
		for _, c := range row {
			id := []int{0, 9, 63}[c%3]
			if c < 3 {
				h.yield(id)
			} else if _, is := h.want.at[id]; is {
				h.drop(id)
			} else {
				h.put(id, 1, 4)
			}
		}
		for id, is := h.want.pick(); is; id, is = h.want.pick() {
			h.drop(id)
		}
		count++
	})
	if count != 55987 {
		t.Errorf("%d rows", count)
	}
}

func TestDrawnCalls(t *testing.T) {
	for seed := range uint64(60) {
		n := &numbers{last: seed}
		h := newHeld(t, n.times(16, 1+n.below(6)))
		more := 2 + n.below(5)
		for range 400 {
			id := n.below(70) - 3
			if n.below(3) == 0 {
				id, _ = h.want.pick()
			}
			switch k := n.below(10); {
			case k < more:
				h.put(id, n.below(6)-1, n.below(10)-1)
			case k < 7:
				h.yield(id)
			case k < 8:
				h.drop(id)
			default:
				h.tick()
			}
		}
		h.emptied()
	}
}
