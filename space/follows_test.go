package space

import (
	"slices"
	"testing"

	"donjon/api"
)

// 15.3

// step does a call, and holds the memory itself against what it was: one word
// is changed at most, and none if the call is refused.
func (w *world) step(c call) api.Errno {
	w.Helper()
	was, _ := w.m.Read(0, len(w.words))
	err := w.do(c)
	now, _ := w.m.Read(0, len(w.words))
	n := 0
	for at := range was {
		if was[at] != now[at] {
			n++
		}
	}
	if n > 1 || err != api.OK && n != 0 {
		w.Fatalf("%+v: error %d, and %d words are changed", c, err, n)
	}
	return err
}

// mapped is a list with one page more, in its place.
func mapped(l []Mapping, one Mapping) []Mapping {
	l = append(slices.Clone(l), one)
	slices.SortFunc(l, func(a, b Mapping) int { return a.Page - b.Page })
	return l
}

// apart is two directories, at 0 and 16, each with tables of its own at some
// places; no table is a directory, and none stands at two places.
func apart(t *testing.T) *world {
	t.Helper()
	w := newWorld(t, 512)
	w.litter(224)
	for i, x := range []int{0, 1, 7, 14, 15} {
		w.wantTable(0, 256*x, 32+16*i, api.OK)
		w.wantTable(16, 256*(15-x), 128+16*i, api.OK)
	}
	return w
}

// anyPageCall is a call that may be refused for each reason there is.
func anyPageCall(n *numbers) call {
	name := []string{"Map", "Map", "Map", "Unmap", "Remap"}[n.below(5)]
	c := call{name, 16 * n.below(2), n.below(4096), 0, n.odds(2)}
	c.a = []int{0, 1, 7, 14, 15, 15, 0, n.below(16)}[n.below(8)]*256 + c.a%256
	if name == "Map" {
		c.other = 16 * n.below(32)
	}
	switch n.below(40) {
	case 0:
		c.a = noAddresses()[n.below(200)]
	case 1:
		c.dir = noStretches(512)[n.below(200)]
	case 2:
		c.other = noStretches(512)[n.below(200)]
	}
	return c
}

func TestWhatIsMappedIsListedAndNothingElse(t *testing.T) {
	n := numbers(15)
	seen := map[api.Errno]int{}
	for range 30 {
		w := apart(t)
		for range 200 {
			c := anyPageCall(&n)
			ahead := [][]Mapping{w.list(0), w.list(16)}
			err := w.step(c)
			seen[err]++
			behind := [][]Mapping{w.list(0), w.list(16)}
			if err == api.OK {
				i := c.dir / 16
				ahead[i] = w.after(c, ahead[i])
			}
			for i := range 2 {
				if !slices.Equal(behind[i], ahead[i]) {
					t.Fatalf("%+v: the directory %d lists %v, not %v", c, 16*i, behind[i], ahead[i])
				}
			}
		}
	}
	for _, err := range []api.Errno{api.OK, api.ErrRange, api.ErrAlign, api.ErrFault, api.ErrTwice, api.ErrNone} {
		if seen[err] < 100 {
			t.Errorf("error %d came %d times", err, seen[err])
		}
	}
}

// after is what is listed behind a call that was OK, by what was ahead of it.
func (w *world) after(c call, ahead []Mapping) []Mapping {
	w.Helper()
	page := c.a / 16
	i := slices.IndexFunc(ahead, func(l Mapping) bool { return l.Page == page })
	switch c.name {
	case "Map":
		if i >= 0 {
			w.Fatalf("%+v: it was listed already", c)
		}
		return mapped(ahead, Mapping{page, c.other, c.write})
	case "Unmap":
		return slices.Delete(ahead, i, i+1)
	}
	ahead[i].Write = c.write
	return ahead
}

// Whatever comes between, also in a directory that is its own table: Unmap
// behind Map leaves the memory, and so each list, as it was.
func TestUnmappedItIsAsBefore(t *testing.T) {
	n := numbers(16)
	done := 0
	for range 200 {
		w := anyWorld(t, &n)
		for range 50 {
			c := w.anyCall(&n)
			c.name = "Map"
			was := slices.Clone(w.words)
			if w.step(c) != api.OK {
				continue
			}
			if !slices.Contains(w.list(c.dir), Mapping{c.a / 16, c.other, c.write}) {
				t.Fatalf("%+v is not listed", c)
			}
			// The page's other addresses do, too; and what Remap did is no matter.
			a := c.a - c.a%16 + n.below(16)
			if n.odds(2) && w.step(call{"Remap", c.dir, a, 0, !c.write}) != api.OK {
				t.Fatalf("%+v, and then Remap was refused", c)
			}
			if w.step(call{"Unmap", c.dir, a, 0, false}) != api.OK {
				t.Fatalf("%+v, and then Unmap was refused", c)
			}
			if !slices.Equal(w.words, was) {
				t.Fatalf("%+v, and then Unmap: the memory is not as it was", c)
			}
			done++
		}
	}
	if done < 500 {
		t.Errorf("only %d were mapped", done)
	}
}

func TestUntabledItIsAsBefore(t *testing.T) {
	n := numbers(17)
	done := 0
	for range 200 {
		w := anyWorld(t, &n)
		for range 50 {
			c := w.anyCall(&n)
			c.name, c.write = "Table", false
			was := slices.Clone(w.words)
			if w.step(c) != api.OK {
				continue
			}
			if w.step(call{"Untable", c.dir, c.a - c.a%256 + n.below(256), 0, false}) != api.OK || !slices.Equal(w.words, was) {
				t.Fatalf("%+v, and then Untable: the memory is not as it was", c)
			}
			done++
		}
	}
	if done < 500 {
		t.Errorf("only %d were laid in", done)
	}
}

// A table that stands at two places of a directory maps the page at both.
func TestMappedAtBothPlacesOfATable(t *testing.T) {
	w := newWorld(t, 64)
	w.wantTable(0, 0, 16, api.OK)
	w.wantTable(0, 4095, 16, api.OK)
	w.wantMap(0, 3*16, 48, true, api.OK)
	w.wantList(0, Mapping{Page: 3, At: 48, Write: true}, Mapping{Page: 243, At: 48, Write: true})
	w.wantUnmap(0, 15*256+3*16, api.OK)
	w.wantList(0)
}

// In a directory that is its own table a page that may not be written is a
// table as well: what was in its words is listed, too.
func TestMappedIntoADirectoryOfItsOwn(t *testing.T) {
	w := newWorld(t, 64)
	w.put(48+1, 3)
	w.wantTable(16, 2*256, 16, api.OK)
	w.wantMap(16, 2*256+5*16, 48, false, api.OK)
	w.wantList(16, Mapping{Page: 34, At: 16}, Mapping{Page: 37, At: 48}, Mapping{Page: 81, At: 0, Write: true})
	w.wantUnmap(16, 2*256+5*16, api.OK)
	w.wantList(16, Mapping{Page: 34, At: 16})
}

// All of it at once

// anyWorld is a memory of any words: directories, tables and frames are one
// another's.
func anyWorld(t *testing.T, n *numbers) *world {
	t.Helper()
	w := newWorld(t, 64+n.below(80))
	for at := range w.words {
		w.put(at, anyWord(n, len(w.words)))
	}
	return w
}

// anyWord is 0, an entry's, nearly one, or any word.
func anyWord(n *numbers, size int) uint64 {
	at := uint64(16 * n.below(size/16+1)) // the last one may be behind the end
	switch n.below(12) {
	case 0:
		return uint64(n.below(200))
	case 1:
		return at + 1 + 1<<(n.below(48)+16)
	case 2, 3:
		return at + 3
	case 4, 5, 6, 7:
		return at + 1
	}
	return 0
}

func (w *world) anyCall(n *numbers) call {
	size := len(w.words)
	name := []string{"Table", "Untable", "Map", "Unmap", "Remap"}[n.below(5)]
	c := call{name, 16 * n.below(size/16), n.below(4096), 0, false}
	if name == "Map" || name == "Remap" {
		c.write = n.odds(2)
	}
	if c.other = 16 * n.below(size/16); n.odds(20) {
		c.other = noStretches(size)[n.below(200)]
	}
	if n.odds(20) {
		c.dir = noStretches(size)[n.below(200)]
	}
	if n.odds(20) {
		c.a = noAddresses()[n.below(200)]
	}
	return c
}

func TestMemoriesOfAnyWords(t *testing.T) {
	n := numbers(18)
	type answer struct {
		name string
		err  api.Errno
	}
	seen := map[answer]int{}
	for range 300 {
		w := anyWorld(t, &n)
		for range 200 {
			c := w.anyCall(&n)
			seen[answer{c.name, w.step(c)}]++
			if n.odds(20) {
				w.list(c.dir)
			}
			if n.odds(4) {
				w.put(n.below(len(w.words)), anyWord(&n, len(w.words)))
			}
		}
	}
	want := map[string][]api.Errno{
		"Table":   {api.OK, api.ErrRange, api.ErrAlign, api.ErrTwice},
		"Untable": {api.OK, api.ErrRange, api.ErrAlign, api.ErrNone},
		"Map":     {api.OK, api.ErrRange, api.ErrAlign, api.ErrFault, api.ErrTwice},
		"Unmap":   {api.OK, api.ErrRange, api.ErrAlign, api.ErrFault, api.ErrNone},
		"Remap":   {api.OK, api.ErrRange, api.ErrAlign, api.ErrFault, api.ErrNone},
	}
	for name, l := range want {
		for _, err := range l {
			if seen[answer{name, err}] < 100 {
				t.Errorf("%s: error %d came %d times", name, err, seen[answer{name, err}])
			}
			delete(seen, answer{name, err})
		}
	}
	if len(seen) != 0 {
		t.Errorf("and these: %v", seen)
	}
}

// Each call goes by the memory that it is given.
func TestNothingIsKept(t *testing.T) {
	one, two := newWorld(t, 64), newWorld(t, 64)
	one.wantTable(0, 0, 16, api.OK)
	two.wantMap(0, 0, 48, true, api.ErrFault)
	two.wantTable(0, 0, 32, api.OK)
	one.wantMap(0, 0, 48, true, api.OK)
	two.wantRemap(0, 0, true, api.ErrNone)
	two.wantMap(0, 0, 16, false, api.OK)
	one.put(16, 0) // the words count, whoever put them
	one.wantUnmap(0, 0, api.ErrNone)
	one.wantList(0)
	two.wantList(0, Mapping{Page: 0, At: 16})
}
