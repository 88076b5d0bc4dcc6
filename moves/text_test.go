package moves

import (
	"math"
	"slices"
	"strings"
	"testing"

	"donjon/api"
)

// radixes are the nodes of the texts: of each radix, with the first id and the last one.
func radixes() map[int]int { return map[int]int{0: 1, 1: 2, 2: 1, 7: 3, 15: 4, 63: 4} }

// places are the slots that the letters from a on stand for: the zero value,
// slots that are alike in one field, or that have another one's fields the
// other way round, first ones and last ones.
var places = []api.Slot{
	{Node: 0, At: 0},   // a
	{Node: 0, At: 1},   // b
	{Node: 1, At: 0},   // c
	{Node: 1, At: 1},   // d
	{Node: 1, At: 2},   // e
	{Node: 2, At: 1},   // f
	{Node: 63, At: 15}, // g
	{Node: 15, At: 15}, // h
	{Node: 63, At: 0},  // i
	{Node: 15, At: 0},  // j
	{Node: 2, At: 0},   // k
	{Node: 7, At: 7},   // l
	{Node: 7, At: 0},   // m
	{Node: 15, At: 7},  // n
	{Node: 63, At: 1},  // o
	{Node: 1, At: 3},   // p
}

// absent are slots that are not there, beside the nodes of the texts: of a node
// that is not there, and with numbers that a node does not have.
func absent() []api.Slot {
	return []api.Slot{
		{Node: 3, At: 0}, {Node: 62, At: 1}, {Node: -1, At: 0}, {Node: 64, At: 0}, {Node: 1 << 32, At: 0},
		{Node: math.MinInt, At: 0}, {Node: math.MaxInt, At: 0}, {Node: math.MaxInt, At: math.MinInt},
		{Node: 0, At: 2}, {Node: 0, At: -1}, {Node: 0, At: 1 << 32}, {Node: 0, At: math.MaxInt}, {Node: 0, At: math.MinInt},
		{Node: 1, At: 4}, {Node: 2, At: 2}, {Node: 7, At: 8}, {Node: 15, At: 16}, {Node: 63, At: 16}, {Node: 63, At: -1},
	}
}

// kinds is a right capability of each kind but Null, with all fields that it may have.
func kinds() []api.Cap {
	return []api.Cap{
		{Kind: api.Untyped, Object: 63},
		{Kind: api.Node, Object: 9, Guard: 5, Bits: 3},
		{Kind: api.Thread, Object: 1},
		{Kind: api.Endpoint, Object: 5, Rights: 7, Badge: 1<<28 - 1},
		{Kind: api.Notice, Object: 5, Rights: 2, Badge: 7},
		{Kind: api.Frame, Object: 62, Rights: 3},
		{Kind: api.Table, Object: 3},
		{Kind: api.Space, Object: 2},
		{Kind: api.Irq, Object: 7},
		{Kind: api.Control},
		{Kind: api.Reply, Object: 63},
	}
}

// wrongCaps are capabilities that Put refuses, and by which error.
func wrongCaps() map[api.Cap]api.Errno {
	return map[api.Cap]api.Errno{
		{}:                                     api.ErrNone,
		{Kind: -1}:                             api.ErrKind,
		{Kind: 12}:                             api.ErrKind,
		{Kind: 1 << 32}:                        api.ErrKind,
		{Kind: math.MinInt}:                    api.ErrKind,
		{Kind: 12, Object: 64, Bits: -1}:       api.ErrKind,
		{Kind: api.Null, Object: 1}:            api.ErrField,
		{Kind: api.Null, Rights: 1}:            api.ErrField,
		{Kind: api.Control, Object: 1}:         api.ErrField,
		{Kind: api.Thread, Object: -1}:         api.ErrField,
		{Kind: api.Thread, Object: 64}:         api.ErrField,
		{Kind: api.Thread, Rights: 1}:          api.ErrField,
		{Kind: api.Endpoint, Rights: 8}:        api.ErrField,
		{Kind: api.Endpoint, Badge: 1 << 28}:   api.ErrField,
		{Kind: api.Frame, Badge: 1}:            api.ErrField,
		{Kind: api.Node, Bits: 17}:             api.ErrField,
		{Kind: api.Node, Bits: -1}:             api.ErrField,
		{Kind: api.Node, Bits: 3, Guard: 8}:    api.ErrField,
		{Kind: api.Reply, Object: math.MaxInt}: api.ErrField,
	}
}

// at is a letter's slot.
func at(letter byte) api.Slot { return places[letter-'a'] }

// own is the capability that a text lays into a letter's slot: each letter has another one.
func own(letter byte) api.Cap {
	return api.Cap{Kind: api.Endpoint, Object: int(letter - 'a'), Rights: 7}
}

// letters is slots in letters; one that is none of the places is a question mark.
func letters(l []api.Slot) string {
	var text strings.Builder
	for _, s := range l {
		text.WriteByte(letterOf(s))
	}
	return text.String()
}

func letterOf(s api.Slot) byte {
	if i := slices.Index(places, s); i >= 0 {
		return 'a' + byte(i)
	}
	return '?'
}

// bare is the nodes of the texts, all slots empty.
func bare(t *testing.T) *Caps {
	t.Helper()
	c := New()
	for id, radix := range radixes() {
		must(t, c, node(id, radix))
	}
	return c
}

// grown is what a text says: letters, and in brackets behind each one its
// children: in a(bc(d))e b and c come of a, d of c, and a and e of none. In
// each slot lies what is its letter's own.
func grown(t *testing.T, text string) *Caps {
	t.Helper()
	c := bare(t)
	var above []byte
	var last byte
	for i := range len(text) {
		switch {
		case text[i] == '(':
			above = append(above, last)
			continue
		case text[i] == ')':
			above = above[:len(above)-1]
			continue
		}
		last = text[i]
		if len(above) == 0 {
			must(t, c, plant(at(last), own(last)))
		} else {
			must(t, c, child(at(above[len(above)-1]), at(last), own(last)))
		}
	}
	return c
}

// shown is the text of what is there. Where not a slot's own lies in it, a
// great letter tells whose it is. Those that come of none stand in the order
// of their letters, because there is none among them.
func shown(c *Caps) string {
	var text strings.Builder
	for _, s := range places {
		if _, ok := c.Parent(s); !ok && c.Has(s) {
			show(c, s, &text, 0)
		}
	}
	return text.String()
}

// show ends at a depth that no tree of the places has, so that a ring would not go on for ever.
func show(c *Caps, s api.Slot, text *strings.Builder, depth int) {
	letter := letterOf(s)
	text.WriteByte(letter)
	if x, _ := c.Get(s); letter == '?' || x != own(letter) {
		text.WriteByte(whose(x))
	}
	l := c.Children(s)
	if len(l) == 0 || depth > len(places) {
		return
	}
	text.WriteByte('(')
	for _, s := range l {
		show(c, s, text, depth+1)
	}
	text.WriteByte(')')
}

// whose is the great letter of whose own a capability is.
func whose(x api.Cap) byte {
	for i := range places {
		if x == own('a'+byte(i)) {
			return 'A' + byte(i)
		}
	}
	return '!'
}

// wantText holds what is there against its text, and Full and Parent against it, too.
func wantText(t *testing.T, c *Caps, want, after string) {
	t.Helper()
	if got := shown(c); got != want {
		t.Errorf("%s: %s, not %s", after, got, want)
	}
	full := c.Full()
	for i := range places {
		letter := 'a' + byte(i)
		x, e := c.Get(at(letter))
		if isIn := strings.IndexByte(want, letter) >= 0; isIn != slices.Contains(full, at(letter)) || isIn != (x != api.Cap{}) || e != api.OK {
			t.Errorf("%s: %c has %+v, %v; Full: %v", after, letter, x, e, full)
		}
		for _, s := range c.Children(at(letter)) {
			if p, ok := c.Parent(s); p != at(letter) || !ok {
				t.Errorf("%s: Parent(%c): %v, %t; not %c", after, letterOf(s), p, ok, letter)
			}
		}
	}
	if !slices.IsSortedFunc(full, func(a, b api.Slot) int { return a.Node*16 + a.At - b.Node*16 - b.At }) {
		t.Errorf("%s: Full: %v", after, full)
	}
	inStep(t, c, after)
}

// wantCap holds what is in a slot against a capability.
func wantCap(t *testing.T, c *Caps, s api.Slot, want api.Cap, after string) {
	t.Helper()
	if x, e := c.Get(s); x != want || e != api.OK {
		t.Errorf("%s: Get(%v): %+v, %v; not %+v", after, s, x, e, want)
	}
}
