package revoke

import (
	"fmt"
	"maps"
	"slices"
	"strings"
	"testing"

	"donjon/api"
	"donjon/moves"
)

// A text says what there is. c2 is node c, of the radix 2; c3:F9 is a Frame's
// capability of the object 9 in c's slot 3, and what stands in brackets behind
// it comes of it; Nb is node b's capability. Slots are hexadecimal digits.
const nodeLetters = "abcdefgh"

// ids are the nodes' ids, the first one and the last one among them. Those of b
// to d are numbers of slots, too, so that one taken for the other is found out.
var ids = []int{0, 1, 2, 3, 7, 15, 62, 63}

// kindLetters are the kinds' letters, by their numbers; the last one is no kind.
const kindLetters = "-UNTEOFGSICR?"

// noNode is the letter of a node that is never there.
const noNode = "z"

func idOf(letter byte) int {
	if i := strings.IndexByte(nodeLetters, letter); i >= 0 {
		return ids[i]
	}
	return 40
}

func letterOf(id int) string {
	if i := slices.Index(ids, id); i >= 0 {
		return nodeLetters[i : i+1]
	}
	return noNode
}

func digit(c byte) int { return strings.IndexByte("0123456789abcdef", c) }

// at is the slot of a text, such as c3.
func at(text string) api.Slot { return api.Slot{Node: idOf(text[0]), At: digit(text[1])} }

// capOf is the capability of a text, with all rights that its kind may have.
func capOf(text string) api.Cap {
	x := api.Cap{Kind: strings.IndexByte(kindLetters, text[0])}
	switch x.Kind {
	case api.Node:
		x.Object = idOf(text[1])
		return x
	case api.Endpoint, api.Notice, api.Frame:
		x.Rights = 7
	}
	fmt.Sscan(text[1:], &x.Object)
	return x
}

// capsOf is the capabilities of a text, one behind the other.
func capsOf(text string) []api.Cap {
	var l []api.Cap
	for _, word := range strings.Fields(text) {
		l = append(l, capOf(word))
	}
	return l
}

func capText(x api.Cap) string {
	letter := kindLetters[len(kindLetters)-1:]
	if x.Kind >= 0 && x.Kind < len(kindLetters) {
		letter = kindLetters[x.Kind : x.Kind+1]
	}
	if x.Kind == api.Node {
		return letter + letterOf(x.Object)
	}
	return letter + fmt.Sprint(x.Object)
}

func capsText(l []api.Cap) string {
	var words []string
	for _, x := range l {
		words = append(words, capText(x))
	}
	return strings.Join(words, " ")
}

// laid is what a text says.
func laid(t *testing.T, text string) *moves.Caps {
	t.Helper()
	c := moves.New()
	var above []api.Slot
	var last api.Slot
	for _, word := range strings.Fields(strings.NewReplacer("(", " ( ", ")", " ) ").Replace(text)) {
		switch {
		case word == "(":
			above = append(above, last)
		case word == ")":
			above = above[:len(above)-1]
		case len(word) == 2:
			must(t, c.Node(idOf(word[0]), digit(word[1])), text)
		case len(above) == 0:
			last = at(word)
			must(t, c.Plant(last, capOf(word[3:])), text)
		default:
			last = at(word)
			must(t, c.Child(above[len(above)-1], last, capOf(word[3:])), text)
		}
	}
	return c
}

func must(t *testing.T, e api.Errno, what any) {
	t.Helper()
	if e != api.OK {
		t.Fatalf("%v: %v", what, e)
	}
}

// world is all that there is, kept in another way: the slots that are not empty
// in the order in which a text has them, each with the number of brackets that
// are open there. Those that come of none have no order of their own: they
// stand in the order of their slots.
type world struct {
	radix map[int]int
	rows  []row
}

type row struct {
	slot  api.Slot
	depth int
	x     api.Cap
}

// look is what moves tells of all that there is.
func look(c *moves.Caps) *world {
	w := &world{radix: map[int]int{}}
	for id := range api.MaxObjects {
		if r := c.Radix(id); r != 0 {
			w.radix[id] = r
		}
	}
	var add func(s api.Slot, depth int)
	add = func(s api.Slot, depth int) {
		x, _ := c.Get(s)
		w.rows = append(w.rows, row{s, depth, x})
		for _, child := range c.Children(s) {
			add(child, depth+1)
		}
	}
	for _, s := range c.Full() {
		if _, ok := c.Parent(s); !ok {
			add(s, 0)
		}
	}
	return w
}

func (w *world) clone() *world { return &world{maps.Clone(w.radix), slices.Clone(w.rows)} }

// order is a slot's number among all slots, by which Full goes.
func order(s api.Slot) int { return s.Node*16 + s.At }

// sorted is the same with those that come of none in the order of their slots.
func (w *world) sorted() *world {
	var trees [][]row
	for i := 0; i < len(w.rows); i = w.end(i) {
		trees = append(trees, w.rows[i:w.end(i)])
	}
	slices.SortFunc(trees, func(a, b []row) int { return order(a[0].slot) - order(b[0].slot) })
	return &world{w.radix, slices.Concat(trees...)}
}

func (w *world) same(v *world) bool {
	return maps.Equal(w.radix, v.radix) && slices.Equal(w.sorted().rows, v.sorted().rows)
}

// text is as laid reads it.
func (w *world) text() string {
	var text strings.Builder
	for _, id := range slices.Sorted(maps.Keys(w.radix)) {
		fmt.Fprint(&text, " ", letterOf(id), w.radix[id])
	}
	last := -1
	for _, r := range w.sorted().rows {
		switch {
		case r.depth > last && last >= 0:
			text.WriteString("(")
		case r.depth <= last:
			text.WriteString(strings.Repeat(")", last-r.depth) + " ")
		default:
			text.WriteString(" ")
		}
		fmt.Fprintf(&text, "%s%x:%s", letterOf(r.slot.Node), r.slot.At, capText(r.x))
		last = r.depth
	}
	return strings.TrimSpace(text.String() + strings.Repeat(")", max(last, 0)))
}

func (w *world) index(s api.Slot) int {
	return slices.IndexFunc(w.rows, func(r row) bool { return r.slot == s })
}

// end is the number of the row behind a row's kin.
func (w *world) end(i int) int {
	j := i + 1
	for j < len(w.rows) && w.rows[j].depth > w.rows[i].depth {
		j++
	}
	return j
}

func (w *world) has(s api.Slot) bool {
	return s.At >= 0 && s.At < []int{0, 2, 4, 8, 16}[w.radix[s.Node]]
}

func (w *world) isFull(s api.Slot) bool { return w.index(s) >= 0 }

// get is what is in a slot; a Null, if there is none.
func (w *world) get(s api.Slot) api.Cap {
	if i := w.index(s); i >= 0 {
		return w.rows[i].x
	}
	return api.Cap{}
}

func (w *world) count(kind, object int) int {
	n := 0
	for _, r := range w.rows {
		if r.x.Kind == kind && r.x.Object == object {
			n++
		}
	}
	return n
}

// kin is the slots of a slot's kin that are at most so many levels below it.
func (w *world) kin(s api.Slot, levels int) []api.Slot {
	var l []api.Slot
	if i := w.index(s); i >= 0 {
		for _, r := range w.rows[i+1 : w.end(i)] {
			if r.depth <= w.rows[i].depth+levels {
				l = append(l, r.slot)
			}
		}
	}
	return l
}

func (w *world) parent(s api.Slot) (api.Slot, bool) {
	i := w.index(s)
	for j := i - 1; j >= 0; j-- {
		if w.rows[j].depth < w.rows[i].depth {
			return w.rows[j].slot, true
		}
	}
	return api.Slot{}, false
}

// full is the slots that are not empty, in the order of Full.
func (w *world) full() []api.Slot {
	var l []api.Slot
	for _, r := range w.rows {
		l = append(l, r.slot)
	}
	slices.SortFunc(l, func(a, b api.Slot) int { return order(a) - order(b) })
	return l
}

// told holds all that moves tells, call by call, against a world.
func told(t *testing.T, c *moves.Caps, w *world, after string) {
	t.Helper()
	for id := -1; id <= api.MaxObjects; id++ {
		if r := c.Radix(id); r != w.radix[id] {
			t.Fatalf("%s: Radix(%d): %d, not %d", after, id, r, w.radix[id])
		}
		for i := range 17 {
			toldOf(t, c, w, api.Slot{Node: id, At: i}, after)
		}
	}
	if l := c.Full(); !slices.Equal(l, w.full()) {
		t.Fatalf("%s: Full: %v, not %v", after, l, w.full())
	}
	for kind := range 12 {
		for object := range api.MaxObjects {
			if n := c.Count(kind, object); n != w.count(kind, object) {
				t.Fatalf("%s: Count(%d, %d): %d, not %d", after, kind, object, n, w.count(kind, object))
			}
		}
	}
}

// toldOf holds what moves tells of one slot against a world, and Final, too.
func toldOf(t *testing.T, c *moves.Caps, w *world, s api.Slot, after string) {
	t.Helper()
	wantE := api.OK
	if !w.has(s) {
		wantE = api.ErrLookup
	}
	want := w.get(s)
	if x, e := c.Get(s); x != want || e != wantE {
		t.Fatalf("%s: Get(%v): %+v, %v; not %+v, %v", after, s, x, e, want, wantE)
	}
	if l := c.Children(s); !slices.Equal(l, w.kin(s, 1)) {
		t.Fatalf("%s: Children(%v): %v, not %v", after, s, l, w.kin(s, 1))
	}
	if l := c.Kin(s); !slices.Equal(l, w.kin(s, len(w.rows))) {
		t.Fatalf("%s: Kin(%v): %v, not %v", after, s, l, w.kin(s, len(w.rows)))
	}
	p, ok := c.Parent(s)
	if wantP, wantOk := w.parent(s); p != wantP || ok != wantOk {
		t.Fatalf("%s: Parent(%v): %v, %t; not %v, %t", after, s, p, ok, wantP, wantOk)
	}
	if final := w.isFull(s) && w.count(want.Kind, want.Object) == 1; Final(c, s) != final {
		t.Fatalf("%s: Final(%v): %t, not %t", after, s, !final, final)
	}
}

// The texts are read as they are written.
func TestTexts(t *testing.T) {
	for _, text := range []string{
		"", "a1", "a1 h4", "a1 a0:F9", "a1 b2 c3 d4 e1 f2 g3 h4 a0:Nh b3:C0 h0:Nz hf:Na",
		"a2 a0:F9(a1:F9(a2:F9) a3:F9)", "a3 a0:U1(a1:T2(a2:E3(a3:O4))) a4:G5", "a3 a0:S1 a1:I2 a2:R63(a5:F1 a4:F2) a3:C0(a7:F3)",
	} {
		c := laid(t, text)
		if got := look(c).text(); got != text {
			t.Errorf("%s, not %s", got, text)
		}
		told(t, c, look(c), text)
	}
}
