package kernel

import (
	"slices"
	"testing"

	"donjon/api"
	"donjon/code"
	"donjon/sched"
	"donjon/thread"
)

// kinds are those that objects have.
var kinds = []int{api.Untyped, api.Node, api.Thread, api.Endpoint, api.Notice, api.Frame, api.Table, api.Space}

// sizeOf is a size that a kind may have, and the Bits that come of it.
func sizeOf(kind int) (int, int) {
	switch kind {
	case api.Untyped:
		return 5, 5
	case api.Node:
		return 3, 4
	case api.Endpoint, api.Notice:
		return 0, 1
	}
	return 0, 4
}

// 24.1

func TestNewErrors(t *testing.T) {
	one := []sched.Time{{Domain: 0, Ticks: 1}}
	long := slices.Repeat(one, 17)
	for _, c := range []struct {
		words int
		times []sched.Time
		want  api.Errno
	}{
		{64, one, api.OK}, {1 << 16, one, api.OK}, {1024, long[:16], api.OK}, {100, []sched.Time{{Domain: 3, Ticks: 1000}}, api.OK},
		{63, one, api.ErrRange}, {1<<16 + 1, one, api.ErrRange}, {0, one, api.ErrRange}, {-64, one, api.ErrRange},
		{64, nil, api.ErrRange}, {64, long, api.ErrRange}, {64, []sched.Time{{Domain: 4, Ticks: 1}}, api.ErrRange},
		{64, []sched.Time{{Domain: 0, Ticks: 0}}, api.ErrRange}, {64, []sched.Time{{Domain: 0, Ticks: 1001}}, api.ErrRange},
		{63, nil, api.ErrRange},
	} {
		k, e := New(c.words, c.times)
		if e != c.want || (k == nil) != (e != api.OK) {
			t.Errorf("New(%d, %v): %v, error %d, not %d", c.words, c.times, k != nil, e, c.want)
		}
	}
}

func TestNewIsEmpty(t *testing.T) {
	times := []sched.Time{{Domain: 2, Ticks: 1}}
	k, e := New(100, times)
	if e != api.OK {
		t.Fatalf("New: error %d", e)
	}
	times[0] = sched.Time{Domain: 3, Ticks: 7}
	want := []string{"current 0 false domain 2", "pending 0 masked 255"}
	if got := shot(k); !slices.Equal(got, want) {
		t.Errorf("told %v, not %v", got, want)
	}
	if l, e := k.Words(0, 100); e != api.OK || len(l) != 100 {
		t.Errorf("%d words, error %d", len(l), e)
	}
	if l, e := k.Words(0, 101); e != api.ErrRange || len(l) != 0 {
		t.Errorf("101 words: %d, error %d", len(l), e)
	}
	if !k.Tick() || k.Domain() != 2 || k.Step() {
		t.Errorf("the schedule is not the one that was handed in")
	}
}

func TestCreateEachKind(t *testing.T) {
	for _, n := range []int{0, 1, 62, 63} {
		for _, kind := range kinds {
			k, _ := New(256, []sched.Time{{Domain: 0, Ticks: 1}})
			for a := range 256 {
				k.Poke(a, uint64(1000+a))
			}
			size, bits := sizeOf(kind)
			s := api.Span{At: 64, Bits: bits}
			if e := k.Create(n, kind, s, size); e != api.OK {
				t.Fatalf("Create(%d, %d): error %d", n, kind, e)
			}
			want := Object{Kind: kind, Span: s, Space: -1}
			if o, ok := k.Object(n); !ok || o != want {
				t.Errorf("object %d: %+v, not %+v", n, o, want)
			}
			words, _ := k.Words(0, 256)
			for a, v := range words {
				zero := kind != api.Untyped && a >= 64 && a < 64+1<<bits
				if zero && v != 0 || !zero && v != uint64(1000+a) {
					t.Errorf("kind %d: word %d is %d", kind, a, v)
				}
			}
			for other := range api.MaxObjects {
				if _, ok := k.Object(other); ok != (other == n) {
					t.Errorf("object %d: %t", other, ok)
				}
			}
		}
	}
}

func TestCreateNodesSlots(t *testing.T) {
	for radix := 1; radix <= 4; radix++ {
		k, _ := New(256, []sched.Time{{Domain: 0, Ticks: 1}})
		if e := k.Create(7, api.Node, api.Span{At: 32, Bits: radix + 1}, radix); e != api.OK {
			t.Fatalf("radix %d: error %d", radix, e)
		}
		for at := range 20 {
			want := api.OK
			if at >= 1<<radix {
				want = api.ErrLookup
			}
			if _, e := k.Cap(api.Slot{Node: 7, At: at}); e != want {
				t.Errorf("radix %d, slot %d: error %d, not %d", radix, at, e, want)
			}
		}
	}
}

// TestCreateMakesNoOtherNodes: nothing but a Node has slots, whatever its size.
func TestCreateMakesNoOtherNodes(t *testing.T) {
	for _, kind := range kinds {
		if kind == api.Node {
			continue
		}
		k, _ := New(256, []sched.Time{{Domain: 0, Ticks: 1}})
		_, bits := sizeOf(kind)
		if kind == api.Untyped {
			bits = 2
		}
		if e := k.Create(7, kind, api.Span{At: 32, Bits: bits}, 2); e != api.OK {
			t.Fatalf("kind %d: error %d", kind, e)
		}
		if _, e := k.Cap(api.Slot{Node: 7}); e != api.ErrLookup {
			t.Errorf("kind %d has slots: error %d", kind, e)
		}
	}
}

// TestCreatedThreadHasNoSpace, also where there is one of the number 0.
func TestCreatedThreadHasNoSpace(t *testing.T) {
	w := spaceNought(t)
	w.ok(w.k.Create(9, api.Thread, api.Span{At: 128, Bits: 4}, 0))
	w.ok(w.k.Start(9))
	w.k.Step()
	w.state(9, thread.Inactive, 0)
	w.has(9, regs{1: 0})
}

// spaceNought is a world whose Space has the number 0, with code at 0 that sets
// register 1 to 7, and again and again, and its Node the number 1.
func spaceNought(t *testing.T) *world {
	t.Helper()
	k, _ := New(1024, []sched.Time{{Domain: 0, Ticks: 100}})
	w := &world{t: t, k: k, code: map[int]int{}, page: map[int]int{}}
	w.ok(k.Create(0, api.Space, api.Span{At: 0, Bits: 4}, 0))
	w.ok(k.Create(1, api.Node, api.Span{At: 32, Bits: 5}, 4))
	w.ok(k.Create(2, api.Table, api.Span{At: 64, Bits: 4}, 0))
	w.ok(k.Create(3, api.Frame, api.Span{At: 80, Bits: 4}, 0))
	w.ok(k.Map(2, 0, 0, false))
	w.ok(k.Map(3, 0, 0, false))
	w.ok(k.Poke(80, packed(code.Ins{Op: code.Const, A: 1, Imm: 7})))
	w.ok(k.Poke(81, packed(code.Ins{Op: code.Jump, Imm: 0})))
	return w
}

func TestCreatedThread(t *testing.T) {
	w := newWorld(t)
	w.create(9, api.Thread, 0)
	fresh, _ := thread.New(0, 0)
	if got := w.of(9); got != fresh {
		t.Errorf("%+v, not %+v", got, fresh)
	}
	// It has no space: it is halted at its first step.
	w.ok(w.k.Start(9))
	w.ready(9)
	if !w.k.Step() {
		t.Errorf("it does not step")
	}
	if got := w.of(9); got != fresh {
		t.Errorf("%+v, not %+v", got, fresh)
	}
	// And no notice.
	w.create(10, api.Notice, 0)
	w.ok(w.k.Bind(10, 9))
}

func TestCreatedEndpointAndNotice(t *testing.T) {
	w := newWorld(t)
	w.create(9, api.Endpoint, 0)
	w.create(10, api.Notice, 0)
	w.waiting(9, 0)
	w.waiting(10, 0)
}

// createErrors are asked in a world with a Frame 3 at 64 and a Node 5 at 96 of
// 256 words.
var createErrors = []struct {
	name    string
	n, kind int
	s       api.Span
	size    int
	want    api.Errno
}{
	{"number -1", -1, api.Frame, api.Span{At: 128, Bits: 4}, 0, api.ErrRange},
	{"number 64", 64, api.Frame, api.Span{At: 128, Bits: 4}, 0, api.ErrRange},
	{"number far below", -1 << 62, api.Frame, api.Span{At: 128, Bits: 4}, 0, api.ErrRange},
	{"number far above", 1 << 62, api.Frame, api.Span{At: 128, Bits: 4}, 0, api.ErrRange},
	{"no number, and no kind", 64, 9, api.Span{At: 128, Bits: 4}, 0, api.ErrRange},
	{"there is one", 3, api.Frame, api.Span{At: 128, Bits: 4}, 0, api.ErrTwice},
	{"there is one, and no kind", 3, 0, api.Span{At: 128, Bits: 4}, 0, api.ErrTwice},
	{"there is a node", 5, api.Node, api.Span{At: 128, Bits: 2}, 1, api.ErrTwice},
	{"Null", 4, api.Null, api.Span{At: 128, Bits: 4}, 0, api.ErrKind},
	{"Irq", 4, api.Irq, api.Span{At: 128, Bits: 4}, 0, api.ErrKind},
	{"Control", 4, api.Control, api.Span{At: 128, Bits: 4}, 0, api.ErrKind},
	{"Reply", 4, api.Reply, api.Span{At: 128, Bits: 4}, 0, api.ErrKind},
	{"kind -1", 4, -1, api.Span{At: 128, Bits: 4}, 0, api.ErrKind},
	{"kind 12", 4, 12, api.Span{At: 128, Bits: 4}, 0, api.ErrKind},
	{"no kind, and no span", 4, 12, api.Span{At: 3, Bits: 77}, 0, api.ErrKind},
	{"Untyped -1", 4, api.Untyped, api.Span{At: 128, Bits: -1}, -1, api.ErrRange},
	{"Untyped 17", 4, api.Untyped, api.Span{At: 0, Bits: 17}, 17, api.ErrRange},
	{"Node 0", 4, api.Node, api.Span{At: 128, Bits: 1}, 0, api.ErrRange},
	{"Node 5", 4, api.Node, api.Span{At: 128, Bits: 6}, 5, api.ErrRange},
	{"Frame of 3 bits", 4, api.Frame, api.Span{At: 128, Bits: 3}, 0, api.ErrRange},
	{"Frame of 5 bits", 4, api.Frame, api.Span{At: 128, Bits: 5}, 0, api.ErrRange},
	{"Untyped of another size", 4, api.Untyped, api.Span{At: 128, Bits: 3}, 4, api.ErrRange},
	{"other bits, and no place", 4, api.Untyped, api.Span{At: 129, Bits: 3}, 4, api.ErrRange},
	{"place 129", 4, api.Frame, api.Span{At: 129, Bits: 4}, 0, api.ErrAlign},
	{"place 136", 4, api.Frame, api.Span{At: 136, Bits: 4}, 0, api.ErrAlign},
	{"place 65, where another one is", 4, api.Frame, api.Span{At: 65, Bits: 4}, 0, api.ErrAlign},
	{"place -16", 4, api.Frame, api.Span{At: -16, Bits: 4}, 0, api.ErrRange},
	{"place 2^16", 4, api.Frame, api.Span{At: 1 << 16, Bits: 4}, 0, api.ErrRange},
	{"behind the memory", 4, api.Frame, api.Span{At: 256, Bits: 4}, 0, api.ErrFull},
	{"over the memory's end", 4, api.Untyped, api.Span{At: 0, Bits: 9}, 9, api.ErrFull},
	{"where a Frame is", 4, api.Frame, api.Span{At: 64, Bits: 4}, 0, api.ErrFull},
	{"in a Frame", 4, api.Notice, api.Span{At: 78, Bits: 1}, 0, api.ErrFull},
	{"the last number", 63, api.Frame, api.Span{At: 240, Bits: 4}, 0, api.OK},
	{"the first number", 0, api.Frame, api.Span{At: 0, Bits: 4}, 0, api.OK},
	{"beside a Frame", 4, api.Notice, api.Span{At: 80, Bits: 1}, 0, api.OK},
	{"the whole memory", 4, api.Untyped, api.Span{At: 0, Bits: 8}, 8, api.OK},
	{"one word", 4, api.Untyped, api.Span{At: 255, Bits: 0}, 0, api.OK},
	{"a size that does not matter", 4, api.Frame, api.Span{At: 16, Bits: 4}, -7, api.OK},
}

func TestCreateErrors(t *testing.T) {
	for _, c := range createErrors {
		k, _ := New(256, []sched.Time{{Domain: 0, Ticks: 1}})
		w := &world{t: t, k: k}
		w.ok(k.Create(3, api.Frame, api.Span{At: 64, Bits: 4}, 0))
		w.ok(k.Create(5, api.Node, api.Span{At: 96, Bits: 5}, 4))
		for a := range 256 {
			k.Poke(a, 9)
		}
		before := shot(k)
		if e := k.Create(c.n, c.kind, c.s, c.size); e != c.want {
			t.Errorf("%s: error %d, not %d", c.name, e, c.want)
		}
		if c.want != api.OK {
			w.sameBut(before)
		}
	}
}

// words is whether each word of 64 is one of a span's.
func words(s api.Span) [64]bool {
	var l [64]bool
	for a := range l {
		l[a] = a >= s.At && a < s.At+1<<s.Bits
	}
	return l
}

func meet(a, b [64]bool) bool {
	for i := range a {
		if a[i] && b[i] {
			return true
		}
	}
	return false
}

func within(a, b [64]bool) bool {
	for i := range a {
		if a[i] && !b[i] {
			return false
		}
	}
	return true
}

// TestCreateBesideAnother: each two kinds, at each two places of 64 words that
// they may have, word by word.
func TestCreateBesideAnother(t *testing.T) {
	type shape struct{ kind, size, bits int }
	var shapes []shape
	for _, kind := range kinds {
		if kind == api.Untyped {
			for size := range 7 {
				shapes = append(shapes, shape{kind, size, size})
			}
			continue
		}
		if kind == api.Node {
			for radix := 1; radix <= 4; radix++ {
				shapes = append(shapes, shape{kind, radix, radix + 1})
			}
			continue
		}
		size, bits := sizeOf(kind)
		shapes = append(shapes, shape{kind, size, bits})
	}
	for _, a := range shapes {
		for _, b := range shapes {
			for at := 0; at < 64; at += 1 << a.bits {
				for bt := 0; bt < 64; bt += 1 << b.bits {
					s, u := api.Span{At: at, Bits: a.bits}, api.Span{At: bt, Bits: b.bits}
					k, _ := New(64, []sched.Time{{Domain: 0, Ticks: 1}})
					if e := k.Create(1, a.kind, s, a.size); e != api.OK {
						t.Fatalf("%v at %d: error %d", a, at, e)
					}
					ws, wu := words(s), words(u)
					may := !meet(ws, wu) || a.kind == api.Untyped && b.kind == api.Untyped ||
						a.kind == api.Untyped && within(wu, ws) || b.kind == api.Untyped && within(ws, wu)
					want := api.ErrFull
					if may {
						want = api.OK
					}
					if e := k.Create(2, b.kind, u, b.size); e != want {
						t.Fatalf("%v at %d beside %v at %d: error %d, not %d", b, bt, a, at, e, want)
					}
				}
			}
		}
	}
}

func TestCreateAmongMany(t *testing.T) {
	k, _ := New(64, []sched.Time{{Domain: 0, Ticks: 1}})
	w := &world{t: t, k: k}
	w.ok(k.Create(0, api.Untyped, api.Span{At: 0, Bits: 6}, 6))
	w.ok(k.Create(1, api.Untyped, api.Span{At: 0, Bits: 5}, 5))
	w.ok(k.Create(63, api.Frame, api.Span{At: 16, Bits: 4}, 0))
	w.refuses(api.ErrFull, func() api.Errno { return k.Create(2, api.Notice, api.Span{At: 18, Bits: 1}, 0) })
	w.refuses(api.ErrFull, func() api.Errno { return k.Create(2, api.Untyped, api.Span{At: 18, Bits: 0}, 0) })
	w.ok(k.Create(2, api.Untyped, api.Span{At: 16, Bits: 4}, 4))
	w.ok(k.Create(3, api.Notice, api.Span{At: 32, Bits: 1}, 0))
	w.refuses(api.ErrFull, func() api.Errno { return k.Create(4, api.Node, api.Span{At: 0, Bits: 5}, 4) })
}
