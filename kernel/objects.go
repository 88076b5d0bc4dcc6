package kernel

import (
	"donjon/api"
	"donjon/endpoint"
	"donjon/notice"
	"donjon/span"
	"donjon/thread"
)

// object is what there is under a number. Its kind is told by its type.
type object interface {
	where() api.Span
}

// mappable is an object that may be mapped: a Frame, or a Table.
type mappable interface {
	object
	mapped() *mapping
}

// base is what every object has.
type base struct {
	number int
	span   api.Span
}

func (b *base) where() api.Span { return b.span }

// mapping is where an object is mapped.
type mapping struct {
	space int // a Space's number, or none
	at    int
}

func (m *mapping) mapped() *mapping { return m }

func (m *mapping) isMapped() bool { return m.space != none }

type anUntyped struct {
	base
	used int
}

// The slots of a Node are kept by moves, under its number.
type aNode struct {
	base
}

type aThread struct {
	base
	is     thread.Thread
	root   api.Cap // a Null, until there is one
	space  int     // a Space's number, or none
	notice int     // that of the Notice that is bound, or none
}

type anEndpoint struct {
	base
	is *endpoint.Endpoint
}

type aNotice struct {
	base
	is *notice.Notice
}

type aFrame struct {
	base
	mapping
}

type aTable struct {
	base
	mapping
}

type aSpace struct {
	base
}

// wire is what a line of interrupts leads to.
type wire struct {
	notice int // a Notice's number, or none
	badge  uint64
}

func unwired() wire { return wire{notice: none} }

// one is the object of a number, if there is one, and it is of that type.
func one[T object](k *Kernel, n int) (T, bool) {
	if n >= 0 && n < api.MaxObjects {
		if o, ok := k.objects[n].(T); ok {
			return o, true
		}
	}
	var nothing T
	return nothing, false
}

// all is all objects of that type, by their numbers, rising.
func all[T object](k *Kernel) []T {
	var list []T
	for n := range k.objects {
		if o, ok := one[T](k, n); ok {
			list = append(list, o)
		}
	}
	return list
}

func kindOf(o object) int {
	switch o.(type) {
	case *anUntyped:
		return api.Untyped
	case *aNode:
		return api.Node
	case *aThread:
		return api.Thread
	case *anEndpoint:
		return api.Endpoint
	case *aNotice:
		return api.Notice
	case *aFrame:
		return api.Frame
	case *aTable:
		return api.Table
	case *aSpace:
		return api.Space
	}
	return api.Null
}

// toldOf is what is told of an object.
func toldOf(o object) Object {
	told := Object{Kind: kindOf(o), Span: o.where(), Space: none}
	switch x := o.(type) {
	case *anUntyped:
		told.Used = x.used
	case mappable:
		if m := x.mapped(); m.isMapped() {
			told.Mapped, told.Space, told.At = true, m.space, m.at
		}
	}
	return told
}

// waitingAt is what an object is at, and who waits there.
func waitingAt(o object) (uint64, []int) {
	switch x := o.(type) {
	case *anEndpoint:
		is, who := x.is.State()
		return uint64(is), who
	case *aNotice:
		return x.is.State()
	}
	return 0, nil
}

// isOfObject tells whether a capability is of a kind that objects have.
func isOfObject(c api.Cap) bool { return c.Kind >= api.Untyped && c.Kind <= api.Space }

// named is the object that a capability names; nil: there is none of its kind.
func (k *Kernel) named(c api.Cap) object {
	o, ok := one[object](k, c.Object)
	if !ok || kindOf(o) != c.Kind {
		return nil
	}
	return o
}

// isFree tells whether a number may be a new object's. A node may outlast its
// object, if there is still something in it.
func (k *Kernel) isFree(n int) bool { return k.objects[n] == nil && k.caps.Radix(n) == 0 }

// mayLie tells whether an object of a kind may be where it is to be: beside
// all others, but in Untypeds, and around what is in it, if it is Untyped.
func (k *Kernel) mayLie(kind int, s api.Span) bool {
	for _, o := range all[object](k) {
		isIn := kindOf(o) == api.Untyped && span.In(s, o.where())
		isAround := kind == api.Untyped && span.In(o.where(), s)
		if !isIn && !isAround && !span.Apart(s, o.where()) {
			return false
		}
	}
	return true
}

// lay makes an object. Who asks has seen to it that it may be made.
func (k *Kernel) lay(n, kind int, s api.Span, size int) {
	if kind != api.Untyped {
		k.mem.Zero(s.At, 1<<s.Bits)
	}
	if kind == api.Node {
		k.caps.Node(n, size)
	}
	k.objects[n] = newObject(kind, base{number: n, span: s})
}

func newObject(kind int, b base) object {
	switch kind {
	case api.Untyped:
		return &anUntyped{base: b}
	case api.Node:
		return &aNode{base: b}
	case api.Thread:
		t, _ := thread.New(0, 0)
		return &aThread{base: b, is: t, space: none, notice: none}
	case api.Endpoint:
		return &anEndpoint{base: b, is: endpoint.New()}
	case api.Notice:
		return &aNotice{base: b, is: notice.New()}
	case api.Frame:
		return &aFrame{base: b, mapping: mapping{space: none}}
	case api.Table:
		return &aTable{base: b, mapping: mapping{space: none}}
	}
	return &aSpace{base: b}
}
