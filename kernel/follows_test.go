package kernel

import (
	"fmt"
	"slices"

	"donjon/api"
	"donjon/thread"
)

// 24.8, asked of the answers of 24.6 alone.

// wrong is what does not follow; nothing, if all does. Of tables into which
// somebody poked it asks nothing.
func (l *telling) wrong(poked bool) string {
	asks := []func() string{l.wrongCaps, l.wrongSpans, l.wrongThreads, l.wrongWaits, l.wrongCallers, l.wrongMappings}
	if !poked {
		asks = append(asks, l.wrongTables)
	}
	for _, ask := range asks {
		if bad := ask(); bad != "" {
			return bad
		}
	}
	return ""
}

// wrongCaps: each slot's capability names what is there.
func (l *telling) wrongCaps() string {
	for i, c := range l.caps {
		if c.Kind >= api.Untyped && c.Kind <= api.Space && (!l.there[c.Object] || l.objects[c.Object].Kind != c.Kind) {
			return fmt.Sprintf("slot %v names what is not there: %+v", l.slots[i], c)
		}
		if c.Kind == api.Irq && c.Object > 7 {
			return fmt.Sprintf("slot %v names no line: %+v", l.slots[i], c)
		}
	}
	return ""
}

// wrongSpans: objects that are not Untyped are apart, and an Untyped has them
// whole, or not at all.
func (l *telling) wrongSpans() string {
	for a, o := range l.objects {
		for b, p := range l.objects[:a] {
			if !l.there[a] || !l.there[b] {
				continue
			}
			from, to := max(o.Span.At, p.Span.At), min(o.Span.At+1<<o.Span.Bits, p.Span.At+1<<p.Span.Bits)
			if from >= to || o.Kind == api.Untyped && p.Kind == api.Untyped {
				continue
			}
			if o.Kind != api.Untyped && p.Kind != api.Untyped ||
				o.Kind == api.Untyped && to-from != 1<<p.Span.Bits || p.Kind == api.Untyped && to-from != 1<<o.Span.Bits {
				return fmt.Sprintf("objects %d and %d are not apart: %+v, %+v", a, b, o, p)
			}
		}
	}
	return ""
}

// wrongThreads: threads are right, and just those that are ready may run.
func (l *telling) wrongThreads() string {
	best := -1
	for n, th := range l.threads {
		if l.isThread[n] != (l.there[n] && l.objects[n].Kind == api.Thread) {
			return fmt.Sprintf("thread %d: %t", n, l.isThread[n])
		}
		if !l.isThread[n] {
			continue
		}
		if e := thread.Check(th); e != api.OK {
			return fmt.Sprintf("thread %d is not right: %+v", n, th)
		}
		if th.State == thread.Ready && th.Domain == l.domain {
			best = max(best, th.Level)
		}
	}
	if l.runs != (best >= 0) {
		return fmt.Sprintf("somebody runs: %t, and the highest level is %d", l.runs, best)
	}
	if th := l.threads[l.now]; l.runs && (th.State != thread.Ready || th.Domain != l.domain || th.Level != best) {
		return fmt.Sprintf("%d runs: %+v", l.now, th)
	}
	return ""
}

// wrongWaits: who is Sending or Receiving waits at that endpoint, and nobody
// else; who is Waiting waits for that notice.
func (l *telling) wrongWaits() string {
	for n := range l.objects {
		var want []int
		for id, th := range l.threads {
			if !l.isThread[id] || th.On != n {
				continue
			}
			is := l.objects[n].Kind == api.Endpoint && (th.State == thread.Sending || th.State == thread.Receiving) ||
				l.objects[n].Kind == api.Notice && th.State == thread.Waiting
			if is {
				want = append(want, id)
			} else if th.State > thread.Ready && th.State != thread.Asking {
				return fmt.Sprintf("thread %d waits at what is not there: %+v", id, th)
			}
			if l.objects[n].Kind == api.Endpoint && is && int(l.states[n])+1 != th.State {
				return fmt.Sprintf("thread %d is %d at an endpoint that is at %d", id, th.State, l.states[n])
			}
		}
		if got := slices.Sorted(slices.Values(l.who[n])); !slices.Equal(got, want) {
			return fmt.Sprintf("%v wait at %d, not %v", got, n, want)
		}
		if l.objects[n].Kind == api.Notice && len(want) > 0 && l.states[n] != 0 {
			return fmt.Sprintf("%v wait at %d, whose word is %d", want, n, l.states[n])
		}
	}
	return ""
}

// wrongCallers: who is Asking has one whose Caller it is, and nobody is the
// Caller of two, or is without asking.
func (l *telling) wrongCallers() string {
	of := map[int]int{}
	for n, th := range l.threads {
		if l.isThread[n] && th.Caller != -1 {
			of[th.Caller]++
		}
	}
	for n, th := range l.threads {
		want := 0
		if l.isThread[n] && th.State == thread.Asking {
			want = 1
		}
		if of[n] != want {
			return fmt.Sprintf("thread %d is the Caller of %d: %+v", n, of[n], th)
		}
	}
	return ""
}

// wrongMappings: what is mapped is so into a Space that is there.
func (l *telling) wrongMappings() string {
	for n, o := range l.objects {
		if !l.there[n] {
			if o != (Object{}) {
				return fmt.Sprintf("no object %d: %+v", n, o)
			}
			continue
		}
		if !o.Mapped && (o.Space != -1 || o.At != 0) {
			return fmt.Sprintf("object %d is not mapped: %+v", n, o)
		}
		if o.Mapped && (o.Kind != api.Frame && o.Kind != api.Table || l.objects[o.Space].Kind != api.Space || o.At < 0 || o.At > 4095) {
			return fmt.Sprintf("object %d is mapped: %+v", n, o)
		}
		if o.Used != 0 && (o.Kind != api.Untyped || o.Used > 1<<o.Span.Bits) {
			return fmt.Sprintf("object %d is used: %+v", n, o)
		}
	}
	return ""
}

// wrongTables: each word of a Space, and of a Table that is mapped, is that of
// what is mapped there; so no page table's words lie in a Frame. (Nobody poked
// into them.)
func (l *telling) wrongTables() string {
	for n, o := range l.objects {
		for i := range 16 {
			switch {
			case o.Kind == api.Space:
				if bad := l.wrongWord(api.Table, o.Span.At+i, n, i); bad != "" {
					return bad
				}
			case o.Kind == api.Table && o.Mapped:
				if bad := l.wrongWord(api.Frame, o.Span.At+i, o.Space, o.At/256*16+i); bad != "" {
					return bad
				}
			case o.Kind == api.Table && l.words[o.Span.At+i] != 0:
				return fmt.Sprintf("Table %d is not mapped, and its word %d is %d", n, i, l.words[o.Span.At+i])
			}
		}
	}
	return ""
}

// wrongWord asks one word: of a Table that is mapped into a space at the
// 256 addresses, or of a Frame at the 16 addresses, of that place.
func (l *telling) wrongWord(kind, at, space, place int) string {
	w, length := l.words[at], 16
	if kind == api.Table {
		length = 256
	}
	for n, o := range l.objects {
		if o.Kind == kind && o.Mapped && o.Space == space && o.At/length == place {
			if w&^2 != uint64(o.Span.At+1) || kind == api.Table && w&2 != 0 {
				return fmt.Sprintf("word %d is %d, and %d is mapped there: %+v", at, w, n, o)
			}
			return ""
		}
	}
	if w != 0 {
		return fmt.Sprintf("word %d is %d, and nothing is mapped there", at, w)
	}
	return ""
}
