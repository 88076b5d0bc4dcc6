package code

import (
	"sync"
	"testing"

	"donjon/api"
	"donjon/msg"
)

// 23.3

// That all are taken is said too: a Pack that refuses would otherwise have
// nothing to follow. The bounds are gone past, so that what is taken beyond
// them must come back too.
func TestUnpackOfPackIsTheInstruction(t *testing.T) {
	count := 0
	for op := -2; op < allOps+2; op++ {
		for a := -1; a <= allRegs; a++ {
			for b := -1; b <= allRegs; b++ {
				for imm := -3; imm < allImms+3; imm++ {
					i := Ins{op, a, b, imm}
					w, err := Pack(i)
					if err != api.OK {
						continue
					}
					count++
					wantUnpack(t, w, i, api.OK)
				}
			}
		}
	}
	if count != allRight {
		t.Errorf("%d instructions are right", count)
	}
}

func TestPackOfUnpackIsTheWord(t *testing.T) {
	count := 0
	for w := range uint64(1 << 24) {
		i, err := Unpack(w)
		if err != api.OK {
			continue
		}
		count++
		wantPack(t, i, w, api.OK)
	}
	if count != allRight {
		t.Errorf("%d words are of right instructions", count)
	}
}

func TestPackOfUnpackOfDrawnWords(t *testing.T) {
	n := &numbers{last: 4}
	for range 200000 {
		w := n.word() >> n.below(64)
		if i, err := Unpack(w); err == api.OK {
			wantPack(t, i, w, api.OK)
		}
	}
}

func wantAsWere(t *testing.T, i Ins, was, is msg.Regs) {
	t.Helper()
	for k := range was {
		if k != i.A && was[k] != is[k] {
			t.Fatalf("%+v: register %d was %d, and is %d", i, k, was[k], is[k])
		}
	}
}

func TestNoOtherRegisterThanA(t *testing.T) {
	n := &numbers{last: 5}
	for op := range allOps {
		eachPair(func(a, b int) {
			for _, imm := range ends() {
				for range 8 {
					i, was := Ins{op, a, b, imm}, n.regs()
					e, err := Run(i, was, n.below(allPcs))
					if err != api.OK {
						t.Fatalf("Run(%+v): error %d", i, err)
					}
					wantAsWere(t, i, was, e.Regs)
				}
			}
		})
	}
}

// A long row of instructions, each upon what the last one left: a register
// changes only where the row names it as A.
func TestNoOtherRegisterInALongRow(t *testing.T) {
	n := &numbers{last: 6}
	for range 200 {
		start := n.regs()
		regs, pc, spared := start, n.below(allPcs), n.below(allRegs)
		for range 200 {
			i := n.ins()
			if i.A == spared {
				i.A = (spared + 1) % allRegs
			}
			e, err := Run(i, regs, pc)
			if err != api.OK {
				t.Fatalf("Run(%+v, %v, %d): error %d", i, regs, pc, err)
			}
			wantAsWere(t, i, regs, e.Regs)
			regs, pc = e.Regs, e.Pc
		}
		if regs[spared] != start[spared] {
			t.Fatalf("register %d was %d, and is %d", spared, start[spared], regs[spared])
		}
	}
}

// Threads that run side by side have nothing in common.
func TestRunSideBySide(t *testing.T) {
	var wait sync.WaitGroup
	for range 4 {
		wait.Go(func() {
			n := &numbers{last: 7}
			for range 5000 {
				i, regs, pc := n.ins(), n.regs(), n.below(allPcs)
				want, wantErr := toldRun(i, regs, pc)
				if e, err := Run(i, regs, pc); e != want || err != wantErr {
					t.Errorf("Run(%+v, %v, %d): %+v, error %d; not %+v, error %d", i, regs, pc, e, err, want, wantErr)
					return
				}
			}
		})
	}
	wait.Wait()
}
