package code

import (
	"math"
	"testing"

	"donjon/api"
	"donjon/msg"
)

// 23.1

func TestPackOfTheExample(t *testing.T) {
	wantPack(t, Ins{Op: Const, A: 2, Imm: 7}, 14401, api.OK)
	wantUnpack(t, 14401, Ins{Op: Const, A: 2, Imm: 7}, api.OK)
}

func TestNamesHaveTheirNumbers(t *testing.T) {
	for n, is := range [...]int{Halt, Const, Move, Add, Sub, Mul, And, Or, Xor, Left, Right, Load, Store, Jump, Zero, Less, Sys, More} {
		if is != n {
			t.Errorf("Op %d is %d", n, is)
		}
	}
	for n, is := range [...]int{Nothing, Reads, Writes, Calls, Ends} {
		if is != n {
			t.Errorf("Asks %d is %d", n, is)
		}
	}
}

func TestWhereFieldsStand(t *testing.T) {
	for _, c := range []struct {
		i Ins
		w uint64
	}{
		{Ins{}, 0},
		{Ins{Op: 1}, 1},
		{Ins{Op: 16}, 1 << 4},
		{Ins{Op: 17}, 0x11},
		{Ins{A: 1}, 1 << 5},
		{Ins{A: 4}, 1 << 7},
		{Ins{A: 7}, 7 << 5},
		{Ins{B: 1}, 1 << 8},
		{Ins{B: 4}, 1 << 10},
		{Ins{B: 7}, 7 << 8},
		{Ins{Imm: 1}, 1 << 11},
		{Ins{Imm: 2048}, 1 << 22},
		{Ins{Imm: 4095}, 4095 << 11},
		{Ins{17, 7, 7, 4095}, 0x7FFFF1},
		{Ins{15, 0, 7, 0}, 0x70F},
		{Ins{0, 7, 0, 4095}, 0x7FF8E0},
	} {
		wantPack(t, c.i, c.w, api.OK)
		wantUnpack(t, c.w, c.i, api.OK)
	}
}

func TestPackOfAllThatAreRight(t *testing.T) {
	eachRight(func(i Ins) {
		w, err := toldWord(i)
		wantPack(t, i, w, err)
	})
}

func TestUnpackOfAllWordsWithinTheFields(t *testing.T) {
	for w := range uint64(1 << 23) {
		i, err := toldIns(w)
		wantUnpack(t, w, i, err)
	}
}

// What an Op does not use may be whatever it is, but not out of its bounds.
func TestPackOfWhatIsNotRight(t *testing.T) {
	for op := range allOps {
		for _, r := range []int{0, 3, 7} {
			for _, imm := range []int{0, 1365, 4095} {
				for _, n := range noRegs() {
					wantPack(t, Ins{op, n, r, imm}, 0, api.ErrField)
					wantPack(t, Ins{op, r, n, imm}, 0, api.ErrField)
				}
				for _, n := range noImms() {
					wantPack(t, Ins{op, r, 7 - r, n}, 0, api.ErrField)
				}
			}
		}
	}
	eachPair(func(a, b int) {
		for _, n := range noOps() {
			for _, imm := range ends() {
				wantPack(t, Ins{n, a, b, imm}, 0, api.ErrField)
			}
		}
	})
}

func TestPackOfWhatIsNotRightTwice(t *testing.T) {
	for _, op := range noOps() {
		for _, r := range noRegs() {
			wantPack(t, Ins{op, r, 0, 0}, 0, api.ErrField)
			wantPack(t, Ins{op, 0, r, 0}, 0, api.ErrField)
			wantPack(t, Ins{op, r, r, -op}, 0, api.ErrField)
		}
	}
	// The sums of these are words that are right.
	wantPack(t, Ins{32, -1, 0, 0}, 0, api.ErrField)
	wantPack(t, Ins{-32, 1, 0, 0}, 0, api.ErrField)
	wantPack(t, Ins{0, 8, -1, 0}, 0, api.ErrField)
	wantPack(t, Ins{0, -8, 1, 0}, 0, api.ErrField)
	wantPack(t, Ins{0, 0, 8, -1}, 0, api.ErrField)
	wantPack(t, Ins{0, 0, -8, 1}, 0, api.ErrField)
}

func TestUnpackOfNoOps(t *testing.T) {
	for op := uint64(18); op < 32; op++ {
		wantUnpack(t, op, Ins{}, api.ErrField)
		wantUnpack(t, op+0x7FFFE0, Ins{}, api.ErrField)
		wantUnpack(t, op+14400, Ins{}, api.ErrField)
	}
}

func TestUnpackOfBitsThatBelongToNoField(t *testing.T) {
	for _, low := range []uint64{0, 1, 0x11, 0x12, 0x1F, 14401, 0x7FFFF1, 0x7FFFFF, 0x400000} {
		for k := 23; k < 64; k++ {
			wantUnpack(t, low|1<<k, Ins{}, api.ErrField)
			for j := 23; j < k; j++ {
				wantUnpack(t, low|1<<k|1<<j, Ins{}, api.ErrField)
			}
			wantUnpack(t, low|^uint64(0)<<k, Ins{}, api.ErrField)
		}
	}
}

func TestUnpackOfDrawnWords(t *testing.T) {
	n := &numbers{last: 1}
	for range 200000 {
		w := n.word()
		i, err := toldIns(w)
		wantUnpack(t, w, i, err)
		w >>= n.below(64)
		i, err = toldIns(w)
		wantUnpack(t, w, i, err)
	}
}

// 23.2

func TestRunOfTheExample(t *testing.T) {
	wantRun(t, Ins{Op: Const, A: 2, Imm: 7}, msg.Regs{}, 0, Effect{Regs: msg.Regs{2: 7}, Pc: 1}, api.OK)
}

// Each row is one Op with the registers 1 and 2, from the place 10 on.
func TestRunOfEachOp(t *testing.T) {
	for _, c := range []struct {
		op, imm int
		a, b    uint64
		is      uint64 // a, behind it
		want    Effect // but for the registers
	}{
		{Halt, 0, 5, 6, 5, Effect{Pc: 10, Asks: 4}},
		{Const, 9, 5, 6, 9, Effect{Pc: 11}},
		{Const, 0, 5, 6, 0, Effect{Pc: 11}},
		{Const, 4095, 5, 6, 4095, Effect{Pc: 11}},
		{Move, 9, 5, 6, 6, Effect{Pc: 11}},
		{Add, 9, 5, 6, 11, Effect{Pc: 11}},
		{Sub, 9, 9, 6, 3, Effect{Pc: 11}},
		{Mul, 9, 5, 6, 30, Effect{Pc: 11}},
		{And, 9, 12, 10, 8, Effect{Pc: 11}},
		{Or, 9, 12, 10, 14, Effect{Pc: 11}},
		{Xor, 9, 12, 10, 6, Effect{Pc: 11}},
		{Left, 9, 5, 3, 40, Effect{Pc: 11}},
		{Right, 9, 43, 3, 5, Effect{Pc: 11}},
		{Load, 9, 5, 6, 5, Effect{Pc: 11, Asks: 1, At: 15, Reg: 1}},
		{Store, 9, 5, 6, 5, Effect{Pc: 11, Asks: 2, At: 15, Value: 5}},
		{Jump, 9, 5, 6, 5, Effect{Pc: 9}},
		{Zero, 9, 0, 6, 0, Effect{Pc: 9}},
		{Zero, 9, 1, 0, 1, Effect{Pc: 11}},
		{Zero, 9, 1 << 63, 0, 1 << 63, Effect{Pc: 11}},
		{Less, 9, 5, 6, 5, Effect{Pc: 9}},
		{Less, 9, 6, 6, 6, Effect{Pc: 11}},
		{Less, 9, 7, 6, 7, Effect{Pc: 11}},
		{Less, 9, 0, 0, 0, Effect{Pc: 11}},
		{Sys, 9, 5, 6, 5, Effect{Pc: 11, Asks: 3, Value: 9}},
		{More, 9, 5, 6, 20489, Effect{Pc: 11}},
	} {
		regs := msg.Regs{101, c.a, c.b, 103, 104, 105, 106, 107}
		want := c.want
		want.Regs = msg.Regs{101, c.is, c.b, 103, 104, 105, 106, 107}
		wantRun(t, Ins{c.op, 1, 2, c.imm}, regs, 10, want, api.OK)
	}
}

// Each row is one Op at the edges of words: what a is behind it.
func TestRunPastTheEdgesOfWords(t *testing.T) {
	const all = ^uint64(0)
	for _, c := range []struct {
		op, imm  int
		a, b, is uint64
	}{
		{Add, 0, all, 1, 0},
		{Add, 0, all, all, all - 1},
		{Add, 0, 1 << 63, 1 << 63, 0},
		{Sub, 0, 0, 1, all},
		{Sub, 0, 0, all, 1},
		{Sub, 0, 5, 6, all},
		{Sub, 0, all, all, 0},
		{Mul, 0, 1 << 32, 1 << 32, 0},
		{Mul, 0, all, all, 1},
		{Mul, 0, all, 2, all - 1},
		{Mul, 0, 1<<32 + 1, 1<<32 + 1, 1<<33 + 1},
		{And, 0, all, 1 << 63, 1 << 63},
		{Or, 0, 1 << 63, 1, 1<<63 + 1},
		{Xor, 0, all, 1 << 63, 1<<63 - 1},
		{Left, 0, 3, 0, 3},
		{Left, 0, 3, 63, 1 << 63},
		{Left, 0, 3, 64, 3},
		{Left, 0, 3, 65, 6},
		{Left, 0, 3, 1 << 63, 3},
		{Left, 0, 3, all, 1 << 63},
		{Left, 0, all, 1, all - 1},
		{Right, 0, all, 0, all},
		{Right, 0, all, 63, 1},
		{Right, 0, 1 << 63, 63, 1},
		{Right, 0, 1<<63 - 1, 63, 0},
		{Right, 0, all, 64, all},
		{Right, 0, all, 65, all >> 1},
		{Right, 0, all, 1 << 63, all},
		{Right, 0, all, all, 1},
		{More, 4095, all, 0, all},
		{More, 0, 1 << 52, 0, 0},
		{More, 5, 1<<52 + 1, 0, 4101},
		{More, 1, 1 << 51, 0, 1<<63 + 1},
		{More, 4095, 0, 0, 4095},
	} {
		want := Effect{Regs: msg.Regs{3: c.is, 6: c.b}, Pc: 1}
		wantRun(t, Ins{c.op, 3, 6, c.imm}, msg.Regs{3: c.a, 6: c.b}, 0, want, api.OK)
	}
}

func TestRunWithAPlaceInMemoryPastTheEdge(t *testing.T) {
	const all = ^uint64(0)
	for _, c := range []struct {
		b   uint64
		imm int
		at  uint64
	}{
		{0, 0, 0}, {0, 4095, 4095}, {all, 0, all}, {all, 1, 0}, {all, 4095, 4094}, {all - 4094, 4095, 0}, {all - 4095, 4095, all}, {1 << 63, 7, 1<<63 + 7},
	} {
		regs := msg.Regs{8, 3: 9, 7: c.b}
		wantRun(t, Ins{Load, 3, 7, c.imm}, regs, 0, Effect{Regs: regs, Pc: 1, Asks: Reads, At: c.at, Reg: 3}, api.OK)
		wantRun(t, Ins{Store, 3, 7, c.imm}, regs, 0, Effect{Regs: regs, Pc: 1, Asks: Writes, At: c.at, Value: 9}, api.OK)
		wantRun(t, Ins{Load, 7, 7, c.imm}, regs, 0, Effect{Regs: regs, Pc: 1, Asks: Reads, At: c.at, Reg: 7}, api.OK)
		wantRun(t, Ins{Store, 7, 7, c.imm}, regs, 0, Effect{Regs: regs, Pc: 1, Asks: Writes, At: c.at, Value: c.b}, api.OK)
	}
}

func TestRunOfLessIsOfWordsWithoutSigns(t *testing.T) {
	const all = ^uint64(0)
	for _, c := range []struct {
		a, b uint64
		pc   int
	}{
		{0, all, 9}, {all, 0, 1}, {1<<63 - 1, 1 << 63, 9}, {1 << 63, 1<<63 - 1, 1}, {all - 1, all, 9}, {all, all, 1}, {1 << 32, 1, 1}, {1, 1 << 32, 9},
	} {
		regs := msg.Regs{c.a, c.b}
		wantRun(t, Ins{Less, 0, 1, 9}, regs, 0, Effect{Regs: regs, Pc: c.pc}, api.OK)
	}
}

// At the last place the next one is the first; Halt stays, and a jump goes
// where it goes.
func TestRunAtTheLastPlace(t *testing.T) {
	regs := some()
	for op := range allOps {
		want := 0
		switch op {
		case Halt:
			want = 4095
		case Jump, Less: // the register 1 is less than the register 2
			want = 70
		}
		if e, err := Run(Ins{op, 1, 2, 70}, regs, 4095); e.Pc != want || err != api.OK {
			t.Errorf("Op %d: Pc %d, error %d; not %d", op, e.Pc, err, want)
		}
	}
}

// A jump to the place where it stands, and to the next one, is one too.
func TestRunOfJumpsNearby(t *testing.T) {
	for _, pc := range ends() {
		for near := -1; near <= 1; near++ {
			imm := (pc + near + 4096) % 4096
			for _, i := range []Ins{{Jump, 5, 5, imm}, {Zero, 4, 4, imm}, {Less, 4, 5, imm}} {
				wantRun(t, i, some(), pc, Effect{Regs: some(), Pc: imm}, api.OK)
			}
		}
	}
}

func TestRunOfEachOpWithEachTwoRegisters(t *testing.T) {
	for op := range allOps {
		eachPair(func(a, b int) {
			for _, imm := range ends() {
				for _, pc := range ends() {
					wantTold(t, Ins{op, a, b, imm}, some(), pc)
				}
			}
		})
	}
}

func TestRunOfEachOpWithEachTwoWords(t *testing.T) {
	for op := range allOps {
		for _, a := range words() {
			for _, b := range words() {
				regs := some()
				regs[2], regs[6] = a, b
				wantTold(t, Ins{op, 2, 6, 4095}, regs, 4094)
			}
			for _, imm := range ends() {
				regs := some()
				regs[5] = a
				wantTold(t, Ins{op, 5, 5, imm}, regs, 17)
			}
		}
	}
}

// Shifts by each number below 256, and by such as differ above it.
func TestRunOfShifts(t *testing.T) {
	for _, op := range []int{Left, Right} {
		for n := range uint64(256) {
			for _, high := range []uint64{0, 1 << 8, 1 << 32, 1 << 63} {
				for _, a := range []uint64{1, 1 << 63, ^uint64(0), 0x0123456789ABCDEF} {
					wantTold(t, Ins{op, 0, 1, 64}, msg.Regs{a, n + high}, 0)
				}
				wantTold(t, Ins{op, 1, 1, 64}, msg.Regs{7, n + high}, 0)
			}
		}
	}
}

func TestRunWithEachImm(t *testing.T) {
	for op := range allOps {
		for imm := range allImms {
			wantTold(t, Ins{op, 2, 3, imm}, some(), 5)
			wantTold(t, Ins{op, 4, 5, imm}, some(), 4095)
		}
	}
}

func TestRunAtEachPlace(t *testing.T) {
	for op := range allOps {
		for pc := range allPcs {
			wantTold(t, Ins{op, 2, 3, 7}, some(), pc)
			wantTold(t, Ins{op, 4, 5, 4095}, some(), pc)
		}
	}
}

func TestRunDrawn(t *testing.T) {
	n := &numbers{last: 2}
	for range 100000 {
		wantTold(t, n.ins(), n.regs(), n.below(allPcs))
	}
}

// uses says which of A, B and Imm an Op uses.
func uses(op int) (a, b, imm bool) {
	switch op {
	case Halt:
		return false, false, false
	case Const, Zero, More:
		return true, false, true
	case Load, Store, Less:
		return true, true, true
	case Jump, Sys:
		return false, false, true
	}
	return true, true, false
}

func TestRunWithWhatAnOpDoesNotUse(t *testing.T) {
	for op := range allOps {
		a, b, imm := uses(op)
		eachPair(func(x, y int) {
			for _, z := range ends() {
				plain, other := Ins{op, 0, 0, 0}, Ins{op, x, y, z}
				if a {
					plain.A = x
				}
				if b {
					plain.B = y
				}
				if imm {
					plain.Imm = z
				}
				want, err := Run(plain, some(), 40)
				wantRun(t, other, some(), 40, want, err)
			}
		})
	}
}

func TestRunOfWhatIsNotRight(t *testing.T) {
	for op := range allOps {
		for _, pc := range []int{0, 1, 4095} {
			for _, n := range noRegs() {
				wantWrong(t, Ins{op, n, 0, 0}, some(), pc, api.ErrField)
				wantWrong(t, Ins{op, 0, n, 0}, some(), pc, api.ErrField)
				wantWrong(t, Ins{op, n, n, 4095}, some(), pc, api.ErrField)
			}
			for _, n := range noImms() {
				wantWrong(t, Ins{op, 0, 7, n}, some(), pc, api.ErrField)
				wantWrong(t, Ins{op, 7, 0, n}, some(), pc, api.ErrField)
			}
		}
	}
	for _, n := range noOps() {
		eachPair(func(a, b int) {
			for _, pc := range []int{0, 1, 4095} {
				wantWrong(t, Ins{n, a, b, 0}, some(), pc, api.ErrField)
				wantWrong(t, Ins{n, a, b, 4095}, some(), pc, api.ErrField)
			}
		})
	}
}

func TestRunOutOfRange(t *testing.T) {
	for op := range allOps {
		for _, pc := range noPcs() {
			wantWrong(t, Ins{op, 0, 0, 0}, some(), pc, api.ErrRange)
			wantWrong(t, Ins{op, 4, 5, 9}, some(), pc, api.ErrRange)
			wantWrong(t, Ins{op, 7, 7, 4095}, some(), pc, api.ErrRange)
		}
	}
}

func TestRunTellsTheInstructionFirst(t *testing.T) {
	for _, pc := range []int{math.MinInt, -4096, -1, 4096, 4097, 8192, 1 << 32, math.MaxInt} {
		for _, n := range noOps() {
			wantWrong(t, Ins{n, 0, 0, 0}, some(), pc, api.ErrField)
		}
		for op := range allOps {
			for _, n := range noRegs() {
				wantWrong(t, Ins{op, n, 0, 0}, some(), pc, api.ErrField)
				wantWrong(t, Ins{op, 0, n, 0}, some(), pc, api.ErrField)
			}
			for _, n := range noImms() {
				wantWrong(t, Ins{op, 0, 0, n}, some(), pc, api.ErrField)
			}
		}
	}
}

// An answer hangs on what was given alone: not on what ran before, a refused
// one neither.
func TestRunOnceMore(t *testing.T) {
	n := &numbers{last: 3}
	for range 20000 {
		i, regs, pc := n.ins(), n.regs(), n.below(allPcs)
		first, err := Run(i, regs, pc)
		Run(n.ins(), n.regs(), n.below(allPcs))
		Run(Ins{Op: 18, A: 8, B: 8, Imm: 4096}, n.regs(), 4096)
		Pack(n.ins())
		Unpack(n.word())
		wantRun(t, i, regs, pc, first, err)
	}
}
