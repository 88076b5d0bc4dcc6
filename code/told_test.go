package code

import (
	"math"
	"math/big"
	"testing"

	"donjon/api"
	"donjon/msg"
)

// The chapter's numbers, written out: the layer's own names are held against
// them, and not the other way round.
const (
	allOps   = 18
	allRegs  = 8
	allImms  = 4096
	allPcs   = 4096
	allRight = allOps * allRegs * allRegs * allImms
)

func isFrom(n, first, last int) bool { return n >= first && n <= last }

func toldRight(i Ins) bool {
	return isFrom(i.Op, 0, 17) && isFrom(i.A, 0, 7) && isFrom(i.B, 0, 7) && isFrom(i.Imm, 0, 4095)
}

// toldWord is the sum that the chapter's example writes.
func toldWord(i Ins) (uint64, api.Errno) {
	if !toldRight(i) {
		return 0, api.ErrField
	}
	return uint64(i.Op + i.A*32 + i.B*256 + i.Imm*2048), api.OK
}

// toldIns divides a word's fields off, one by one; what is left is the last
// one, with all that is above it.
func toldIns(w uint64) (Ins, api.Errno) {
	op, a, b, imm := w%32, w/32%8, w/256%8, w/2048
	if op > 17 || imm > 4095 {
		return Ins{}, api.ErrField
	}
	return Ins{int(op), int(a), int(b), int(imm)}, api.OK
}

func number(w uint64) *big.Int { return new(big.Int).SetUint64(w) }

var modulus = new(big.Int).Lsh(big.NewInt(1), 64)

// wordOf is a whole number, modulo 2^64: Mod's answers are never below nought.
func wordOf(n *big.Int) uint64 { return new(big.Int).Mod(n, modulus).Uint64() }

func sum(a, b uint64) uint64 { return wordOf(new(big.Int).Add(number(a), number(b))) }

func times(a, b uint64) uint64 { return wordOf(new(big.Int).Mul(number(a), number(b))) }

func less(a, b uint64) uint64 { return wordOf(new(big.Int).Sub(number(a), number(b))) }

func power(n uint64) *big.Int { return new(big.Int).Lsh(big.NewInt(1), uint(n%64)) }

func timesPower(a, b uint64) uint64 { return wordOf(new(big.Int).Mul(number(a), power(b))) }

func overPower(a, b uint64) uint64 { return wordOf(new(big.Int).Div(number(a), power(b))) }

// each is a word of which each bit is told of the two that stand there.
func each(a, b uint64, is func(ones uint64) bool) uint64 {
	w, worth := uint64(0), uint64(1)
	for range 64 {
		if is(a%2 + b%2) {
			w += worth
		}
		a, b, worth = a/2, b/2, worth*2
	}
	return w
}

// toldRun is the chapter's table, row by row.
func toldRun(i Ins, regs msg.Regs, pc int) (Effect, api.Errno) {
	if !toldRight(i) {
		return Effect{}, api.ErrField
	}
	if !isFrom(pc, 0, 4095) {
		return Effect{}, api.ErrRange
	}
	a, b, imm := regs[i.A], regs[i.B], uint64(i.Imm)
	e := Effect{Regs: regs, Pc: pc + 1}
	if pc == 4095 {
		e.Pc = 0
	}
	to := &e.Regs[i.A]
	switch i.Op {
	case 0:
		e.Asks, e.Pc = 4, pc
	case 1:
		*to = imm
	case 2:
		*to = b
	case 3:
		*to = sum(a, b)
	case 4:
		*to = less(a, b)
	case 5:
		*to = times(a, b)
	case 6:
		*to = each(a, b, func(ones uint64) bool { return ones == 2 })
	case 7:
		*to = each(a, b, func(ones uint64) bool { return ones > 0 })
	case 8:
		*to = each(a, b, func(ones uint64) bool { return ones == 1 })
	case 9:
		*to = timesPower(a, b)
	case 10:
		*to = overPower(a, b)
	case 11:
		e.Asks, e.At, e.Reg = 1, sum(b, imm), i.A
	case 12:
		e.Asks, e.At, e.Value = 2, sum(b, imm), a
	case 13:
		e.Pc = i.Imm
	case 14:
		if number(a).Sign() == 0 {
			e.Pc = i.Imm
		}
	case 15:
		if number(a).Cmp(number(b)) < 0 {
			e.Pc = i.Imm
		}
	case 16:
		e.Asks, e.Value = 3, imm
	case 17:
		*to = sum(times(a, 4096), imm)
	}
	return e, api.OK
}

func wantPack(t *testing.T, i Ins, want uint64, wantErr api.Errno) {
	t.Helper()
	if w, err := Pack(i); w != want || err != wantErr {
		t.Fatalf("Pack(%+v): %d, error %d; not %d, error %d", i, w, err, want, wantErr)
	}
}

func wantUnpack(t *testing.T, w uint64, want Ins, wantErr api.Errno) {
	t.Helper()
	if i, err := Unpack(w); i != want || err != wantErr {
		t.Fatalf("Unpack(%#x): %+v, error %d; not %+v, error %d", w, i, err, want, wantErr)
	}
}

func wantRun(t *testing.T, i Ins, regs msg.Regs, pc int, want Effect, wantErr api.Errno) {
	t.Helper()
	if e, err := Run(i, regs, pc); e != want || err != wantErr {
		t.Fatalf("Run(%+v, %v, %d): %+v, error %d; not %+v, error %d", i, regs, pc, e, err, want, wantErr)
	}
}

func wantTold(t *testing.T, i Ins, regs msg.Regs, pc int) {
	t.Helper()
	e, err := toldRun(i, regs, pc)
	wantRun(t, i, regs, pc, e, err)
}

func wantWrong(t *testing.T, i Ins, regs msg.Regs, pc int, err api.Errno) {
	t.Helper()
	wantRun(t, i, regs, pc, Effect{}, err)
}

// eachPair hands on each two registers, the same ones too.
func eachPair(see func(a, b int)) {
	for a := range allRegs {
		for b := range allRegs {
			see(a, b)
		}
	}
}

func eachRight(see func(i Ins)) {
	for op := range allOps {
		eachPair(func(a, b int) {
			for imm := range allImms {
				see(Ins{op, a, b, imm})
			}
		})
	}
}

// far is numbers at the ends of the type, and such as are below 2^bits if
// their high bits are lost.
func far(bits int) []int {
	l := []int{math.MinInt, math.MinInt + 1, math.MaxInt - 1, math.MaxInt}
	for k := bits; k < 63; k++ {
		for _, near := range []int{0, 1, 1<<bits - 1} {
			l = append(l, 1<<k+near, -1<<k-near)
		}
	}
	return l
}

// noOps are below and above the Ops, near and far; likewise the others.
func noOps() []int {
	l := append(far(5), -1, -2, -17, -18, -31)
	for op := 18; op < 32; op++ {
		l = append(l, op)
	}
	return l
}

func noRegs() []int { return append(far(3), -1, -2, -7, 8, 9, 15, 16) }

func noImms() []int { return append(far(12), -1, -2, -4095, 4096, 4097, 8191) }

func noPcs() []int { return noImms() }

// ends is the least and the greatest, and some between them.
func ends() []int { return []int{0, 1, 2, 7, 2047, 2048, 2730, 4094, 4095} }

// words are such at which sums, products and shifts have their edges.
func words() []uint64 {
	l := []uint64{0, 1, 2, 3, 7, 0x5555555555555555, 0xAAAAAAAAAAAAAAAA, 0x0123456789ABCDEF, 0xFEDCBA9876543210}
	for _, k := range []uint{4, 6, 11, 12, 31, 32, 33, 51, 52, 53, 62, 63} {
		l = append(l, 1<<k-1, 1<<k, 1<<k+1)
	}
	return append(l, 62, 66, 4094, 1<<52+4095, 1<<63+63, 1<<63+64, ^uint64(0)-4096, ^uint64(0)-4095, ^uint64(0)-4094, ^uint64(0)-63, ^uint64(0)-1, ^uint64(0))
}

// some is eight words that are not one another.
func some() msg.Regs {
	return msg.Regs{1 << 63, 2, 0xF0F0F0F0F0F0F0F0, 65, 0, ^uint64(0), 4096, 0x123456789ABCDEF1}
}

// numbers are drawn by a rule, the same ones each time.
type numbers struct{ last uint64 }

func (n *numbers) below(m int) int {
	n.last = n.last*6364136223846793005 + 1442695040888963407
	return int((n.last >> 33) % uint64(m))
}

// word has its high bits drawn too, and is often small, or near the end.
func (n *numbers) word() uint64 {
	w := uint64(n.below(1<<31))<<33 ^ uint64(n.below(1<<31))<<16 ^ uint64(n.below(1<<16))
	switch n.below(4) {
	case 0:
		return w % 130
	case 1:
		return ^(w % 5000)
	}
	return w
}

func (n *numbers) regs() msg.Regs {
	var r msg.Regs
	for k := range r {
		r[k] = n.word()
	}
	return r
}

func (n *numbers) ins() Ins {
	return Ins{n.below(allOps), n.below(allRegs), n.below(allRegs), n.below(allImms)}
}
