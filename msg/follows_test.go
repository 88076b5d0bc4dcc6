package msg

import (
	"testing"

	"donjon/api"
)

// 16.3

// That there are 655360 of them is said too: a Pack that refuses would
// otherwise have nothing to follow.
func TestUnpackOfPackIsTheInfo(t *testing.T) {
	count := 0
	for label := range uint64(1 << 17) {
		for length := -3; length <= 9; length++ {
			for _, c := range []bool{false, true} {
				i := Info{Label: label, Length: length, Cap: c}
				w, err := Pack(i)
				if err != api.OK {
					continue
				}
				count++
				wantUnpack(t, w, i, api.OK)
			}
		}
	}
	if count != allRight {
		t.Errorf("%d infos are right", count)
	}
}

func TestPackOfUnpackIsTheWord(t *testing.T) {
	count := 0
	for w := range uint64(1 << 21) {
		i, err := Unpack(w)
		if err != api.OK {
			continue
		}
		count++
		wantPack(t, i, w, api.OK)
	}
	if count != allRight {
		t.Errorf("%d words are of right infos", count)
	}
}

// wantAsWere looks at the registers of a receiver that a message of that
// Length does not have; the register 5 is the badge's.
func wantAsWere(t *testing.T, was, is Regs, length int) {
	t.Helper()
	for k := length + 1; k < len(was); k++ {
		if k != 5 && is[k] != was[k] {
			t.Errorf("Length %d: register %d was %d, and is %d", length, k, was[k], is[k])
		}
	}
}

// Each message goes through many hands: what a message does not have is at
// each hand as it was there, and the words are those of the first one.
func TestRegistersThatAMessageDoesNotHave(t *testing.T) {
	n := &numbers{last: 3}
	seen := [5]int{}
	for range 20000 {
		i := Info{Label: uint64(n.below(1 << 16)), Length: n.below(5), Cap: n.below(2) == 1}
		w, err := Pack(i)
		if err != api.OK {
			t.Fatalf("Pack(%+v): error %d", i, err)
		}
		first := with(n.regs(), w)
		hand := first
		for range 4 {
			was, badge := n.regs(), n.next()
			is, err := Carry(hand, was, badge)
			if err != api.OK || is[5] != badge {
				t.Fatalf("Carry(%v, %v, %d): %v, error %d", hand, was, badge, is, err)
			}
			wantAsWere(t, was, is, i.Length)
			for k := range i.Length + 1 {
				if is[k] != first[k] {
					t.Errorf("register %d is %d, and was sent as %d", k, is[k], first[k])
				}
			}
			hand = is
		}
		seen[i.Length]++
	}
	for length, times := range seen {
		if times < 1000 {
			t.Errorf("Length %d: %d times", length, times)
		}
	}
}

// An answer has no badge: the register 5, too, is as it was.
func TestRegistersThatAnAnswerDoesNotHave(t *testing.T) {
	n := &numbers{last: 4}
	for range 20000 {
		was := n.regs()
		words := make([]uint64, n.below(7))
		is := Answer(was, api.Errno(n.below(15)), words)
		wantAsWere(t, was, is, min(len(words), 4))
		if is[5] != was[5] {
			t.Errorf("%d words: register 5 was %d, and is %d", len(words), was[5], is[5])
		}
	}
}
