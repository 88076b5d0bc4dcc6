package rights

import (
	"math"
	"strings"
	"testing"

	"donjon/api"
)

// texts are the eight rights in letters, written out: a text's place is its rights.
var texts = [8]string{"-", "r", "w", "rw", "g", "rg", "wg", "rwg"}

// notRights are numbers that are no rights: each bound passed by one and by
// much, and some whose low bits alone would be rights.
func notRights() []int {
	return []int{
		-1, -2, -3, -4, -5, -6, -7, -8, -9, -16, -256, -1 << 31, -1<<32 + 1, math.MinInt, math.MinInt + 1, math.MinInt + 7,
		8, 9, 10, 12, 14, 15, 16, 17, 64, 256, 263, 1<<16 + 3, 1 << 31, 1<<32 + 5, 1 << 62, math.MaxInt - 7, math.MaxInt,
	}
}

// held are the rights of a number, one by one, without the layer and without
// the language's and.
func held(r int) map[int]bool {
	return map[int]bool{
		api.Read:  r%2 == 1,
		api.Write: r/2%2 == 1,
		api.Grant: r/4 == 1,
	}
}

// 4.1

func TestCheck(t *testing.T) {
	for r := -1000; r <= 1000; r++ {
		if got, want := Check(r), r >= 0 && r <= 7; got != want {
			t.Errorf("Check(%d): %v, want %v", r, got, want)
		}
	}
	for _, r := range notRights() {
		if Check(r) {
			t.Errorf("Check(%d): true", r)
		}
	}
}

func TestCheckOfEachSumOfRights(t *testing.T) {
	for _, read := range []int{0, api.Read} {
		for _, write := range []int{0, api.Write} {
			for _, grant := range []int{0, api.Grant} {
				if r := read + write + grant; !Check(r) {
					t.Errorf("Check(%d): false", r)
				}
			}
		}
	}
}

func TestMask(t *testing.T) {
	for _, c := range []struct{ a, b, want int }{
		{6, 3, 2}, {3, 6, 2}, {0, 0, 0}, {0, 7, 0}, {7, 0, 0}, {7, 7, 7}, {7, 5, 5}, {5, 7, 5}, {1, 2, 0}, {4, 3, 0}, {5, 6, 4}, {3, 5, 1},
	} {
		if got := Mask(c.a, c.b); got != c.want {
			t.Errorf("Mask(%d, %d): %d, want %d", c.a, c.b, got, c.want)
		}
	}
}

func TestMaskOfEachTwo(t *testing.T) {
	for a := range 8 {
		for b := range 8 {
			want := 0
			for right := range held(a) {
				if held(a)[right] && held(b)[right] {
					want += right
				}
			}
			if got := Mask(a, b); got != want {
				t.Errorf("Mask(%d, %d): %d, want %d", a, b, got, want)
			}
		}
	}
}

func TestWithin(t *testing.T) {
	for _, c := range []struct {
		a, b int
		want bool
	}{
		{0, 0, true}, {0, 7, true}, {7, 7, true}, {7, 0, false}, {1, 3, true}, {3, 1, false}, {1, 2, false}, {2, 1, false},
		{4, 3, false}, {3, 4, false}, {5, 7, true}, {5, 6, false}, {6, 6, true}, {7, 6, false},
	} {
		if got := Within(c.a, c.b); got != c.want {
			t.Errorf("Within(%d, %d): %v, want %v", c.a, c.b, got, c.want)
		}
	}
}

func TestWithinOfEachTwo(t *testing.T) {
	for a := range 8 {
		for b := range 8 {
			want := true
			for right := range held(a) {
				want = want && (!held(a)[right] || held(b)[right])
			}
			if got := Within(a, b); got != want {
				t.Errorf("Within(%d, %d): %v, want %v", a, b, got, want)
			}
		}
	}
}

// Wrong on the one side, on the other one, and on both (also the same twice).
func TestMaskAndWithinOfNoRights(t *testing.T) {
	refused := func(a, b int) {
		if got := Mask(a, b); got != 0 {
			t.Errorf("Mask(%d, %d): %d, want 0", a, b, got)
		}
		if Within(a, b) {
			t.Errorf("Within(%d, %d): true", a, b)
		}
	}
	for _, wrong := range notRights() {
		for r := range 8 {
			refused(wrong, r)
			refused(r, wrong)
		}
		for _, other := range notRights() {
			refused(wrong, other)
		}
	}
}

// 4.2

func TestText(t *testing.T) {
	for r, want := range texts {
		if got, e := Text(r); got != want || e != api.OK {
			t.Errorf("Text(%d): %q, error %d, want %q", r, got, e, want)
		}
	}
}

func TestTextOfNoRights(t *testing.T) {
	for _, r := range notRights() {
		if got, e := Text(r); got != "" || e != api.ErrRange {
			t.Errorf("Text(%d): %q, error %d, want error %d", r, got, e, api.ErrRange)
		}
	}
}

func TestParse(t *testing.T) {
	for want, s := range texts {
		if got, e := Parse(s); got != want || e != api.OK {
			t.Errorf("Parse(%q): %d, error %d, want %d", s, got, e, want)
		}
	}
}

// refusedByParse wants ErrField, and 0 beside it.
func refusedByParse(t *testing.T, s string) {
	t.Helper()
	if got, e := Parse(s); got != 0 || e != api.ErrField {
		if len(s) > 40 {
			s = s[:40] + ".."
		}
		t.Errorf("Parse(%q): %d, error %d, want error %d", s, got, e, api.ErrField)
	}
}

func TestParseOfWrongTexts(t *testing.T) {
	for _, s := range []string{
		"",
		"wr", "gr", "gw", "grw", "gwr", "rgw", "wgr", "wrg",
		"rr", "ww", "gg", "rrw", "rww", "rwr", "rwgg", "rwgr", "rwgrwg", "rgr",
		"--", "---", "-r", "r-", "-rwg", "rwg-", "r-g", "rw-", "-w-", "r--", "--g",
		"x", "a", "rx", "xr", "rwx", "rwgx", "xrwg", "q", "s", "v", "f", "h", "0", "1", "7", "rwe", "error 10",
		"R", "W", "G", "RW", "RWG", "Rwg", "rWg", "rwG",
		" ", " r", "r ", "r w", "rw g", "\n", "rwg\n", "\trwg", ",", "r,w", "+", "_", "r|w",
		"\x00", "r\x00", "\x00r", "rwg\x00", "\x00\x00\x00", "\x01", "\x07",
	} {
		refusedByParse(t, s)
	}
}

// Signs whose low byte is a letter's would be taken for it if a sign were cut to a byte.
func TestParseOfSignsOfMoreBytes(t *testing.T) {
	for _, s := range []string{
		"ŕ", "ẃ", "ǵ", "é", "r\u0301", "\u0301r", "–", "—", "−", "‐", "ｒ", "ｗ", "ｇ", "ｒｗｇ", "р", "г", "😀", "r😀", "\ufeffrwg", "r\u200bw",
		"\u0172", "\u0177", "\u0167", "\u012d", "\u0172\u0177\u0167", "\U00010072", "\ufffd", "rwg\ufffd",
	} {
		refusedByParse(t, s)
	}
}

func TestParseOfBytesThatAreNoSign(t *testing.T) {
	for _, s := range []string{
		"\xff", "\x80", "\xc3", "r\xff", "\xffr", "r\xffw", "rwg\xff", "rwg\xc5", "\xf2", "\xf7", "\xe7", "\xad",
		"\xf2\xf7\xe7", "\xc1\xb2", "\xe0\x81\xb2", "\xed\xa0\x80", "\xf4\x90\x80\x80", "\xc0\xad",
	} {
		refusedByParse(t, s)
	}
}

func TestParseOfLongTexts(t *testing.T) {
	for _, s := range []string{"r", "-", "rwg", "x", "\x00", "é", "\xff"} {
		refusedByParse(t, strings.Repeat(s, 1<<20))
	}
	for _, s := range texts {
		refusedByParse(t, s+strings.Repeat("\x00", 1<<16))
		refusedByParse(t, strings.Repeat(" ", 1<<16)+s)
	}
}

// each hands all texts of the bytes given, up to a length, to see.
func each(given string, length int, see func(string)) {
	see("")
	if length == 0 {
		return
	}
	for i := range len(given) {
		each(given, length-1, func(rest string) { see(given[i:i+1] + rest) })
	}
}

// Of all short texts just the eight are taken.
func TestParseOfEachShortText(t *testing.T) {
	known := map[string]int{}
	for r, s := range texts {
		known[s] = r
	}
	look := func(s string) {
		if _, ok := known[s]; !ok {
			refusedByParse(t, s)
		} else if got, e := Parse(s); got != known[s] || e != api.OK {
			t.Errorf("Parse(%q): %d, error %d, want %d", s, got, e, known[s])
		}
	}
	each("rwg-xR \x00\xff", 4, look)
	var bytes [256]byte
	for i := range bytes {
		bytes[i] = byte(i)
	}
	each(string(bytes[:]), 2, look)
}

func TestParseIsTheOtherWayRound(t *testing.T) {
	for r := range 8 {
		s, e := Text(r)
		if got, f := Parse(s); got != r || e != api.OK || f != api.OK {
			t.Errorf("Parse(Text(%d)): %q, error %d; %d, error %d", r, s, e, got, f)
		}
	}
}

// 4.3

func TestMaskedIsWithinBothAndTheMost(t *testing.T) {
	for a := range 8 {
		for b := range 8 {
			m := Mask(a, b)
			if !Check(m) || !Within(m, a) || !Within(m, b) {
				t.Errorf("Mask(%d, %d): %d is not within both", a, b, m)
			}
			for r := range 8 {
				if Within(r, a) && Within(r, b) && !Within(r, m) {
					t.Errorf("Mask(%d, %d): %d, but %d is within both, too", a, b, m, r)
				}
			}
		}
	}
}
