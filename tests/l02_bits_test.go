package tests

import (
	"math"
	"slices"
	"strings"
	"testing"

	"loop.example/g01613/impl"
)

// bitDigits writes bits as digits, so that cases can be read at a glance.
func bitDigits(b []int) string {
	var s strings.Builder
	for _, bit := range b {
		s.WriteString(impl.Dec(bit))
	}
	return s.String()
}

func bitsFrom(digits string) []int {
	b := make([]int, len(digits))
	for i := range b {
		b[i] = int(digits[i] - '0')
	}
	return b
}

// notBits are the elements that no list of bits contains; the multiples of 256 turn into 0 or 1 as a byte.
func notBits() []int {
	return []int{-1, 2, 3, 255, 256, 257, '0', '1', 1 << 32, 1<<32 + 1, math.MaxInt, math.MinInt}
}

// longString has every byte twice, in both orders.
func longString() string {
	b := allBytes()
	s := string(b)
	slices.Reverse(b)
	return s + string(b)
}

func TestBitsOfStartsWithMostSignificantBit(t *testing.T) {
	cases := map[string]string{
		"":             "",
		"\x00":         "00000000",
		"\x01":         "00000001",
		"\x80":         "10000000",
		"\xff":         "11111111",
		"\xa1":         "10100001",
		"a":            "01100001",
		"\x80\x01":     "1000000000000001",
		"\x0f\xf0\x3c": "000011111111000000111100",
		"é":            "1100001110101001",
	}
	for s, want := range cases {
		if got := bitDigits(impl.BitsOf(s)); got != want {
			t.Errorf("BitsOf(%q) = %s, want %s", s, got, want)
		}
	}
}

func TestBytesOfRestoresString(t *testing.T) {
	for _, s := range append(stringsOver(allBytes(), 2), longString(), strings.Repeat("\x00", 300), strings.Repeat("\xff", 300)) {
		b := impl.BitsOf(s)
		if len(b) != 8*len(s) {
			t.Fatalf("BitsOf(%q) has %d bits, want %d", s, len(b), 8*len(s))
		}
		if got, ok := impl.BytesOf(b); got != s || !ok {
			t.Fatalf("BytesOf(BitsOf(%q)) = %q, %v", s, got, ok)
		}
	}
}

func TestBitsOfInvertsBytesOf(t *testing.T) {
	for n := range 1 << 16 {
		b := impl.BitsIn(n, 16)
		s, ok := impl.BytesOf(b)
		if !ok || !slices.Equal(impl.BitsOf(s), b) {
			t.Fatalf("BytesOf(%s) = %q, %v", bitDigits(b), s, ok)
		}
	}
}

func TestBytesOfAcceptsEmptyLists(t *testing.T) {
	for _, b := range [][]int{nil, {}} {
		if got, ok := impl.BytesOf(b); got != "" || !ok {
			t.Errorf("BytesOf(%#v) = %q, %v, want the empty string and true", b, got, ok)
		}
	}
}

func TestBytesOfRejectsPartsOfBytes(t *testing.T) {
	for _, bit := range []int{0, 1} {
		for size := 1; size <= 50; size++ {
			b := slices.Repeat([]int{bit}, size)
			got, ok := impl.BytesOf(b)
			if ok != (size%8 == 0) || len(got) != 0 && !ok {
				t.Errorf("BytesOf of %d bits = %q, %v", size, got, ok)
			}
		}
	}
}

func TestBytesOfRejectsOtherElements(t *testing.T) {
	for _, size := range []int{8, 16, 24} {
		for i := range size {
			for _, element := range notBits() {
				b := make([]int, size)
				b[i] = element
				if got, ok := impl.BytesOf(b); got != "" || ok {
					t.Errorf("BytesOf(%v) = %q, %v, want none", b, got, ok)
				}
			}
		}
	}
}

func TestBitAtAgreesWithBitsOf(t *testing.T) {
	for _, s := range []string{"", "\x00", "\x01", "\x80", "\xff", "\x80\x01", "a\xa1", longString()} {
		b := impl.BitsOf(s)
		for i, want := range b {
			if got := impl.BitAt(s, i); got != want {
				t.Errorf("BitAt(%q, %d) = %d, want %d", s, i, got, want)
			}
		}
		for _, i := range []int{len(b), len(b) + 1, len(b) + 7, len(b) + 8, math.MaxInt, -1, -7, -8, -9, math.MinInt} {
			if got := impl.BitAt(s, i); got != -1 {
				t.Errorf("BitAt(%q, %d) = %d, want -1", s, i, got)
			}
		}
	}
}

func TestLastBit(t *testing.T) {
	for size := 1; size <= 20; size++ {
		zeros := strings.Repeat("\x00", size-1)
		ones := strings.Repeat("\xff", size-1)
		last := 8*size - 1
		for _, c := range []struct {
			s    string
			want int
		}{{zeros + "\x01", 1}, {ones + "\xfe", 0}} {
			if got := impl.BitAt(c.s, last); got != c.want {
				t.Errorf("BitAt(%q, %d) = %d, want %d", c.s, last, got, c.want)
			}
			if got := impl.BitsOf(c.s); got[last] != c.want || got[last-1] != 1-c.want {
				t.Errorf("BitsOf(%q) ends with %d, %d", c.s, got[last-1], got[last])
			}
			if got := impl.BitAt(c.s, last+1); got != -1 {
				t.Errorf("BitAt(%q, %d) = %d, want -1", c.s, last+1, got)
			}
		}
	}
}

func TestNumOfStartsWithMostSignificantBit(t *testing.T) {
	cases := map[string]int{
		"":                            0,
		"0":                           0,
		"1":                           1,
		"10":                          2,
		"011":                         3,
		"101":                         5,
		"00000101":                    5,
		"100000010":                   258,
		strings.Repeat("0", 48):       0,
		strings.Repeat("1", 48):       1<<48 - 1,
		"1" + strings.Repeat("0", 47): 1 << 47,
		strings.Repeat("0", 47) + "1": 1,
	}
	for digits, want := range cases {
		if got, ok := impl.NumOf(bitsFrom(digits)); got != want || !ok {
			t.Errorf("NumOf(%s) = %d, %v, want %d", digits, got, ok, want)
		}
	}
	if got, ok := impl.NumOf(nil); got != 0 || !ok {
		t.Errorf("NumOf(nil) = %d, %v, want 0, true", got, ok)
	}
}

func TestNumOfRejectsMoreThanFortyEightBits(t *testing.T) {
	for _, size := range []int{49, 50, 56, 63, 64, 65, 128, 1000} {
		for _, bit := range []int{0, 1} {
			if got, ok := impl.NumOf(slices.Repeat([]int{bit}, size)); got != 0 || ok {
				t.Errorf("NumOf of %d times %d = %d, %v, want 0, false", size, bit, got, ok)
			}
		}
	}
}

func TestNumOfRejectsOtherElements(t *testing.T) {
	for _, size := range []int{1, 2, 8, 48} {
		for i := range size {
			for _, element := range notBits() {
				b := make([]int, size)
				b[i] = element
				if got, ok := impl.NumOf(b); got != 0 || ok {
					t.Errorf("NumOf(%v) = %d, %v, want 0, false", b, got, ok)
				}
			}
		}
	}
}

func TestNumOfInvertsBitsIn(t *testing.T) {
	for w := 0; w <= 48; w++ {
		most := 1<<w - 1
		for _, n := range []int{0, 1, most / 7 * 3, most / 3, most / 2, most/2 + 1, most - 1, most} {
			if n < 0 || n > most {
				continue
			}
			b := impl.BitsIn(n, w)
			if got, ok := impl.NumOf(b); got != n || !ok || len(b) != w {
				t.Errorf("BitsIn(%d, %d) = %s, of which NumOf is %d, %v", n, w, bitDigits(b), got, ok)
			}
		}
	}
}

func TestBitsInInvertsNumOf(t *testing.T) {
	for w := 0; w <= 10; w++ {
		for n := range 1 << w {
			want := make([]int, w)
			for i := range want {
				want[w-1-i] = n >> i % 2
			}
			if got := impl.BitsIn(n, w); !slices.Equal(got, want) {
				t.Fatalf("BitsIn(%d, %d) = %v, want %v", n, w, got, want)
			}
			if got, ok := impl.NumOf(want); got != n || !ok {
				t.Fatalf("NumOf(%v) = %d, %v, want %d", want, got, ok, n)
			}
		}
	}
}

func TestBitsInRejectsWhatDoesNotFit(t *testing.T) {
	for w := 0; w <= 48; w++ {
		if got, want := bitDigits(impl.BitsIn(1<<w-1, w)), strings.Repeat("1", w); got != want {
			t.Errorf("BitsIn(%d, %d) = %s, want %s", 1<<w-1, w, got, want)
		}
		for _, n := range []int{1 << w, 1<<w + 1, math.MaxInt, -1, -1 << w, math.MinInt} {
			if got := impl.BitsIn(n, w); len(got) != 0 {
				t.Errorf("BitsIn(%d, %d) = %v, want none", n, w, got)
			}
		}
	}
	for _, w := range []int{49, 50, 63, 64, 65, math.MaxInt, -1, -48, math.MinInt} {
		for _, n := range []int{0, 1, -1} {
			if got := impl.BitsIn(n, w); len(got) != 0 {
				t.Errorf("BitsIn(%d, %d) = %v, want none", n, w, got)
			}
		}
	}
}

func TestBitsLeaveArgumentsAlone(t *testing.T) {
	backing := slices.Repeat([]int{1, 0}, 30)
	before := slices.Clone(backing)
	for size := range len(backing) {
		impl.BytesOf(backing[:size])
		impl.NumOf(backing[:size])
	}
	if !slices.Equal(backing, before) {
		t.Errorf("the argument became %v", backing)
	}
}
