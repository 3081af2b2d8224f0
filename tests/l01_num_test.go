package tests

import (
	"math"
	"strconv"
	"strings"
	"testing"

	"loop.example/g01613/impl"
)

func TestFixedWritesMostSignificantByteFirst(t *testing.T) {
	cases := []struct {
		n, width int
		want     string
	}{
		{0, 1, "\x00"},
		{255, 1, "\xff"},
		{258, 2, "\x01\x02"},
		{7, 4, "\x00\x00\x00\x07"},
		{0x01020304050607, 7, "\x01\x02\x03\x04\x05\x06\x07"},
	}
	for _, c := range cases {
		if got := impl.Fixed(c.n, c.width); got != c.want {
			t.Errorf("Fixed(%d, %d) = %q, want %q", c.n, c.width, got, c.want)
		}
	}
}

func TestFixedRejectsWhatDoesNotFit(t *testing.T) {
	for width := 1; width <= 7; width++ {
		beyond := 1 << (8 * width)
		if got, want := impl.Fixed(beyond-1, width), strings.Repeat("\xff", width); got != want {
			t.Errorf("Fixed(%d, %d) = %q, want %q", beyond-1, width, got, want)
		}
		for _, n := range []int{beyond, beyond + 1, math.MaxInt, -1, math.MinInt} {
			if got := impl.Fixed(n, width); got != "" {
				t.Errorf("Fixed(%d, %d) = %q, want none", n, width, got)
			}
		}
	}
	for _, width := range []int{math.MinInt, -8, -1, 0, 8, 9, 64, math.MaxInt} {
		if got := impl.Fixed(0, width); got != "" {
			t.Errorf("Fixed(0, %d) = %q, want none", width, got)
		}
	}
}

func TestReadFixedInvertsFixed(t *testing.T) {
	for width := 1; width <= 7; width++ {
		most := 1<<(8*width) - 1
		for _, n := range []int{0, 1, 127, 128, 200, 255, most / 3, most / 2, most - 1, most} {
			s := impl.Fixed(n, width)
			for _, rest := range []string{"", "\x00", "\xffrest"} {
				if got, ok := impl.ReadFixed(s+rest, width); got != n || !ok {
					t.Errorf("ReadFixed(%q, %d) = %d, %v, want %d", s+rest, width, got, ok, n)
				}
			}
			if got, ok := impl.ReadFixed(s[:width-1], width); got != 0 || ok {
				t.Errorf("ReadFixed(%q, %d) = %d, %v, want 0, false", s[:width-1], width, got, ok)
			}
		}
	}
}

func TestFixedInvertsReadFixed(t *testing.T) {
	for _, s := range stringsOver(allBytes(), 2) {
		n, ok := impl.ReadFixed(s, 2)
		if ok != (len(s) == 2) || ok && impl.Fixed(n, 2) != s || !ok && n != 0 {
			t.Fatalf("ReadFixed(%q, 2) = %d, %v", s, n, ok)
		}
	}
}

func TestReadFixedRejectsWidths(t *testing.T) {
	for _, width := range []int{math.MinInt, -1, 0, 8, 9, math.MaxInt} {
		if got, ok := impl.ReadFixed("123456789", width); got != 0 || ok {
			t.Errorf("ReadFixed with width %d = %d, %v, want 0, false", width, got, ok)
		}
	}
}

func TestVarWritesLeastSignificantGroupFirst(t *testing.T) {
	cases := []struct {
		n    int
		want string
	}{
		{0, "\x00"},
		{1, "\x01"},
		{127, "\x7f"},
		{128, "\x80\x01"},
		{300, "\xac\x02"},
		{16383, "\xff\x7f"},
		{16384, "\x80\x80\x01"},
		{impl.MaxVar, "\xff\xff\xff\xff\xff\xff\x7f"},
	}
	for _, c := range cases {
		if got := impl.Var(c.n); got != c.want {
			t.Errorf("Var(%d) = %q, want %q", c.n, got, c.want)
		}
	}
	for _, n := range []int{impl.MaxVar + 1, impl.MaxVar + 2, math.MaxInt, -1, math.MinInt} {
		if got := impl.Var(n); got != "" {
			t.Errorf("Var(%d) = %q, want none", n, got)
		}
	}
}

func TestReadVarInvertsVar(t *testing.T) {
	numbers := []int{0, 1, 300, impl.MaxVar / 3, impl.MaxVar - 1, impl.MaxVar}
	for bits := 7; bits < 49; bits += 7 {
		numbers = append(numbers, 1<<bits-1, 1<<bits, 1<<bits+1)
	}
	for _, n := range numbers {
		s := impl.Var(n)
		for _, rest := range []string{"", "\x00", "\x80", "\xffrest"} {
			if got, size := impl.ReadVar(s + rest); got != n || size != len(s) {
				t.Errorf("ReadVar(%q) = %d, %d, want %d, %d", s+rest, got, size, n, len(s))
			}
		}
		for cut := range len(s) {
			if got, size := impl.ReadVar(s[:cut]); got != 0 || size != 0 {
				t.Errorf("ReadVar(%q) = %d, %d, want 0, 0", s[:cut], got, size)
			}
		}
	}
}

// A varint of up to two bytes is that of a number below 128*128, so this table leaves out none.
func TestReadVarAcceptsNothingElse(t *testing.T) {
	known := map[string]int{}
	for n := range 128 * 128 {
		known[impl.Var(n)] = n
	}
	for _, s := range stringsOver(allBytes(), 2) {
		wantNumber, wantSize := 0, 0
		for size := 1; size <= len(s); size++ {
			if n, ok := known[s[:size]]; ok {
				wantNumber, wantSize = n, size
			}
		}
		if n, size := impl.ReadVar(s); n != wantNumber || size != wantSize {
			t.Fatalf("ReadVar(%q) = %d, %d, want %d, %d", s, n, size, wantNumber, wantSize)
		}
	}
}

func TestReadVarRejectsLongForms(t *testing.T) {
	invalid := []string{
		"\x80\x80\x00",
		"\xac\x82\x00",
		"\xff\xff\xff\xff\xff\xff\x00",     // a needless last group of seven
		"\xff\xff\xff\xff\xff\xff\xff\x00", // MaxVar with a needless byte
		"\x80\x80\x80\x80\x80\x80\x80\x01", // MaxVar + 1
		"\x80\x80\x80\x80\x80\x80\x80\x80\x80\x01",
		strings.Repeat("\x80", 7),
		strings.Repeat("\xff", 1000) + "\x01",
	}
	for _, s := range invalid {
		if n, size := impl.ReadVar(s); n != 0 || size != 0 {
			t.Errorf("ReadVar(%q) = %d, %d, want 0, 0", s, n, size)
		}
	}
}

func TestHexWritesHighHalfFirst(t *testing.T) {
	for s, want := range map[string]string{"": "", "\x00": "00", "\x0f": "0f", "\xf0": "f0", "a\xff": "61ff", "\x9a\xbc": "9abc"} {
		if got := impl.Hex(s); got != want {
			t.Errorf("Hex(%q) = %q, want %q", s, got, want)
		}
	}
}

func TestUnhexInvertsHex(t *testing.T) {
	all := string(allBytes())
	for _, s := range []string{"", "\x00", "a\xff", "0f", all, all + all} {
		if got, ok := impl.Unhex(impl.Hex(s)); got != s || !ok {
			t.Errorf("Unhex(%q) = %q, %v, want %q", impl.Hex(s), got, ok, s)
		}
	}
}

func TestUnhexAcceptsNothingElse(t *testing.T) {
	known := map[string]string{"": ""}
	for _, c := range allBytes() {
		s := string([]byte{c})
		known[impl.Hex(s)] = s
	}
	for _, s := range stringsOver(allBytes(), 2) {
		want, wantOk := known[s]
		if got, ok := impl.Unhex(s); got != want || ok != wantOk {
			t.Fatalf("Unhex(%q) = %q, %v, want %q, %v", s, got, ok, want, wantOk)
		}
	}
	for _, s := range []string{"616", "61FF", "61 ff", "0x61", "61f\n", "61\n", "616g", "g661", "ffé"} {
		if got, ok := impl.Unhex(s); got != "" || ok {
			t.Errorf("Unhex(%q) = %q, %v, want none", s, got, ok)
		}
	}
}

func TestDecAcceptsEveryInt(t *testing.T) {
	cases := map[int]string{
		0:             "0",
		7:             "7",
		-7:            "-7",
		10:            "10",
		-120:          "-120",
		1000000000:    "1000000000",
		math.MaxInt:   "9223372036854775807",
		math.MinInt:   "-9223372036854775808",
		-impl.MaxVar:  "-562949953421311",
		math.MaxInt32: "2147483647",
	}
	for n, want := range cases {
		if got := impl.Dec(n); got != want {
			t.Errorf("Dec(%d) = %q, want %q", n, got, want)
		}
	}
}

func TestReadDecInvertsDec(t *testing.T) {
	numbers := []int{99999999, 100000000, 123456789, 999999998, 999999999}
	for n := range 20000 {
		numbers = append(numbers, n)
	}
	for _, n := range numbers {
		for _, m := range []int{n, -n} {
			if got, ok := impl.ReadDec(impl.Dec(m)); got != m || !ok {
				t.Fatalf("ReadDec(%q) = %d, %v, want %d", impl.Dec(m), got, ok, m)
			}
		}
	}
}

func TestReadDecRejectsMoreThanNineDigits(t *testing.T) {
	for _, n := range []int{1000000000, 1000000001, 9999999999, math.MaxInt, -1000000000, -9999999999, math.MinInt} {
		if got, ok := impl.ReadDec(impl.Dec(n)); got != 0 || ok {
			t.Errorf("ReadDec(%q) = %d, %v, want 0, false", impl.Dec(n), got, ok)
		}
	}
	for _, s := range []string{"0000000001", "-0000000001", "000000000", "--99999999", "9223372036854775808", strings.Repeat("1", 500)} {
		if got, ok := impl.ReadDec(s); got != 0 || ok {
			t.Errorf("ReadDec(%q) = %d, %v, want 0, false", s, got, ok)
		}
	}
}

// Strings of up to four bytes hold numbers from -999 to 9999 only, so this table leaves out none.
func TestReadDecAcceptsNothingElse(t *testing.T) {
	known := map[string]int{}
	for n := -999; n <= 9999; n++ {
		known[strconv.Itoa(n)] = n
	}
	for _, s := range stringsOver([]byte("-+019 ._xe\n\x00\xff"), 4) {
		want, wantOk := known[s]
		if got, ok := impl.ReadDec(s); got != want || ok != wantOk {
			t.Fatalf("ReadDec(%q) = %d, %v, want %d, %v", s, got, ok, want, wantOk)
		}
	}
}

func allBytes() []byte {
	b := make([]byte, 256)
	for i := range b {
		b[i] = byte(i)
	}
	return b
}

// stringsOver returns all strings of at most the given length over the alphabet, the empty one included.
func stringsOver(alphabet []byte, most int) []string {
	all, last := []string{""}, []string{""}
	for range most {
		var next []string
		for _, s := range last {
			for _, c := range alphabet {
				next = append(next, s+string([]byte{c}))
			}
		}
		all, last = append(all, next...), next
	}
	return all
}
