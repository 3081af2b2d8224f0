package tests

import (
	"math"
	"slices"
	"strings"
	"testing"

	"loop.example/g01613/impl"
)

// bitField is a number and the bits it is written with.
type bitField struct {
	n int
	w int
}

// bitFields have every width, with numbers at both ends and in the middle.
func bitFields() []bitField {
	var all []bitField
	for w := range 33 {
		most := 1<<w - 1
		for _, n := range []int{0, 1, most / 7 * 3, most / 3, most / 2, most/2 + 1, most} {
			if n <= most {
				all = append(all, bitField{n, w})
			}
		}
	}
	return all
}

// refusedFields are those that no list of bits takes.
func refusedFields() []bitField {
	var all []bitField
	for w := range 33 {
		for _, n := range []int{1 << w, 1<<w + 1, 1 << 33, 1 << 62, math.MaxInt, -1, -1 << w, math.MinInt} {
			all = append(all, bitField{n, w})
		}
	}
	for _, w := range []int{-1, -8, -32, 33, 34, 48, 63, 64, 65, math.MaxInt, math.MinInt} {
		for _, n := range []int{0, 1, -1, 1 << 32, math.MaxInt} {
			all = append(all, bitField{n, w})
		}
	}
	return all
}

// bitLists are all lists of up to most bits.
func bitLists(most int) [][]int {
	var all [][]int
	for w := range most + 1 {
		for n := range 1 << w {
			all = append(all, impl.BitsIn(n, w))
		}
	}
	return all
}

func checkNotPut(t *testing.T, b []int, f bitField) {
	t.Helper()
	before := slices.Clone(b)
	got, ok := impl.PutBits(b, f.n, f.w)
	if !slices.Equal(got, before) || ok {
		t.Errorf("PutBits of %d bits, %d, %d = %d bits, %v, want the bits unchanged and false", len(b), f.n, f.w, len(got), ok)
	}
}

func TestPutBitsStartsWithMostSignificantBit(t *testing.T) {
	for _, c := range []struct {
		before string
		n      int
		w      int
		want   string
	}{
		{"", 0, 0, ""},
		{"", 0, 1, "0"},
		{"", 1, 1, "1"},
		{"", 2, 2, "10"},
		{"", 1, 4, "0001"},
		{"1", 5, 4, "10101"},
		{"0110", 0, 0, "0110"},
		{"0110", 0, 3, "0110000"},
		{"1111111", 0, 1, "11111110"},
		{"00000000", 128, 8, "0000000010000000"},
		{"1", 1<<32 - 1, 32, strings.Repeat("1", 33)},
		{"", 1 << 31, 32, "1" + strings.Repeat("0", 31)},
	} {
		got, ok := impl.PutBits(bitsFrom(c.before), c.n, c.w)
		if bitDigits(got) != c.want || !ok {
			t.Errorf("PutBits(%s, %d, %d) = %s, %v, want %s", c.before, c.n, c.w, bitDigits(got), ok, c.want)
		}
	}
}

func TestPutBitsAgreesWithBitsIn(t *testing.T) {
	for _, before := range [][]int{nil, {}, {0}, {1}, {1, 0, 0, 1, 1, 1, 0}, impl.BitsOf("\x00"), impl.BitsOf(longString())} {
		for _, f := range bitFields() {
			want := append(slices.Clone(before), impl.BitsIn(f.n, f.w)...)
			got, ok := impl.PutBits(before, f.n, f.w)
			if !slices.Equal(got, want) || !ok {
				t.Errorf("PutBits of %d bits, %d, %d = %s, %v, want %s", len(before), f.n, f.w, bitDigits(got), ok, bitDigits(want))
			}
		}
	}
}

func TestPutBitsRefusesWhatDoesNotFit(t *testing.T) {
	for _, b := range [][]int{nil, {}, {0}, {1}, {1, 0, 0, 1, 1, 1, 0, 0}, slices.Repeat([]int{1}, 1000)} {
		for _, f := range refusedFields() {
			checkNotPut(t, b, f)
		}
	}
}

func TestPutBitsUpToMaxBits(t *testing.T) {
	if impl.MaxBits != 200000 {
		t.Fatalf("MaxBits = %d", impl.MaxBits)
	}
	most := slices.Repeat([]int{1, 0, 1, 1}, impl.MaxBits/4+20)
	for _, w := range []int{0, 1, 2, 8, 31, 32} {
		b := most[:impl.MaxBits-w]
		got, ok := impl.PutBits(b, 1<<w-1, w)
		if len(got) != impl.MaxBits || !ok || !slices.Equal(got[:len(b)], b) || !slices.Equal(got[len(b):], slices.Repeat([]int{1}, w)) {
			t.Errorf("PutBits of %d bits, %d bits more = %d bits, %v", len(b), w, len(got), ok)
		}
		for _, over := range []int{1, 2, 7, 8, 40} {
			checkNotPut(t, most[:impl.MaxBits-w+over], bitField{0, w})
		}
	}
	for _, f := range refusedFields() {
		if f.w != 0 {
			continue
		}
		checkNotPut(t, most[:impl.MaxBits], f)
	}
}

// Only Stopped states a result for elements other than 0 and 1; PutBits passes them on.
func TestPutBitsPassesOnOtherElements(t *testing.T) {
	b := notBits()
	got, ok := impl.PutBits(b, 1, 2)
	if !slices.Equal(got, append(slices.Clone(b), 0, 1)) || !ok {
		t.Errorf("PutBits(%v, 1, 2) = %v, %v", b, got, ok)
	}
	checkNotPut(t, b, bitField{2, 1})
}

func TestPutBitsSharesNoMemory(t *testing.T) {
	backing := slices.Repeat([]int{1, 0, 0}, 30)
	before := slices.Clone(backing)
	for size := range 40 {
		for _, f := range []bitField{{0, 0}, {3, 2}, {0, 32}, {1<<32 - 1, 32}, {-1, 4}, {4, 2}, {0, 33}} {
			got, _ := impl.PutBits(backing[:size], f.n, f.w)
			got = got[:cap(got)]
			for i := range got {
				got[i] = 7
			}
			if !slices.Equal(backing, before) {
				t.Fatalf("PutBits of %d bits, %d, %d: the argument became %v", size, f.n, f.w, backing)
			}
		}
	}
}

func TestPutBitsTwiceOnTheSameBits(t *testing.T) {
	b := make([]int, 3, 100)
	first, _ := impl.PutBits(b, 5, 3)
	second, _ := impl.PutBits(b, 2, 3)
	third, _ := impl.PutBits(first, 0, 4)
	fourth, _ := impl.PutBits(first, 15, 4)
	for _, c := range []struct {
		got  []int
		want string
	}{{b, "000"}, {first, "000101"}, {second, "000010"}, {third, "0001010000"}, {fourth, "0001011111"}} {
		if bitDigits(c.got) != c.want {
			t.Errorf("%s, want %s", bitDigits(c.got), c.want)
		}
	}
}

func TestStoppedFillsTheLastByte(t *testing.T) {
	for digits, want := range map[string]string{
		"":                 "\x80",
		"0":                "\x40",
		"1":                "\xc0",
		"10101":            "\xac",
		"000000":           "\x02",
		"111111":           "\xfe",
		"0000000":          "\x01",
		"1111111":          "\xff",
		"1010000":          "\xa1",
		"00000000":         "\x00\x80",
		"11111111":         "\xff\x80",
		"00000001":         "\x01\x80",
		"10000000":         "\x80\x80",
		"100000000":        "\x80\x40",
		"100000001111111":  "\x80\xff",
		"1000000010000000": "\x80\x80\x80",
	} {
		if got := impl.Stopped(bitsFrom(digits)); got != want {
			t.Errorf("Stopped(%s) = %q, want %q", digits, got, want)
		}
	}
	if got := impl.Stopped(nil); got != "\x80" {
		t.Errorf("Stopped(nil) = %q", got)
	}
}

func TestBitsThatFillAByteExactly(t *testing.T) {
	for _, s := range append(stringsOver(allBytes(), 1), longString(), strings.Repeat("\x00", 50), strings.Repeat("\x80", 50), strings.Repeat("\xff", 50)) {
		b := impl.BitsOf(s)
		got := impl.Stopped(b)
		if got != s+"\x80" {
			t.Fatalf("Stopped of the bits of %q = %q", s, got)
		}
		if er := impl.StopOk(impl.Reader{S: got, At: len(b)}); er != impl.ErNone {
			t.Errorf("StopOk at the end of %q = %d", s, er)
		}
		if er := impl.StopOk(impl.Reader{S: s, At: len(b)}); er != impl.ErShort {
			t.Errorf("StopOk at the end of %q without a stop = %d", s, er)
		}
	}
}

func TestStoppedRejectsOtherElements(t *testing.T) {
	for size := 1; size <= 25; size++ {
		for i := range size {
			for _, element := range notBits() {
				b := make([]int, size)
				b[i] = element
				if got := impl.Stopped(b); got != "" {
					t.Errorf("Stopped(%v) = %q, want the empty string", b, got)
				}
			}
		}
	}
}

func TestStoppedTakesMoreThanMaxBits(t *testing.T) {
	for _, size := range []int{impl.MaxBits - 1, impl.MaxBits, impl.MaxBits + 1, impl.MaxBits + 15} {
		b := slices.Repeat([]int{1}, size)
		got := impl.Stopped(b)
		if len(got) != size/8+1 || impl.StopOk(impl.Reader{S: got, At: size}) != impl.ErNone {
			t.Errorf("Stopped of %d bits has %d bytes", size, len(got))
		}
	}
}

func TestStoppedLeavesArgumentAlone(t *testing.T) {
	backing := slices.Repeat([]int{1, 0}, 30)
	before := slices.Clone(backing)
	for size := range len(backing) {
		impl.Stopped(backing[:size])
	}
	if !slices.Equal(backing, before) {
		t.Errorf("the argument became %v", backing)
	}
}

func TestStoppedEndsWhereItsBitsEndAndNowhereElse(t *testing.T) {
	for _, b := range append(bitLists(12), impl.BitsOf(longString()), slices.Repeat([]int{0}, 99), slices.Repeat([]int{1}, 99)) {
		s := impl.Stopped(b)
		size := 8 * len(s)
		if size <= len(b) || size > len(b)+8 || !slices.Equal(impl.BitsOf(s)[:min(len(b), size)], b) {
			t.Fatalf("Stopped(%s) = %q", bitDigits(b), s)
		}
		for at := range size + 1 {
			want := impl.ErTail
			if at == len(b) {
				want = impl.ErNone
			} else if at == size {
				want = impl.ErShort
			}
			if got := impl.StopOk(impl.Reader{S: s, At: at}); got != want {
				t.Fatalf("StopOk at %d of Stopped(%s) = %d, want %d", at, bitDigits(b), got, want)
			}
		}
	}
}

func TestLongerStringsDoNotEndThere(t *testing.T) {
	for _, b := range bitLists(10) {
		s := impl.Stopped(b)
		for _, more := range []string{"\x00", "\x01", "\x80", "\xff", "\x00\x00", "\x80\x80", strings.Repeat("\x00", 30)} {
			if got := impl.StopOk(impl.Reader{S: s + more, At: len(b)}); got != impl.ErTail {
				t.Fatalf("StopOk at %d of %q = %d, want ErTail", len(b), s+more, got)
			}
		}
		if got := impl.StopOk(impl.Reader{S: s[:len(s)-1], At: len(b)}); got != impl.ErShort {
			t.Fatalf("StopOk at %d of %q = %d, want ErShort", len(b), s[:len(s)-1], got)
		}
	}
}

// stopWanted is StopOk's definition on the digits of the bits that are left.
func stopWanted(digits string) int {
	switch {
	case digits == "":
		return impl.ErShort
	case len(digits) <= 8 && digits == "1"+strings.Repeat("0", len(digits)-1):
		return impl.ErNone
	}
	return impl.ErTail
}

func TestStopOkOfShortStrings(t *testing.T) {
	strs := append(stringsOver(allBytes(), 2), stringsOver([]byte{0, 1, 0x40, 0x80, 0xff}, 4)...)
	for _, s := range strs {
		digits := bitDigits(impl.BitsOf(s))
		for at := range len(digits) + 1 {
			r := impl.Reader{S: s, At: at}
			if got, want := impl.StopOk(r), stopWanted(digits[at:]); got != want {
				t.Fatalf("StopOk(%#v) = %d, want %d", r, got, want)
			}
		}
	}
}

func TestStopOkAtMostEightBits(t *testing.T) {
	for left := 1; left <= 40; left++ {
		size := (left + 7) / 8
		digits := strings.Repeat("0", 8*size-left) + "1" + strings.Repeat("0", left-1)
		s, _ := impl.BytesOf(bitsFrom(digits))
		want := impl.ErNone
		if left > 8 {
			want = impl.ErTail
		}
		if got := impl.StopOk(impl.Reader{S: s, At: 8*size - left}); got != want {
			t.Errorf("StopOk of a 1 and %d bits 0 = %d, want %d", left-1, got, want)
		}
	}
}

func TestStopOkOfInvalidReaders(t *testing.T) {
	for _, s := range append(readerStrings(), "\x80", "\x80\x80", "\x01\x80") {
		for _, at := range placesOutside(s) {
			r := impl.Reader{S: s, At: at}
			if got := impl.StopOk(r); got != impl.ErShort {
				t.Errorf("StopOk(%#v) = %d, want ErShort", r, got)
			}
		}
	}
}

// written puts the fields one after another and stops them.
func written(t *testing.T, fields []bitField) (string, int) {
	t.Helper()
	var b []int
	for _, f := range fields {
		longer, ok := impl.PutBits(b, f.n, f.w)
		if !ok || len(longer) != len(b)+f.w {
			t.Fatalf("PutBits of %d bits, %d, %d = %d bits, %v", len(b), f.n, f.w, len(longer), ok)
		}
		b = longer
	}
	return impl.Stopped(b), len(b)
}

func TestWhatIsWrittenIsRead(t *testing.T) {
	all := bitFields()
	for first := range all {
		fields := append(slices.Clone(all[first:]), all[:first%17]...)
		s, size := written(t, fields)
		r := impl.Reader{S: s}
		for _, f := range fields {
			next, v, ok := impl.ReadBits(r, f.w)
			if v != f.n || !ok {
				t.Fatalf("at %d, %d bits are read as %d, %v, want %d", r.At, f.w, v, ok, f.n)
			}
			r = next
		}
		if r.At != size || impl.StopOk(r) != impl.ErNone {
			t.Errorf("after the fields the reader is at %d of %d bits, StopOk = %d", r.At, size, impl.StopOk(r))
		}
	}
}

func TestWhatIsWrittenIsTakenFromACache(t *testing.T) {
	fields := slices.DeleteFunc(bitFields(), func(f bitField) bool { return f.w > impl.MaxPeek })
	s, size := written(t, fields)
	c := impl.CacheNew(s)
	for _, f := range fields {
		next, v, ok := impl.TakeBits(c, f.w)
		if v != f.n || !ok {
			t.Fatalf("at %d, %d bits are taken as %d, %v, want %d", impl.PlaceIn(c), f.w, v, ok, f.n)
		}
		c = next
	}
	if at := impl.PlaceIn(c); at != size || impl.StopOk(impl.Reader{S: s, At: at}) != impl.ErNone {
		t.Errorf("after the fields the cache is at %d of %d bits", at, size)
	}
}
