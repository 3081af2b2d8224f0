package tests

import (
	"math"
	"slices"
	"strconv"
	"strings"
	"testing"

	"loop.example/g01613/impl"
)

// notUe are the numbers that have no code.
func notUe() []int {
	return []int{-1, -2, -3, -65535, math.MinInt, math.MinInt + 1, impl.MaxUe + 1, impl.MaxUe + 2, 1 << 16, 1 << 17, 1<<24 - 2, 1<<24 - 1, 1<<32 - 1, 1 << 32, 1 << 48, math.MaxInt - 1, math.MaxInt}
}

// ueDigits is UeBits' definition, written as digits.
func ueDigits(n int) string {
	binary := strconv.FormatInt(int64(n)+1, 2)
	return strings.Repeat("0", len(binary)-1) + binary
}

// ueWanted is ReadUe's definition on the digits from the reader on: the number of bits read, the number and the error.
func ueWanted(digits string) (int, int, int) {
	zeros := len(digits) - len(strings.TrimLeft(digits, "0"))
	size := 2*zeros + 1
	switch {
	case zeros > 15:
		return 0, 0, impl.ErCode
	case size > len(digits):
		return 0, 0, impl.ErShort
	}
	v, _ := strconv.ParseInt(digits[:size], 2, 64)
	return size, int(v) - 1, impl.ErNone
}

// readerBefore returns a reader that has exactly these digits left, with bits before it that are 1.
func readerBefore(digits string) impl.Reader {
	before := (8-len(digits)%8)%8 + 8
	s, _ := impl.BytesOf(bitsFrom(strings.Repeat("1", before) + digits))
	return impl.Reader{S: s, At: before}
}

func checkUeRead(t *testing.T, r impl.Reader, size int, n int) {
	t.Helper()
	want := impl.Reader{S: r.S, At: r.At + size}
	if got, v, er := impl.ReadUe(r); got != want || v != n || er != impl.ErNone {
		t.Errorf("ReadUe(%#v) = %#v, %d, %d, want %d bits and %d", r, got, v, er, size, n)
	}
}

func checkUeError(t *testing.T, r impl.Reader, want int) {
	t.Helper()
	if got, v, er := impl.ReadUe(r); got != r || v != 0 || er != want {
		t.Errorf("ReadUe(%#v) = %#v, %d, %d, want the reader unchanged, 0 and %d", r, got, v, er, want)
	}
}

// checkUe compares ReadUe with its definition on the digits that the reader has left.
func checkUe(t *testing.T, r impl.Reader, digits string) {
	t.Helper()
	size, n, er := ueWanted(digits)
	if er != impl.ErNone {
		checkUeError(t, r, er)
		return
	}
	checkUeRead(t, r, size, n)
	if got := bitDigits(impl.UeBits(n)); got != digits[:size] {
		t.Errorf("%s is read as %d, whose code is %s", digits[:size], n, got)
	}
}

func TestErWord(t *testing.T) {
	errors := []int{impl.ErNone, impl.ErShort, impl.ErHeader, impl.ErLimit, impl.ErCode, impl.ErCoef, impl.ErTail}
	for e, want := range []string{"none", "short", "header", "limit", "code", "coef", "tail"} {
		if errors[e] != e || impl.ErWord(e) != want {
			t.Errorf("the error %s is %d, ErWord(%d) = %q", want, errors[e], e, impl.ErWord(e))
		}
	}
	for _, e := range []int{-1, -2, -6, -7, 7, 8, 255, 256, 257, 1 << 32, 1<<32 + 1, math.MaxInt, math.MinInt} {
		if got := impl.ErWord(e); got != "" {
			t.Errorf("ErWord(%d) = %q, want the empty string", e, got)
		}
	}
}

func TestUeBitsOfSomeNumbers(t *testing.T) {
	for n, want := range map[int]string{
		0:     "1",
		1:     "010",
		2:     "011",
		3:     "00100",
		4:     "00101",
		6:     "00111",
		7:     "0001000",
		14:    "0001111",
		15:    "000010000",
		254:   "000000011111111",
		255:   "00000000100000000",
		32766: "00000000000000111111111111111",
		32767: "0000000000000001000000000000000",
		65534: "0000000000000001111111111111111",
	} {
		if got := bitDigits(impl.UeBits(n)); got != want {
			t.Errorf("UeBits(%d) = %s, want %s", n, got, want)
		}
	}
}

func TestUeBitsOfEachNumber(t *testing.T) {
	if impl.MaxUe != 65534 || impl.MaxZeros != 15 {
		t.Fatalf("MaxUe = %d, MaxZeros = %d", impl.MaxUe, impl.MaxZeros)
	}
	for n := range impl.MaxUe + 1 {
		want := ueDigits(n)
		if got := bitDigits(impl.UeBits(n)); got != want || impl.UeSize(n) != len(want) {
			t.Fatalf("UeBits(%d) = %s, UeSize %d, want %s", n, got, impl.UeSize(n), want)
		}
	}
}

func TestUeBitsOfOtherNumbers(t *testing.T) {
	for _, n := range notUe() {
		if got := impl.UeBits(n); len(got) != 0 || impl.UeSize(n) != 0 {
			t.Errorf("UeBits(%d) = %s, UeSize %d, want none", n, bitDigits(got), impl.UeSize(n))
		}
	}
}

func TestUeBitsAreNewEachTime(t *testing.T) {
	for _, n := range []int{0, 1, 3, impl.MaxUe} {
		b := impl.UeBits(n)
		for i := range b {
			b[i] = 7
		}
		if got := bitDigits(impl.UeBits(n)); got != ueDigits(n) {
			t.Errorf("UeBits(%d) = %s after the first result was changed", n, got)
		}
	}
}

func TestReadUeOfEachNumberWhateverFollows(t *testing.T) {
	follows := []string{"", "0", "1", "01", "0000000", "1111111", strings.Repeat("0", 40), strings.Repeat("1", 40), "0010110111"}
	for n := range impl.MaxUe + 1 {
		code := bitDigits(impl.UeBits(n))
		// Every number meets some of what follows, and every eighth all of it.
		for i := n % 8; i < len(follows); i += n%8 + 1 {
			checkUeRead(t, readerBefore(code+follows[i]), len(code), n)
		}
		if t.Failed() {
			t.FailNow()
		}
	}
}

func TestReadUeAtEachPositionInAByte(t *testing.T) {
	for _, n := range []int{0, 1, 2, 3, 6, 7, 100, 254, 255, 256, 32766, 32767, 32768, 65533, 65534} {
		code := ueDigits(n)
		for before := range 20 {
			for _, bit := range []string{"0", "1"} {
				digits := strings.Repeat(bit, before) + code
				s := impl.Stopped(bitsFrom(digits))
				checkUeRead(t, impl.Reader{S: s, At: before}, len(code), n)
			}
		}
	}
}

func TestReadUeOfCodesInARow(t *testing.T) {
	for _, step := range []int{1, -1, 7919} {
		var b []int
		n := 0
		for range 3000 {
			b = append(b, impl.UeBits(n)...)
			n = (n + step + impl.MaxUe + 1) % (impl.MaxUe + 1)
		}
		r := impl.Reader{S: impl.Stopped(b)}
		n = 0
		for range 3000 {
			next, v, er := impl.ReadUe(r)
			if v != n || er != impl.ErNone {
				t.Fatalf("at %d, %d is read as %d, error %d", r.At, n, v, er)
			}
			r = next
			n = (n + step + impl.MaxUe + 1) % (impl.MaxUe + 1)
		}
		if r.At != len(b) || impl.StopOk(r) != impl.ErNone {
			t.Errorf("after the codes the reader is at %d of %d bits", r.At, len(b))
		}
	}
}

func TestReadUeOfShortStrings(t *testing.T) {
	strs := append(stringsOver(allBytes(), 2), stringsOver([]byte{0, 1, 2, 0x80, 0xff}, 5)...)
	for _, s := range append(strs, longString()) {
		digits := bitDigits(impl.BitsOf(s))
		for at := range len(digits) + 1 {
			checkUe(t, impl.Reader{S: s, At: at}, digits[at:])
		}
		if t.Failed() {
			t.FailNow()
		}
	}
}

func TestReadUeOfCutCodes(t *testing.T) {
	for _, n := range []int{0, 1, 2, 3, 6, 7, 100, 254, 255, 32766, 32767, 32768, 50000, 65533, 65534} {
		code := ueDigits(n)
		for size := range len(code) {
			checkUeError(t, readerBefore(code[:size]), impl.ErShort)
		}
	}
}

func TestSixteenLeadingZeros(t *testing.T) {
	follows := []string{"", "1", "10", strings.Repeat("1", 16), strings.Repeat("1", 17), "1" + strings.Repeat("0", 16), strings.Repeat("10", 40)}
	for _, zeros := range []int{16, 17, 18, 23, 24, 31, 32, 33, 47, 48, 63, 64, 65, 300} {
		for _, more := range follows {
			checkUeError(t, readerBefore(strings.Repeat("0", zeros)+more), impl.ErCode)
		}
	}
}

func TestFifteenLeadingZeros(t *testing.T) {
	zeros := strings.Repeat("0", 15)
	for size := range 16 {
		checkUeError(t, readerBefore((zeros + "1" + strings.Repeat("1", 15))[:15+size]), impl.ErShort)
	}
	checkUeRead(t, readerBefore(zeros+"1"+zeros), 31, 32767)
	checkUeRead(t, readerBefore(zeros+strings.Repeat("1", 16)), 31, 65534)
	checkUeRead(t, readerBefore(zeros+strings.Repeat("1", 16)+strings.Repeat("0", 33)), 31, 65534)
}

func TestReadUeAtTheEnd(t *testing.T) {
	for _, s := range append(readerStrings(), longString()) {
		checkUeError(t, impl.Reader{S: s, At: 8 * len(s)}, impl.ErShort)
	}
}

func TestReadUeOfInvalidReaders(t *testing.T) {
	for _, s := range append(readerStrings(), strings.Repeat("\x00", 30), strings.Repeat("\xff", 30)) {
		for _, at := range placesOutside(s) {
			checkUeError(t, impl.Reader{S: s, At: at}, impl.ErShort)
		}
	}
}

func TestLevelsAlternate(t *testing.T) {
	for n, want := range []int{1, -1, 2, -2, 3, -3, 4, -4} {
		if got := impl.LevelOf(n); got != want {
			t.Errorf("LevelOf(%d) = %d, want %d", n, got, want)
		}
	}
	for v := 1; v <= 40000; v++ {
		if impl.LevelOf(2*v-2) != v || impl.LevelOf(2*v-1) != -v {
			t.Fatalf("LevelOf(%d) = %d, LevelOf(%d) = %d", 2*v-2, impl.LevelOf(2*v-2), 2*v-1, impl.LevelOf(2*v-1))
		}
	}
}

func TestLevelOfNegativeNumbers(t *testing.T) {
	for _, n := range []int{-1, -2, -3, -4, -1 << 32, -1 << 62, math.MinInt + 1, math.MinInt} {
		if got := impl.LevelOf(n); got != 0 {
			t.Errorf("LevelOf(%d) = %d, want 0", n, got)
		}
	}
}

func TestNumOfLevelInvertsLevelOf(t *testing.T) {
	most := []int{1<<32 - 1, 1 << 32, 1<<62 - 1, 1 << 62, math.MaxInt - 3, math.MaxInt - 2, math.MaxInt - 1, math.MaxInt}
	for n := range 100000 {
		most = append(most, n)
	}
	for _, n := range most {
		v := impl.LevelOf(n)
		if v == 0 || impl.NumOfLevel(v) != n {
			t.Fatalf("LevelOf(%d) = %d, NumOfLevel(%d) = %d", n, v, v, impl.NumOfLevel(v))
		}
	}
}

func TestLevelsOfTheLargestNumbers(t *testing.T) {
	if got := impl.LevelOf(math.MaxInt); got != -1<<62 {
		t.Errorf("LevelOf(MaxInt) = %d", got)
	}
	if got := impl.LevelOf(math.MaxInt - 1); got != 1<<62 {
		t.Errorf("LevelOf(MaxInt - 1) = %d", got)
	}
}

func TestNumOfLevel(t *testing.T) {
	for v, want := range map[int]int{
		0:                 -1,
		1:                 0,
		-1:                1,
		2:                 2,
		-2:                3,
		2047:              4092,
		-2047:             4093,
		1 << 62:           math.MaxInt - 1,
		-1 << 62:          math.MaxInt,
		1<<62 + 1:         math.MinInt,
		-1<<62 - 1:        math.MinInt + 1,
		1<<62 + 2:         math.MinInt + 2,
		math.MaxInt - 1:   -6,
		math.MaxInt:       -4,
		math.MinInt:       -1,
		math.MinInt + 1:   -3,
		math.MinInt + 2:   -5,
		-1<<32 - 1:        1<<33 + 1,
		1 << 32:           1<<33 - 2,
		math.MaxInt/2 - 1: math.MaxInt - 5,
	} {
		if got := impl.NumOfLevel(v); got != want {
			t.Errorf("NumOfLevel(%d) = %d, want %d", v, got, want)
		}
	}
}

func TestUeCodesOfLevels(t *testing.T) {
	var b []int
	levels := []int{1, -1, 2, -2, 3, 100, -100, 2047, -2047, 2048, -2048, 32767, -32767, 32768}
	for _, v := range levels {
		b = slices.Concat(b, impl.UeBits(impl.NumOfLevel(v)))
	}
	r := impl.Reader{S: impl.Stopped(b)}
	for _, v := range levels {
		next, n, er := impl.ReadUe(r)
		if impl.LevelOf(n) != v || er != impl.ErNone {
			t.Errorf("the level %d is read as %d, error %d", v, impl.LevelOf(n), er)
		}
		r = next
	}
	for _, v := range []int{0, -32768, 32769, math.MaxInt, 1<<62 + 1} {
		if got := impl.UeSize(impl.NumOfLevel(v)); got != 0 {
			t.Errorf("the level %d has a code of %d bits", v, got)
		}
	}
}
