package tests

import (
	"math"
	"strings"
	"testing"

	"loop.example/g01613/impl"
)

// readerStrings are short enough to read them from every position with every number of bits.
func readerStrings() []string {
	return []string{"", "\x00", "\x01", "\x80", "\xff", "\x0f\x80", "\x00\x00", "\x00\x01", "\x80\x01", "\xa5\x3c\x00\x00\x00\x00\x7e\x99\xc3", strings.Repeat("\x00", 9), strings.Repeat("\xff", 9)}
}

// placesOutside are the positions that no reader of this string has.
func placesOutside(s string) []int {
	size := 8 * len(s)
	return []int{-1, -7, -8, -9, -size - 1, math.MinInt, math.MinInt + 1, size + 1, size + 7, size + 8, 8*size + 9, math.MaxInt - 1, math.MaxInt}
}

func checkRefused(t *testing.T, r impl.Reader, n int) {
	t.Helper()
	if got, v, ok := impl.ReadBits(r, n); got != r || v != 0 || ok {
		t.Errorf("ReadBits(%#v, %d) = %#v, %d, %v, want the reader unchanged, 0 and false", r, n, got, v, ok)
	}
}

func TestReaderInside(t *testing.T) {
	for _, s := range readerStrings() {
		for at := range 8*len(s) + 1 {
			r := impl.Reader{S: s, At: at}
			if !impl.ReaderOk(r) {
				t.Errorf("ReaderOk(%#v) = false", r)
			}
			if got, want := impl.Left(r), 8*len(s)-at; got != want {
				t.Errorf("Left(%#v) = %d, want %d", r, got, want)
			}
		}
	}
}

func TestReaderOutside(t *testing.T) {
	for _, s := range readerStrings() {
		for _, at := range placesOutside(s) {
			r := impl.Reader{S: s, At: at}
			if impl.ReaderOk(r) {
				t.Errorf("ReaderOk(%#v) = true", r)
			}
			if got := impl.Left(r); got != 0 {
				t.Errorf("Left(%#v) = %d, want 0", r, got)
			}
			if got := impl.ZerosAhead(r); got != 0 {
				t.Errorf("ZerosAhead(%#v) = %d, want 0", r, got)
			}
			for _, n := range []int{0, 1, 8, 32, 33, -1, math.MaxInt, math.MinInt} {
				checkRefused(t, r, n)
			}
		}
	}
}

func TestEmptyBitStream(t *testing.T) {
	r := impl.Reader{}
	if !impl.ReaderOk(r) || impl.Left(r) != 0 || impl.ZerosAhead(r) != 0 {
		t.Errorf("the empty stream: ReaderOk %v, Left %d, ZerosAhead %d", impl.ReaderOk(r), impl.Left(r), impl.ZerosAhead(r))
	}
	if got, v, ok := impl.ReadBits(r, 0); got != r || v != 0 || !ok {
		t.Errorf("ReadBits of no bits = %#v, %d, %v", got, v, ok)
	}
	for _, n := range []int{1, 2, 8, 32, 33, -1, math.MaxInt, math.MinInt} {
		checkRefused(t, r, n)
	}
}

func TestReadBitsAgreesWithBitsOf(t *testing.T) {
	for _, s := range readerStrings() {
		b := impl.BitsOf(s)
		for at := range len(b) + 1 {
			r := impl.Reader{S: s, At: at}
			for n := range 33 {
				if at+n > len(b) {
					checkRefused(t, r, n)
					continue
				}
				want, _ := impl.NumOf(b[at : at+n])
				got, v, ok := impl.ReadBits(r, n)
				if got.S != s || got.At != at+n || v != want || !ok {
					t.Errorf("ReadBits(%#v, %d) = %#v, %d, %v, want %d", r, n, got, v, ok, want)
				}
			}
		}
	}
}

func TestReadBitsAtMostThirtyTwo(t *testing.T) {
	r := impl.Reader{S: strings.Repeat("\xff", 40), At: 3}
	if got, v, ok := impl.ReadBits(r, 32); got.S != r.S || got.At != 35 || v != 1<<32-1 || !ok {
		t.Errorf("ReadBits of 32 ones = %#v, %d, %v", got, v, ok)
	}
	for _, n := range []int{33, 34, 48, 63, 64, 65, 317, 318, math.MaxInt, -1, -2, -32, -33, math.MinInt} {
		checkRefused(t, r, n)
	}
}

func TestReadingInPartsEqualsReadingAtOnce(t *testing.T) {
	s := longString()
	for at := 0; at <= 8*len(s)-32; at += 13 {
		r := impl.Reader{S: s, At: at}
		for n := range 33 {
			end, whole, ok := impl.ReadBits(r, n)
			if !ok {
				t.Fatalf("ReadBits at %d of %d bits is refused", at, n)
			}
			for first := range n + 1 {
				middle, high, ok := impl.ReadBits(r, first)
				last, low, also := impl.ReadBits(middle, n-first)
				if !ok || !also || last != end || high<<(n-first)|low != whole {
					t.Fatalf("at %d, %d and %d bits give %d and %d, %d at once", at, first, n-first, high, low, whole)
				}
			}
		}
	}
}

func TestReadingInEqualPartsRestoresString(t *testing.T) {
	for _, s := range append(readerStrings(), longString()) {
		for size := 1; size <= 32; size++ {
			var b []int
			r := impl.Reader{S: s}
			for impl.Left(r) > 0 {
				n := min(size, impl.Left(r))
				next, v, ok := impl.ReadBits(r, n)
				if !ok || next.At != r.At+n {
					t.Fatalf("ReadBits(%#v, %d) = %#v, %v", r, n, next, ok)
				}
				b = append(b, impl.BitsIn(v, n)...)
				r = next
			}
			if got, ok := impl.BytesOf(b); got != s || !ok {
				t.Errorf("in parts of %d bits, %q becomes %q, %v", size, s, got, ok)
			}
		}
	}
}

func TestZerosAheadUpToOneOrEnd(t *testing.T) {
	for _, s := range append(readerStrings(), longString(), strings.Repeat("\x00", 40)+"\x10") {
		digits := bitDigits(impl.BitsOf(s))
		for at := range len(digits) + 1 {
			want := strings.IndexByte(digits[at:], '1')
			if want < 0 {
				want = len(digits) - at
			}
			r := impl.Reader{S: s, At: at}
			if got := impl.ZerosAhead(r); got != want {
				t.Errorf("ZerosAhead at %d of %q = %d, want %d", at, s, got, want)
			}
		}
	}
}
