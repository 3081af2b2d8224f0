package tests

import (
	"math"
	"strconv"
	"strings"
	"testing"

	"loop.example/g01613/impl"
)

// cacheStrings are short enough to try every cache; the longest have more bytes than a cache holds.
func cacheStrings() []string {
	return []string{"", "\x00", "\x80", "\xff", "\x0f\x80\x01", "\xa5\x3c\x00\x00\x01\x80\x7e", "\xa5\x3c\x00\x00\x01\x80\x7e\x99\xc3\xff", strings.Repeat("\x00", 9), strings.Repeat("\xff", 9)}
}

func numberOf(digits string) int {
	if digits == "" {
		return 0
	}
	n, err := strconv.ParseUint(digits, 2, 63)
	if err != nil {
		panic(err)
	}
	return int(n)
}

// cacheAt expects that the string has this cache, which holds bits of at most 7 bytes.
func cacheAt(s string, pos, have int) impl.Cache {
	digits := bitDigits(impl.BitsOf(s[max(pos-7, 0):pos]))
	return impl.Cache{S: s, Pos: pos, Word: numberOf(digits[len(digits)-have:]), Have: have}
}

// cachesOf are all valid caches of a string.
func cachesOf(s string) []impl.Cache {
	var all []impl.Cache
	for pos := range len(s) + 1 {
		for have := range min(56, 8*pos) + 1 {
			all = append(all, cacheAt(s, pos, have))
		}
	}
	return all
}

// notCaches differ from valid caches in one number, or hold one bit too many.
func notCaches() []impl.Cache {
	var all []impl.Cache
	for _, s := range cacheStrings() {
		size := len(s)
		for _, pos := range []int{-1, -8, size + 1, size + 7, math.MaxInt, math.MaxInt/8 + 1, math.MinInt, math.MinInt / 8} {
			all = append(all, impl.Cache{S: s, Pos: pos}, impl.Cache{S: s, Pos: pos, Have: 8})
		}
		for pos := range size + 1 {
			for _, have := range []int{-1, -8, 8*pos + 1, 8*pos + 8, 57, 63, 64, 65, math.MaxInt, math.MinInt} {
				all = append(all, impl.Cache{S: s, Pos: pos, Have: have})
			}
		}
		for _, c := range cachesOf(s) {
			for _, word := range []int{c.Word + 1, c.Word - 1, c.Word + 1<<c.Have, c.Word ^ 1<<max(c.Have-1, 0), ^c.Word, c.Word | math.MinInt} {
				all = append(all, impl.Cache{S: s, Pos: c.Pos, Word: word, Have: c.Have})
			}
		}
	}
	ones := strings.Repeat("\xff", 9)
	return append(all, impl.Cache{S: ones, Pos: 8, Word: 1<<57 - 1, Have: 57}, impl.Cache{S: ones, Pos: 9, Word: 1<<62 - 1, Have: 62}, impl.Cache{S: ones, Pos: 8, Word: -1, Have: 64})
}

// filled is the cache from which n bits are read: it takes in bytes only if it holds fewer.
func filled(c impl.Cache, n int) impl.Cache {
	if c.Have >= n {
		return c
	}
	more := min(len(c.S)-c.Pos, (56-c.Have)/8)
	return cacheAt(c.S, c.Pos+more, c.Have+8*more)
}

func TestCacheNewHoldsNothing(t *testing.T) {
	for _, s := range cacheStrings() {
		c := impl.CacheNew(s)
		if c != (impl.Cache{S: s}) || !impl.CacheOk(c) || impl.PlaceIn(c) != 0 {
			t.Errorf("CacheNew(%q) = %#v, at %d", s, c, impl.PlaceIn(c))
		}
	}
}

func TestCachePlace(t *testing.T) {
	for _, s := range cacheStrings() {
		for _, c := range cachesOf(s) {
			if !impl.CacheOk(c) {
				t.Errorf("CacheOk(%#v) = false", c)
			}
			if got, want := impl.PlaceIn(c), 8*c.Pos-c.Have; got != want {
				t.Errorf("PlaceIn(%#v) = %d, want %d", c, got, want)
			}
		}
	}
}

func TestCacheHoldsAtMostFiftySixBits(t *testing.T) {
	s := strings.Repeat("\xff", 10)
	full := impl.Cache{S: s, Pos: 9, Word: 1<<56 - 1, Have: 56}
	if !impl.CacheOk(full) || impl.PlaceIn(full) != 16 {
		t.Errorf("56 bits are refused: %#v", full)
	}
	if got := impl.Refill(full); got != full {
		t.Errorf("Refill of 56 bits = %#v", got)
	}
	if impl.CacheOk(impl.Cache{S: s, Pos: 9, Word: 1<<57 - 1, Have: 57}) {
		t.Error("57 bits are accepted")
	}
	for have, want := range map[int]int{47: 55, 48: 56, 49: 49, 55: 55} {
		if got := impl.Refill(cacheAt(s, 8, have)); got.Have != want {
			t.Errorf("Refill of %d bits holds %d, want %d", have, got.Have, want)
		}
	}
}

func TestRefillStaysInPlace(t *testing.T) {
	for _, s := range cacheStrings() {
		for _, c := range cachesOf(s) {
			got := impl.Refill(c)
			if got != filled(c, 57) {
				t.Errorf("Refill(%#v) = %#v, want %#v", c, got, filled(c, 57))
			}
			if !impl.CacheOk(got) || impl.PlaceIn(got) != impl.PlaceIn(c) {
				t.Errorf("Refill(%#v) is at %d", c, impl.PlaceIn(got))
			}
		}
	}
}

func TestSettleHoldsRestOfByte(t *testing.T) {
	for _, s := range cacheStrings() {
		for _, c := range cachesOf(s) {
			place := impl.PlaceIn(c)
			pos := (place + 7) / 8
			if got, want := impl.Settle(c), cacheAt(s, pos, 8*pos-place); got != want {
				t.Errorf("Settle(%#v) = %#v, want %#v", c, got, want)
			}
		}
	}
}

func TestCacheYieldsBitsFromItsPlace(t *testing.T) {
	for _, s := range cacheStrings() {
		digits := bitDigits(impl.BitsOf(s))
		for _, c := range cachesOf(s) {
			for n := range impl.MaxPeek + 1 {
				checkYield(t, c, n, digits[impl.PlaceIn(c):])
			}
		}
	}
}

// checkYield compares Peek, Skip and TakeBits with the bits that are left, written as digits.
func checkYield(t *testing.T, c impl.Cache, n int, left string) {
	t.Helper()
	padded := numberOf((left + strings.Repeat("0", n))[:n])
	held := filled(c, n)
	if got, v := impl.Peek(c, n); got != held || v != padded || impl.PlaceIn(got) != impl.PlaceIn(c) {
		t.Errorf("Peek(%#v, %d) = %#v, %d, want %#v, %d", c, n, got, v, held, padded)
	}
	want, value, enough := held, 0, n <= len(left)
	if enough {
		want, value = cacheAt(c.S, held.Pos, held.Have-n), padded
	}
	if got, ok := impl.Skip(c, n); got != want || ok != enough {
		t.Errorf("Skip(%#v, %d) = %#v, %v, want %#v, %v", c, n, got, ok, want, enough)
	}
	if got, v, ok := impl.TakeBits(c, n); got != want || v != value || ok != enough {
		t.Errorf("TakeBits(%#v, %d) = %#v, %d, %v, want %#v, %d, %v", c, n, got, v, ok, want, value, enough)
	}
}

func TestEndInsideCachedWord(t *testing.T) {
	s := "\x00\xff\xb6"
	c := impl.Cache{S: s, Pos: 3, Word: 0b10110, Have: 5}
	if got, v := impl.Peek(c, 5); got != c || v != 0b10110 {
		t.Errorf("Peek of the last 5 bits = %#v, %d", got, v)
	}
	if got, v := impl.Peek(c, 16); got != c || v != 0b10110<<11 {
		t.Errorf("Peek of 11 bits too many = %#v, %d", got, v)
	}
	end := impl.Cache{S: s, Pos: 3}
	if got, ok := impl.Skip(c, 5); got != end || !ok {
		t.Errorf("Skip of the last 5 bits = %#v, %v", got, ok)
	}
	if got, ok := impl.Skip(c, 6); got != c || ok {
		t.Errorf("Skip of one bit too many = %#v, %v", got, ok)
	}
	if got, v, ok := impl.TakeBits(c, 5); got != end || v != 0b10110 || !ok {
		t.Errorf("TakeBits of the last 5 bits = %#v, %d, %v", got, v, ok)
	}
	if got, v, ok := impl.TakeBits(c, 6); got != c || v != 0 || ok {
		t.Errorf("TakeBits of one bit too many = %#v, %d, %v", got, v, ok)
	}
	if got, v := impl.Peek(end, 1); got != end || v != 0 {
		t.Errorf("Peek at the end = %#v, %d", got, v)
	}
}

func TestTooFewBitsLeaveRefilledCache(t *testing.T) {
	c := impl.CacheNew("\xc3")
	full := impl.Cache{S: "\xc3", Pos: 1, Word: 0xc3, Have: 8}
	if got, ok := impl.Skip(c, 9); got != full || ok {
		t.Errorf("Skip of 9 of 8 bits = %#v, %v", got, ok)
	}
	if got, v, ok := impl.TakeBits(c, 9); got != full || v != 0 || ok {
		t.Errorf("TakeBits of 9 of 8 bits = %#v, %d, %v", got, v, ok)
	}
}

func TestCacheRestoresString(t *testing.T) {
	for _, s := range append(cacheStrings(), longString()) {
		for size := 1; size <= impl.MaxPeek; size++ {
			var b []int
			c := impl.CacheNew(s)
			for left := 8 * len(s); left > 0; {
				n := min(size, left)
				next, v, ok := impl.TakeBits(c, n)
				left -= n
				if !ok || impl.PlaceIn(next) != 8*len(s)-left {
					t.Fatalf("TakeBits(%#v, %d) = %#v, %v", c, n, next, ok)
				}
				b = append(b, impl.BitsIn(v, n)...)
				c = next
				if left%3 == 0 {
					c = impl.Settle(c)
				}
			}
			if got, ok := impl.BytesOf(b); got != s || !ok {
				t.Errorf("in parts of %d bits, %q becomes %q, %v", size, s, got, ok)
			}
		}
	}
}

func TestNotCaches(t *testing.T) {
	for _, c := range notCaches() {
		if impl.CacheOk(c) || impl.PlaceIn(c) != -1 {
			t.Errorf("%#v: CacheOk %v, PlaceIn %d", c, impl.CacheOk(c), impl.PlaceIn(c))
		}
		if got := impl.Refill(c); got != c {
			t.Errorf("Refill(%#v) = %#v", c, got)
		}
		if got := impl.Settle(c); got != c {
			t.Errorf("Settle(%#v) = %#v", c, got)
		}
		for _, n := range []int{0, 1, 9, 16} {
			checkYieldsNothing(t, c, n)
		}
	}
}

func TestAtMostSixteenBitsAtOnce(t *testing.T) {
	s := longString()
	for _, c := range []impl.Cache{impl.CacheNew(s), cacheAt(s, 5, 3), cacheAt(s, 9, 56), cacheAt(s, len(s), 20), impl.CacheNew("")} {
		for _, n := range []int{17, 18, 32, 63, 64, 65, math.MaxInt, -1, -2, -16, -17, math.MinInt} {
			checkYieldsNothing(t, c, n)
		}
	}
}

func checkYieldsNothing(t *testing.T, c impl.Cache, n int) {
	t.Helper()
	if got, v := impl.Peek(c, n); got != c || v != 0 {
		t.Errorf("Peek(%#v, %d) = %#v, %d", c, n, got, v)
	}
	if got, ok := impl.Skip(c, n); got != c || ok {
		t.Errorf("Skip(%#v, %d) = %#v, %v", c, n, got, ok)
	}
	if got, v, ok := impl.TakeBits(c, n); got != c || v != 0 || ok {
		t.Errorf("TakeBits(%#v, %d) = %#v, %d, %v", c, n, got, v, ok)
	}
}
