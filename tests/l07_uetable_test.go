package tests

import (
	"math"
	"slices"
	"strings"
	"testing"

	"loop.example/g01613/impl"
)

// peekDigits are all lists of UePeek bits, in the order of their numbers.
func peekDigits() []string {
	all := []string{""}
	for range impl.UePeek {
		var longer []string
		for _, digits := range all {
			longer = append(longer, digits+"0", digits+"1")
		}
		all = longer
	}
	return all
}

// prefixEntry is UeTable's definition: it tries the code of each number that has at most so many bits.
func prefixEntry(digits string) impl.Entry {
	for n := 0; len(ueDigits(n)) <= len(digits); n++ {
		if code := ueDigits(n); strings.HasPrefix(digits, code) {
			return impl.Entry{Len: len(code), Val: n}
		}
	}
	return impl.Entry{}
}

// sameEntries is a table with the same entry for all numbers of so many bits.
func sameEntries(width int, e impl.Entry) []impl.Entry {
	return slices.Repeat([]impl.Entry{e}, 1<<width)
}

// sameUe is such a table for FastUe.
func sameUe(e impl.Entry) []impl.Entry {
	return sameEntries(impl.UePeek, e)
}

// wrongSizes are no tables for so many bits; their entries would mislead whoever uses them.
func wrongSizes(width int) map[string][]impl.Entry {
	size := 1 << width
	same := sameEntries(width, impl.Entry{Len: 2, Val: 77})
	return map[string][]impl.Entry{
		"nil":                nil,
		"empty":              {},
		"one entry":          same[:1],
		"half":               same[:size/2],
		"one entry too few":  same[:size-1],
		"one entry too many": append(slices.Clone(same), same[0]),
		"twice":              append(slices.Clone(same), same...),
	}
}

// settledCache is the cache that FastUe must leave at a place.
func settledCache(s string, place int) impl.Cache {
	pos := (place + 7) / 8
	return cacheAt(s, pos, 8*pos-place)
}

func checkFastUe(t *testing.T, c impl.Cache, table []impl.Entry, want impl.Cache, n, er int) {
	t.Helper()
	if got, v, e := impl.FastUe(c, table); got != want || v != n || e != er {
		t.Errorf("FastUe(%#v) = %#v, %d, %d, want %#v, %d, %d", c, got, v, e, want, n, er)
	}
}

// checkAgrees compares FastUe with ReadUe at the place of a valid cache.
func checkAgrees(t *testing.T, c impl.Cache, table []impl.Entry) {
	t.Helper()
	r, n, er := impl.ReadUe(impl.Reader{S: c.S, At: impl.PlaceIn(c)})
	want := c
	if er == impl.ErNone {
		want = settledCache(c.S, r.At)
	}
	checkFastUe(t, c, table, want, n, er)
}

// cachesBefore are caches of one string at one place, which hold few bits, many and as many as they can.
func cachesBefore(s string, place int) []impl.Cache {
	few := settledCache(s, place)
	all := []impl.Cache{few, impl.Refill(few)}
	if few.Have <= 48 && few.Pos < len(s) {
		all = append(all, cacheAt(s, few.Pos+1, few.Have+8))
	}
	return all
}

// cacheBefore returns a cache that has exactly these digits left, with bits before it that are 1.
func cacheBefore(digits string) impl.Cache {
	r := readerBefore(digits)
	return settledCache(r.S, r.At)
}

// ueStrings are longer than what a cache holds, or full of zeros.
func ueStrings() []string {
	zeros := strings.Repeat("\x00", 12)
	return []string{longString(), zeros, zeros + "\x01", zeros + "\xff", "\xff\xff" + zeros, strings.Repeat("\x00\x01", 9), strings.Repeat("\x01\x00\xff\xff", 5), strings.Repeat("\x08\x42\x10", 6), strings.Repeat("\x5a", 20)}
}

func TestUeTableOfSomeBits(t *testing.T) {
	if impl.UePeek != 9 {
		t.Fatalf("UePeek = %d", impl.UePeek)
	}
	table := impl.UeTable()
	if len(table) != 512 {
		t.Fatalf("UeTable has %d entries", len(table))
	}
	for digits, want := range map[string]impl.Entry{
		"100000000": {Len: 1, Val: 0},
		"111111111": {Len: 1, Val: 0},
		"010000000": {Len: 3, Val: 1},
		"010111111": {Len: 3, Val: 1},
		"011000000": {Len: 3, Val: 2},
		"001000000": {Len: 5, Val: 3},
		"001111111": {Len: 5, Val: 6},
		"000100000": {Len: 7, Val: 7},
		"000111111": {Len: 7, Val: 14},
		"000010000": {Len: 9, Val: 15},
		"000010001": {Len: 9, Val: 16},
		"000011111": {Len: 9, Val: 30},
		"000001111": {},
		"000001000": {},
		"000000001": {},
		"000000000": {},
	} {
		if got := table[numberOf(digits)]; got != want {
			t.Errorf("the entry of %s is %v, want %v", digits, got, want)
		}
	}
}

func TestUeTableOfAllBits(t *testing.T) {
	table := impl.UeTable()
	for v, digits := range peekDigits() {
		if got, want := table[v], prefixEntry(digits); got != want {
			t.Errorf("the entry of %s is %v, want %v", digits, got, want)
		}
	}
}

func TestUeTableIsNewEachTime(t *testing.T) {
	table := impl.UeTable()
	for i := range table {
		table[i] = impl.Entry{Len: 4, Val: 4}
	}
	if got := impl.UeTable(); got[0] != (impl.Entry{}) || got[511] != (impl.Entry{Len: 1}) || !impl.TableOk(got) {
		t.Error("UeTable has changed with an earlier result")
	}
	if impl.TableOk(table) {
		t.Error("TableOk accepts a table with other entries")
	}
}

func TestTableOkOfOneWrongEntry(t *testing.T) {
	table := impl.UeTable()
	if !impl.TableOk(table) || !impl.TableOk(slices.Clone(table)) {
		t.Fatal("TableOk refuses UeTable")
	}
	for v, e := range table {
		for _, other := range []impl.Entry{{Len: e.Len + 1, Val: e.Val}, {Len: e.Len - 1, Val: e.Val}, {Len: e.Len, Val: e.Val + 1}, {Len: e.Len, Val: e.Val - 1}, {Len: e.Len, Val: math.MaxInt}, {Len: math.MinInt, Val: e.Val}} {
			table[v] = other
			if impl.TableOk(table) {
				t.Errorf("TableOk accepts %v instead of %v at %d", other, e, v)
			}
		}
		table[v] = e
	}
	if !impl.TableOk(table) {
		t.Error("TableOk refuses the restored table")
	}
}

func TestTableOkOfOtherSizes(t *testing.T) {
	table := impl.UeTable()
	for size := range 512 {
		if impl.TableOk(table[:size]) || impl.TableOk(table[512-size:]) {
			t.Errorf("TableOk accepts %d entries", size)
		}
	}
	if impl.TableOk(nil) || impl.TableOk([]impl.Entry{}) || impl.TableOk(append(slices.Clone(table), impl.Entry{})) || impl.TableOk(append(slices.Clone(table), table...)) {
		t.Error("TableOk accepts no entries or too many")
	}
	for name, other := range wrongSizes(impl.UePeek) {
		if impl.TableOk(other) {
			t.Errorf("TableOk accepts the table %s", name)
		}
	}
}

func TestFastUeOfEachNumberWhateverFollows(t *testing.T) {
	table := impl.UeTable()
	follows := []string{"", "0", "1", "01", "1111111", strings.Repeat("0", 40), strings.Repeat("1", 40)}
	for n := range impl.MaxUe + 1 {
		code := bitDigits(impl.UeBits(n))
		for i := n % 7; i < len(follows); i += n%7 + 1 {
			c := cacheBefore(code + follows[i])
			checkFastUe(t, c, table, settledCache(c.S, impl.PlaceIn(c)+len(code)), n, impl.ErNone)
		}
		if t.Failed() {
			t.FailNow()
		}
	}
}

func TestFastUeAgreesInEachCache(t *testing.T) {
	table := impl.UeTable()
	for _, s := range cacheStrings() {
		for _, c := range cachesOf(s) {
			checkAgrees(t, c, table)
		}
	}
	for _, s := range ueStrings() {
		for place := range 8*len(s) + 1 {
			for _, c := range cachesBefore(s, place) {
				checkAgrees(t, c, table)
			}
		}
	}
}

func TestFastUeAgreesOnShortStrings(t *testing.T) {
	table := impl.UeTable()
	for _, s := range append(stringsOver(allBytes(), 2), stringsOver([]byte{0, 1, 2, 0x80, 0xff}, 5)...) {
		checkAgrees(t, impl.CacheNew(s), table)
		for place := range 8*len(s) + 1 {
			checkAgrees(t, settledCache(s, place), table)
		}
		if t.Failed() {
			t.FailNow()
		}
	}
}

func TestFastUeOfCodesInARow(t *testing.T) {
	table := impl.UeTable()
	var b []int
	for i := range 3000 {
		b = append(b, impl.UeBits(i*i%40)...)
		b = append(b, impl.UeBits(i*7919%(impl.MaxUe+1))...)
	}
	c := impl.CacheNew(impl.Stopped(b))
	for i := range 3000 {
		for _, want := range []int{i * i % 40, i * 7919 % (impl.MaxUe + 1)} {
			next, n, er := impl.FastUe(c, table)
			if n != want || er != impl.ErNone {
				t.Fatalf("at %d, %d is read as %d, error %d", impl.PlaceIn(c), want, n, er)
			}
			c = next
		}
	}
	if impl.PlaceIn(c) != len(b) {
		t.Errorf("after the codes the cache is at %d of %d bits", impl.PlaceIn(c), len(b))
	}
}

func TestFastUeOfCodeThatEndsAfterData(t *testing.T) {
	table := impl.UeTable()
	for _, n := range []int{0, 1, 2, 3, 6, 7, 14, 15, 16, 29, 30, 31, 32, 62, 126, 254, 255, 32766, 32767, 65533, 65534} {
		code := ueDigits(n)
		for size := range len(code) {
			r := readerBefore(code[:size])
			for _, c := range cachesBefore(r.S, r.At) {
				checkFastUe(t, c, table, c, 0, impl.ErShort)
			}
		}
		c := cacheBefore(code)
		checkFastUe(t, c, table, impl.Cache{S: c.S, Pos: len(c.S)}, n, impl.ErNone)
	}
}

func TestFastUeAtTheEnd(t *testing.T) {
	for _, s := range append(cacheStrings(), longString()) {
		c := impl.Cache{S: s, Pos: len(s)}
		for _, table := range [][]impl.Entry{impl.UeTable(), nil, sameUe(impl.Entry{Len: 1, Val: 5}), sameUe(impl.Entry{Len: 9, Val: 5}), sameUe(impl.Entry{})} {
			checkFastUe(t, c, table, c, 0, impl.ErShort)
		}
	}
}

func TestFastUeOfTooManyZeros(t *testing.T) {
	table := impl.UeTable()
	for _, zeros := range []int{15, 16, 17, 23, 24, 25, 31, 32, 33, 55, 56, 57, 64, 65, 300} {
		want := impl.ErCode
		if zeros == 15 {
			want = impl.ErShort
		}
		for _, more := range []string{"", "1", "10", "1" + strings.Repeat("0", 13), strings.Repeat("1", 15)} {
			r := readerBefore(strings.Repeat("0", zeros) + more)
			for _, c := range cachesBefore(r.S, r.At) {
				checkFastUe(t, c, table, c, 0, want)
			}
		}
	}
}

func TestFastUeUsesTheTable(t *testing.T) {
	for _, s := range []string{"\xa5\x3c\x00\x00\x01\x80\x7e\x99\xc3\xff", "\x00\x00\x00", "\xff"} {
		for size := 1; size <= impl.UePeek; size++ {
			for _, val := range []int{0, 1, -1, 12345, 1 << 40, math.MaxInt, math.MinInt} {
				table := sameUe(impl.Entry{Len: size, Val: val})
				for _, c := range cachesOf(s) {
					place := impl.PlaceIn(c) + size
					if place > 8*len(s) {
						checkFastUe(t, c, table, c, 0, impl.ErShort)
						continue
					}
					checkFastUe(t, c, table, settledCache(s, place), val, impl.ErNone)
				}
			}
		}
	}
}

func TestFastUeUsesTheEntryOfTheNextBits(t *testing.T) {
	table := make([]impl.Entry, 1<<impl.UePeek)
	for v := range table {
		table[v] = impl.Entry{Len: v%impl.UePeek + 1, Val: 1000 + v}
	}
	for v, digits := range peekDigits() {
		c := cacheBefore(digits + "10110")
		checkFastUe(t, c, table, settledCache(c.S, impl.PlaceIn(c)+v%impl.UePeek+1), 1000+v, impl.ErNone)
		padded := strings.TrimRight(digits, "0")
		want := table[v]
		c = cacheBefore(padded)
		if want.Len > len(padded) {
			checkFastUe(t, c, table, c, 0, impl.ErShort)
			continue
		}
		checkFastUe(t, c, table, settledCache(c.S, impl.PlaceIn(c)+want.Len), want.Val, impl.ErNone)
	}
}

func TestFastUeIgnoresOtherTables(t *testing.T) {
	tables := wrongSizes(impl.UePeek)
	for name, size := range map[string]int{"Len 0": 0, "Len -1": -1, "Len 10": 10, "Len 16": 16, "Len 17": 17, "Len -9": -9, "smallest Len": math.MinInt, "largest Len": math.MaxInt, "Len 2^32+1": 1<<32 + 1} {
		tables[name] = sameUe(impl.Entry{Len: size, Val: 77})
	}
	for name, table := range tables {
		for _, s := range append(cacheStrings(), "\x3f", "\x03\xff\xff", "\x01", "\x5a\x5a\x5a\x5a\x5a\x5a\x5a\x5a\x5a\x5a") {
			for place := range 8*len(s) + 1 {
				for _, c := range cachesBefore(s, place) {
					checkAgrees(t, c, table)
				}
			}
		}
		if t.Failed() {
			t.Fatalf("with the table %s", name)
		}
	}
}

func TestFastUeOfInvalidCaches(t *testing.T) {
	tables := [][]impl.Entry{impl.UeTable(), nil, sameUe(impl.Entry{Len: 1, Val: 5}), sameUe(impl.Entry{Len: 10, Val: 5})}
	for _, c := range notCaches() {
		for _, table := range tables {
			checkFastUe(t, c, table, c, 0, impl.ErShort)
		}
	}
	zeros := impl.Cache{S: strings.Repeat("\x00", 9), Pos: 4, Word: 1, Have: 3}
	for _, table := range tables {
		checkFastUe(t, zeros, table, zeros, 0, impl.ErShort)
	}
}

func TestFastUeLeavesTheTable(t *testing.T) {
	whole := append(impl.UeTable(), impl.UeTable()...)
	for _, s := range ueStrings() {
		impl.FastUe(impl.CacheNew(s), whole[:512])
		impl.FastUe(impl.CacheNew(s), whole[:511])
		impl.TableOk(whole[:512])
		impl.TableOk(whole[:511])
	}
	if !impl.TableOk(whole[:512]) || !impl.TableOk(whole[512:]) {
		t.Error("the table has changed")
	}
}
