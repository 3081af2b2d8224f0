package tests

import (
	"math"
	"slices"
	"strings"
	"testing"

	"loop.example/g01613/impl"
)

// leafDepths are the ascending lengths of all complete codes for up to Modes symbols: the depths of the leaves of a tree, which grows by splitting a leaf.
func leafDepths() [][]int {
	all := [][]int{{1, 1}}
	for i := 0; i < len(all); i++ {
		if len(all[i]) == impl.Modes {
			continue
		}
		for j, depth := range all[i] {
			split := append(slices.Delete(slices.Clone(all[i]), j, j+1), depth+1, depth+1)
			slices.Sort(split)
			if !hasList(all, split) {
				all = append(all, split)
			}
		}
	}
	return all
}

func hasList(all [][]int, l []int) bool {
	return slices.ContainsFunc(all, func(other []int) bool { return slices.Equal(other, l) })
}

// isComplete is CodeOk's definition for Modes lengths, by trees instead of sums.
func isComplete(l []int, trees [][]int) bool {
	var used []int
	for _, size := range l {
		if size != 0 {
			used = append(used, size)
		}
	}
	slices.Sort(used)
	return hasList(trees, used)
}

// lensFrom are all lists of Modes lengths from least to most.
func lensFrom(least, most int) [][]int {
	all := [][]int{nil}
	for range impl.Modes {
		var longer [][]int
		for _, l := range all {
			for size := least; size <= most; size++ {
				longer = append(longer, append(slices.Clone(l), size))
			}
		}
		all = longer
	}
	return all
}

// validLens are all valid code lengths; no tree with Modes leaves is deeper than 5.
func validLens() [][]int {
	trees := leafDepths()
	return slices.DeleteFunc(lensFrom(0, 5), func(l []int) bool { return !isComplete(l, trees) })
}

// someLens are valid: with few symbols and with all, and with a length that no symbol has.
func someLens() [][]int {
	return [][]int{{1, 2, 3, 4, 5, 5}, {5, 5, 4, 3, 2, 1}, {3, 3, 3, 3, 2, 2}, {1, 0, 1, 0, 0, 0}, {0, 2, 0, 1, 2, 0}, {1, 3, 3, 3, 3, 0}, {4, 1, 4, 2, 4, 4}}
}

// notLens are not valid: another number of them, too few or too many codes, or one length out of range.
func notLens() [][]int {
	all := [][]int{
		nil, {}, {1}, {1, 1}, {1, 2, 3, 4, 4}, {2, 3, 4, 5, 5}, {1, 1, 0, 0, 0}, {1, 1, 0, 0, 0, 0, 0}, {1, 2, 3, 4, 5, 5, 0}, {1, 2, 3, 4, 5, 6, 6}, {3, 3, 3, 3, 3, 3, 3, 3},
		{0, 0, 0, 0, 0, 0}, {1, 0, 0, 0, 0, 0}, {1, 2, 0, 0, 0, 0}, {1, 2, 3, 4, 5, 6}, {1, 2, 3, 4, 5, 7}, {7, 7, 7, 7, 7, 7}, {3, 3, 3, 3, 3, 3},
		{1, 1, 1, 0, 0, 0}, {1, 1, 7, 0, 0, 0}, {0, 0, 0, 7, 1, 1}, {1, 2, 3, 4, 5, 4}, {1, 1, 1, 1, 1, 1}, {2, 2, 2, 2, 2, 2},
	}
	for _, size := range []int{-1, -2, -7, -57, -64, 8, 9, 63, 64, 65, 128, 256, 257, 1<<32 + 1, math.MaxInt, math.MinInt, math.MinInt + 7} {
		for m := range impl.Modes {
			for _, l := range append(someLens(), []int{1, 2, 3, 4, 5, 5}, []int{0, 0, 0, 0, 0, 0}, []int{1, 1, 0, 0, 0, 0}) {
				l[m] = size
				all = append(all, l)
			}
		}
	}
	return all
}

// codeDigits is CodesOf's definition, written as digits; a symbol of length 0 has none.
func codeDigits(l []int) []string {
	var order []int
	for m, size := range l {
		if size != 0 {
			order = append(order, m)
		}
	}
	slices.SortStableFunc(order, func(a, b int) int { return l[a] - l[b] })
	codes := make([]string, len(l))
	code := ""
	for i, m := range order {
		if i > 0 {
			code = nextDigits(code)
		}
		code += strings.Repeat("0", l[m]-len(code))
		codes[m] = code
	}
	return codes
}

// nextDigits adds 1 to a number that has a 0.
func nextDigits(digits string) string {
	i := strings.LastIndexByte(digits, '0')
	return digits[:i] + "1" + strings.Repeat("0", len(digits)-i-1)
}

// symWanted is ReadSym's definition for valid lengths: the number of bits read, the symbol and the error.
func symWanted(digits string, codes []string) (int, int, int) {
	for m, code := range codes {
		if code != "" && strings.HasPrefix(digits, code) {
			return len(code), m, impl.ErNone
		}
	}
	return 0, 0, impl.ErShort
}

// symCase has some digits left, for a reader and for caches at the same place.
type symCase struct {
	digits string
	r      impl.Reader
	caches []impl.Cache
}

func checkReadSym(t *testing.T, r impl.Reader, l []int, want impl.Reader, m, er int) {
	t.Helper()
	if got, v, e := impl.ReadSym(r, l); got != want || v != m || e != er {
		t.Errorf("ReadSym(%#v, %v) = %#v, %d, %d, want %#v, %d, %d", r, l, got, v, e, want, m, er)
	}
}

func checkFastSym(t *testing.T, c impl.Cache, table []impl.Entry, want impl.Cache, m, er int) {
	t.Helper()
	if got, v, e := impl.FastSym(c, table); got != want || v != m || e != er {
		t.Errorf("FastSym(%#v) = %#v, %d, %d, want %#v, %d, %d", c, got, v, e, want, m, er)
	}
}

// checkSymAgrees compares FastSym with ReadSym at the place of a valid cache.
func checkSymAgrees(t *testing.T, c impl.Cache, l []int, table []impl.Entry) {
	t.Helper()
	r, m, er := impl.ReadSym(impl.Reader{S: c.S, At: impl.PlaceIn(c)}, l)
	want := c
	if er == impl.ErNone {
		want = settledCache(c.S, r.At)
	}
	checkFastSym(t, c, table, want, m, er)
}

// sameSyms is a table for FastSym with the same entry for all bits.
func sameSyms(e impl.Entry) []impl.Entry {
	return sameEntries(impl.MaxLen, e)
}

func TestCodeOkOfEachList(t *testing.T) {
	if impl.Modes != 6 || impl.MaxLen != 7 {
		t.Fatalf("Modes = %d, MaxLen = %d", impl.Modes, impl.MaxLen)
	}
	trees := leafDepths()
	for _, l := range lensFrom(-1, 8) {
		if got, want := impl.CodeOk(l), isComplete(l, trees); got != want {
			t.Fatalf("CodeOk(%v) = %v, want %v", l, got, want)
		}
	}
}

func TestCodesOfSomeLengths(t *testing.T) {
	for _, c := range []struct{ l, want []int }{
		{[]int{1, 2, 3, 4, 5, 5}, []int{0, 2, 6, 14, 30, 31}},
		{[]int{5, 5, 4, 3, 2, 1}, []int{30, 31, 14, 6, 2, 0}},
		{[]int{3, 3, 3, 3, 2, 2}, []int{4, 5, 6, 7, 0, 1}},
		{[]int{1, 0, 1, 0, 0, 0}, []int{0, -1, 1, -1, -1, -1}},
		{[]int{0, 2, 0, 1, 2, 0}, []int{-1, 2, -1, 0, 3, -1}},
	} {
		if got := impl.CodesOf(c.l); !slices.Equal(got, c.want) {
			t.Errorf("CodesOf(%v) = %v, want %v", c.l, got, c.want)
		}
	}
}

func TestALengthThatNoSymbolHas(t *testing.T) {
	for _, c := range []struct{ l, want []int }{
		{[]int{2, 2, 0, 0, 2, 2}, []int{0, 1, -1, -1, 2, 3}},
		{[]int{1, 3, 3, 3, 3, 0}, []int{0, 4, 5, 6, 7, -1}},
		{[]int{3, 3, 1, 0, 3, 3}, []int{4, 5, 0, -1, 6, 7}},
		{[]int{1, 3, 4, 3, 4, 3}, []int{0, 4, 14, 5, 15, 6}},
		{[]int{1, 2, 4, 4, 4, 4}, []int{0, 2, 12, 13, 14, 15}},
		{[]int{4, 1, 4, 2, 4, 4}, []int{12, 0, 13, 2, 14, 15}},
	} {
		if got := impl.CodesOf(c.l); !slices.Equal(got, c.want) {
			t.Errorf("CodesOf(%v) = %v, want %v", c.l, got, c.want)
		}
		table := impl.SymTable(c.l)
		for m, code := range c.want {
			if code < 0 {
				continue
			}
			digits := bitDigits(impl.BitsIn(code, c.l[m]))
			if got := bitDigits(impl.SymBits(c.l, m)); got != digits {
				t.Errorf("SymBits(%v, %d) = %s, want %s", c.l, m, got, digits)
			}
			r, cache := readerBefore(digits), cacheBefore(digits)
			checkReadSym(t, r, c.l, impl.Reader{S: r.S, At: 8 * len(r.S)}, m, impl.ErNone)
			checkFastSym(t, cache, table, impl.Cache{S: cache.S, Pos: len(cache.S)}, m, impl.ErNone)
			for size := range digits {
				r, cache = readerBefore(digits[:size]), cacheBefore(digits[:size])
				checkReadSym(t, r, c.l, r, 0, impl.ErShort)
				checkFastSym(t, cache, table, cache, 0, impl.ErShort)
			}
		}
	}
}

func TestCodesOfAllValidLengths(t *testing.T) {
	for _, l := range validLens() {
		codes := impl.CodesOf(l)
		if len(codes) != impl.Modes {
			t.Fatalf("CodesOf(%v) = %v", l, codes)
		}
		for m, digits := range codeDigits(l) {
			want := -1
			if digits != "" {
				want = numberOf(digits)
			}
			if codes[m] != want {
				t.Fatalf("CodesOf(%v) = %v, but the code of %d is %s", l, codes, m, digits)
			}
			if got := bitDigits(impl.SymBits(l, m)); got != digits {
				t.Fatalf("SymBits(%v, %d) = %s, want %s", l, m, got, digits)
			}
		}
	}
}

func TestEachSequenceHasExactlyOneCodeAsPrefix(t *testing.T) {
	for _, l := range validLens() {
		var codes []string
		for m := range impl.Modes {
			if b := impl.SymBits(l, m); len(b) > 0 {
				codes = append(codes, bitDigits(b))
			}
		}
		for v := range 1 << impl.MaxLen {
			digits := bitDigits(impl.BitsIn(v, impl.MaxLen))
			count := 0
			for _, code := range codes {
				if strings.HasPrefix(digits, code) {
					count++
				}
			}
			if count != 1 {
				t.Fatalf("with the lengths %v, %d codes are prefixes of %s", l, count, digits)
			}
		}
	}
}

func TestSymTableOfAllValidLengths(t *testing.T) {
	for _, l := range validLens() {
		codes := codeDigits(l)
		table := impl.SymTable(l)
		if len(table) != 128 {
			t.Fatalf("SymTable(%v) has %d entries", l, len(table))
		}
		for v, e := range table {
			digits := bitDigits(impl.BitsIn(v, impl.MaxLen))
			if size, m, _ := symWanted(digits, codes); e != (impl.Entry{Len: size, Val: m}) {
				t.Fatalf("SymTable(%v) has %v for %s, want %d, %d", l, e, digits, size, m)
			}
		}
	}
}

func TestNoSuchSymbol(t *testing.T) {
	for _, l := range someLens() {
		for _, m := range []int{-1, -2, -6, 6, 7, 128, 1 << 32, math.MaxInt, math.MinInt} {
			if got := impl.SymBits(l, m); len(got) != 0 {
				t.Errorf("SymBits(%v, %d) = %v, want none", l, m, got)
			}
		}
	}
	l := []int{0, 2, 0, 1, 2, 0}
	for _, m := range []int{0, 2, 5} {
		if got := impl.SymBits(l, m); len(got) != 0 {
			t.Errorf("SymBits(%v, %d) = %v, want none", l, m, got)
		}
	}
}

func TestInvalidLengths(t *testing.T) {
	for _, l := range notLens() {
		if impl.CodeOk(l) || len(impl.CodesOf(l)) != 0 || len(impl.SymTable(l)) != 0 {
			t.Errorf("the lengths %v are accepted", l)
		}
		for m := -1; m <= impl.Modes; m++ {
			if got := impl.SymBits(l, m); len(got) != 0 {
				t.Errorf("SymBits(%v, %d) = %v, want none", l, m, got)
			}
		}
		for _, r := range []impl.Reader{{}, {S: "\x00"}, {S: "\xff\xff", At: 3}, {S: "\xff", At: 8}, {S: "\x00\x00", At: 15}, {S: "\xff", At: 9}, {S: "\xff", At: -1}} {
			checkReadSym(t, r, l, r, 0, impl.ErCode)
		}
	}
}

func TestSymbolsWhateverIsLeft(t *testing.T) {
	var all []symCase
	for _, b := range bitLists(impl.MaxLen) {
		r := readerBefore(bitDigits(b))
		all = append(all, symCase{bitDigits(b), r, cachesBefore(r.S, r.At)})
	}
	for _, l := range validLens() {
		codes, table := codeDigits(l), impl.SymTable(l)
		for _, c := range all {
			size, m, er := symWanted(c.digits, codes)
			checkReadSym(t, c.r, l, impl.Reader{S: c.r.S, At: c.r.At + size}, m, er)
			for _, cache := range c.caches {
				want := cache
				if er == impl.ErNone {
					want = settledCache(c.r.S, c.r.At+size)
				}
				checkFastSym(t, cache, table, want, m, er)
			}
		}
		if t.Failed() {
			t.FailNow()
		}
	}
}

func TestFastSymAgreesInEachCache(t *testing.T) {
	for _, l := range someLens() {
		table := impl.SymTable(l)
		for _, s := range cacheStrings() {
			for _, c := range cachesOf(s) {
				checkSymAgrees(t, c, l, table)
			}
		}
		for _, s := range ueStrings() {
			for place := range 8*len(s) + 1 {
				for _, c := range cachesBefore(s, place) {
					checkSymAgrees(t, c, l, table)
				}
			}
		}
	}
}

func TestFastSymAgreesWithInvalidLengths(t *testing.T) {
	for _, l := range notLens() {
		table := impl.SymTable(l)
		for _, c := range []impl.Cache{{}, cacheAt("\x5a\xc3", 1, 5), cacheAt("\x5a\xc3", 2, 0), impl.Refill(impl.CacheNew(longString()))} {
			checkSymAgrees(t, c, l, table)
			checkFastSym(t, c, table, c, 0, impl.ErCode)
		}
	}
}

func TestSymbolsInARow(t *testing.T) {
	for _, l := range someLens() {
		var b, syms []int
		for i := range 3000 {
			m := i * i % 29 % impl.Modes
			if l[m] != 0 {
				b, syms = append(b, impl.SymBits(l, m)...), append(syms, m)
			}
		}
		table := impl.SymTable(l)
		r := impl.Reader{S: impl.Stopped(b)}
		c := impl.CacheNew(r.S)
		for _, want := range syms {
			var m, fast, er, fastEr int
			r, m, er = impl.ReadSym(r, l)
			c, fast, fastEr = impl.FastSym(c, table)
			if m != want || fast != want || er != impl.ErNone || fastEr != impl.ErNone {
				t.Fatalf("with the lengths %v, %d is read as %d and %d before bit %d, errors %d and %d", l, want, m, fast, r.At, er, fastEr)
			}
		}
		if r.At != len(b) || impl.PlaceIn(c) != len(b) || impl.StopOk(r) != impl.ErNone {
			t.Errorf("after the codes the reader is at %d and the cache at %d of %d bits", r.At, impl.PlaceIn(c), len(b))
		}
	}
}

func TestReadSymOfInvalidReaders(t *testing.T) {
	for _, l := range someLens() {
		for _, s := range readerStrings() {
			for _, at := range placesOutside(s) {
				r := impl.Reader{S: s, At: at}
				checkReadSym(t, r, l, r, 0, impl.ErShort)
			}
		}
	}
}

func TestFastSymOfInvalidCaches(t *testing.T) {
	tables := [][]impl.Entry{impl.SymTable([]int{1, 2, 3, 4, 5, 5}), nil, sameSyms(impl.Entry{Len: 1, Val: 5}), sameSyms(impl.Entry{Len: 8, Val: 5}), sameSyms(impl.Entry{})}
	for _, c := range notCaches() {
		for _, table := range tables {
			checkFastSym(t, c, table, c, 0, impl.ErShort)
		}
	}
}

func TestFastSymUsesTheTable(t *testing.T) {
	for _, s := range []string{"\xa5\x3c\x00\x00\x01\x80\x7e\x99\xc3\xff", "\x00\x00\x00", "\xff"} {
		for size := 1; size <= impl.MaxLen; size++ {
			for _, val := range []int{0, 5, 6, -1, 12345, math.MaxInt, math.MinInt} {
				table := sameSyms(impl.Entry{Len: size, Val: val})
				for _, c := range cachesOf(s) {
					place := impl.PlaceIn(c) + size
					if place > 8*len(s) {
						checkFastSym(t, c, table, c, 0, impl.ErShort)
						continue
					}
					checkFastSym(t, c, table, settledCache(s, place), val, impl.ErNone)
				}
			}
		}
	}
}

func TestFastSymUsesTheEntryOfTheNextBits(t *testing.T) {
	table := make([]impl.Entry, 1<<impl.MaxLen)
	for v := range table {
		table[v] = impl.Entry{Len: v % 10, Val: 1000 + v}
	}
	for v, e := range table {
		digits := bitDigits(impl.BitsIn(v, impl.MaxLen))
		for _, follows := range []string{"", "0", "1", "1011", strings.Repeat("1", 60)} {
			c := cacheBefore(digits + follows)
			if e.Len < 1 || e.Len > impl.MaxLen {
				checkFastSym(t, c, table, c, 0, impl.ErCode)
				continue
			}
			checkFastSym(t, c, table, settledCache(c.S, impl.PlaceIn(c)+e.Len), e.Val, impl.ErNone)
		}
	}
}

func TestFastSymRefusesOtherTables(t *testing.T) {
	tables := wrongSizes(impl.MaxLen)
	tables["UeTable"] = impl.UeTable()
	for _, size := range []int{0, -1, -7, 8, 9, 16, 17, 1<<32 + 1, math.MaxInt, math.MinInt} {
		tables["Len "+impl.Dec(size)] = sameSyms(impl.Entry{Len: size, Val: 3})
	}
	for name, table := range tables {
		for _, s := range append(cacheStrings(), longString()) {
			// At the end of the data this error comes before that of too few bits.
			for place := range 8*len(s) + 1 {
				for _, c := range cachesBefore(s, place) {
					checkFastSym(t, c, table, c, 0, impl.ErCode)
				}
			}
		}
		if t.Failed() {
			t.Fatalf("with the table %s", name)
		}
	}
}

func TestPrefixCodesAreNewEachTime(t *testing.T) {
	l := []int{0, 2, 0, 1, 2, 0}
	codes, b, table := impl.CodesOf(l), impl.SymBits(l, 4), impl.SymTable(l)
	for i := range codes {
		codes[i] = 9
	}
	b[0], b[1] = 9, 9
	for i := range table {
		table[i] = impl.Entry{Len: 9, Val: 9}
	}
	if got := impl.CodesOf(l); !slices.Equal(got, []int{-1, 2, -1, 0, 3, -1}) {
		t.Errorf("CodesOf has changed with an earlier result to %v", got)
	}
	if got := bitDigits(impl.SymBits(l, 4)); got != "11" {
		t.Errorf("SymBits has changed with an earlier result to %s", got)
	}
	if got := impl.SymTable(l); got[0] != (impl.Entry{Len: 1, Val: 3}) || got[127] != (impl.Entry{Len: 2, Val: 4}) {
		t.Error("SymTable has changed with an earlier result")
	}
}

func TestPrefixCodesLeaveArgumentsAlone(t *testing.T) {
	backing := []int{1, 2, 3, 4, 5, 5, 6, 7, 8, 9}
	table := append(impl.SymTable(backing[:6]), sameSyms(impl.Entry{Len: 8})...)
	before, tableBefore := slices.Clone(backing), slices.Clone(table)
	for size := range backing {
		l := backing[:size]
		impl.CodeOk(l)
		impl.CodesOf(l)
		impl.SymTable(l)
		impl.SymBits(l, 2)
		impl.ReadSym(impl.Reader{S: "\xe0"}, l)
	}
	for _, s := range cacheStrings() {
		impl.FastSym(impl.CacheNew(s), table[:128])
		impl.FastSym(impl.CacheNew(s), table[:127])
	}
	if !slices.Equal(backing, before) || !slices.Equal(table, tableBefore) {
		t.Error("an argument has changed")
	}
}
