package tests

import (
	"math"
	"slices"
	"testing"

	"loop.example/g01613/impl"
)

func levelCounts() []int {
	return []int{16, 64}
}

// notCounts are no numbers of levels; sizes of a block are among them, and numbers that look like a count in fewer bits.
func notCounts() []int {
	counts := []int{-1, -16, -64, 255, 256, 256 + 16, 256 + 64, 1024, 4096, 65536 + 16, 65536 + 64, 1<<32 + 16, 1<<32 + 64, 1<<62 + 16, 1<<63 - 64, math.MaxInt, math.MinInt, math.MinInt + 16, math.MinInt + 64}
	for n := range 140 {
		if n != 16 && n != 64 {
			counts = append(counts, n)
		}
	}
	return counts
}

// notLevels are numbers out of range, some of which look like a level in fewer bits or by their absolute value.
func notLevels() []int {
	const most = 16383
	return []int{most + 1, -most - 1, most + 2, -most - 2, 2 * most, -2 * most, 32767, -32768, 65535, -65535, 65536, 65536 + 1, 65536 - 1, 1<<31 - 1, -1 << 31, 1 << 32, 1<<32 + 1, -1<<32 - 1, math.MaxInt, math.MaxInt - 1, math.MinInt, math.MinInt + 1}
}

// runs are the pairs with these runs and levels in turn.
func runs(l ...int) []impl.Pair {
	var pairs []impl.Pair
	for pair := range slices.Chunk(l, 2) {
		pairs = append(pairs, impl.Pair{Run: pair[0], Level: pair[1]})
	}
	return pairs
}

// pairsWanted is PairsOf's definition for valid levels, by the indices of those that are not 0.
func pairsWanted(l []int) []impl.Pair {
	var pairs []impl.Pair
	next := 0
	for i, level := range l {
		if level != 0 {
			pairs = append(pairs, impl.Pair{Run: i - next, Level: level})
			next = i + 1
		}
	}
	return pairs
}

// withLevels are n levels, of which those at these indices are not 0 but 1, -16383, 16383, -1 in turn.
func withLevels(n int, places ...int) []int {
	l := make([]int, n)
	for k, place := range places {
		l[place] = []int{1, -16383, 16383, -1}[k%4]
	}
	return l
}

// levelLists are n valid levels: none that is not 0, up to three at all places, and all but up to two.
func levelLists(n int) [][]int {
	lists := [][]int{make([]int, n)}
	full := make([]int, n)
	for i := range full {
		full[i] = i - n
	}
	for i := range n {
		for j := i; j < n; j++ {
			gaps := slices.Clone(full)
			gaps[i], gaps[j] = 0, 0
			lists = append(lists, withLevels(n, i, j), gaps)
			for k := j + 1; k < n; k += 5 {
				lists = append(lists, withLevels(n, i, j, k))
			}
		}
	}
	return append(lists, full)
}

// pairsThenRun are k levels without zeros, and one more after a run.
func pairsThenRun(k, run int) []impl.Pair {
	return append(slices.Repeat([]impl.Pair{{Level: -3}}, k), impl.Pair{Run: run, Level: 9})
}

func checkNoLevels(t *testing.T, p []impl.Pair, n int) {
	t.Helper()
	if l, er := impl.LevelsFrom(p, n); len(l) != 0 || er != impl.ErCoef {
		t.Errorf("LevelsFrom(%v, %d) = %v and %d, want none and %d", p, n, l, er, impl.ErCoef)
	}
}

func checkLevels(t *testing.T, p []impl.Pair, n int, want []int) {
	t.Helper()
	if l, er := impl.LevelsFrom(p, n); !slices.Equal(l, want) || er != impl.ErNone {
		t.Errorf("LevelsFrom(%v, %d) = %v and %d, want %v and %d", p, n, l, er, want, impl.ErNone)
	}
}

func TestMaxLevel(t *testing.T) {
	if impl.MaxLevel != 16383 {
		t.Errorf("MaxLevel = %d", impl.MaxLevel)
	}
}

func TestLevelsOk(t *testing.T) {
	for _, n := range levelCounts() {
		for _, level := range []int{0, 1, -1, 255, -256, 16382, -16382, 16383, -16383} {
			if l := slices.Repeat([]int{level}, n); !impl.LevelsOk(l) {
				t.Errorf("LevelsOk(%v) = false", l)
			}
			for i := range n {
				l := make([]int, n)
				l[i] = level
				if !impl.LevelsOk(l) {
					t.Errorf("LevelsOk(%v) = false", l)
				}
			}
		}
	}
}

func TestLevelsOutOfRange(t *testing.T) {
	for _, n := range levelCounts() {
		for _, level := range notLevels() {
			for i := range n {
				l := withLevels(n, 0, n/2, n-1)
				l[i] = level
				if impl.LevelsOk(l) {
					t.Errorf("LevelsOk(%v) = true", l)
				}
				if got := impl.PairsOf(l); len(got) != 0 {
					t.Errorf("PairsOf(%v) = %v, want none", l, got)
				}
			}
		}
	}
}

func TestOtherCountsOfLevels(t *testing.T) {
	for _, n := range notCounts() {
		if n < 0 || n > 1<<20 {
			continue
		}
		for _, level := range []int{0, 5} {
			// Behind the levels the memory goes on, far enough for a block.
			l := slices.Repeat([]int{level}, n+64)[:n]
			if impl.LevelsOk(l) {
				t.Errorf("LevelsOk of %d levels = true", n)
			}
			if got := impl.PairsOf(l); len(got) != 0 {
				t.Errorf("PairsOf of %d levels = %v, want none", n, got)
			}
		}
	}
	if impl.LevelsOk(nil) || len(impl.PairsOf(nil)) != 0 {
		t.Error("nil is taken for levels")
	}
}

func TestPairsOf(t *testing.T) {
	for _, c := range []struct {
		levels []int
		pairs  []impl.Pair
	}{
		{make([]int, 16), nil},
		{[]int{7, 0, 0, 0, 0, 0, 0, 0, 0, 0, 0, 0, 0, 0, 0, 0}, runs(0, 7)},
		{[]int{0, 0, 0, 0, 0, 0, 0, 0, 0, 0, 0, 0, 0, 0, 0, -7}, runs(15, -7)},
		{[]int{0, 3, -1, 0, 0, 0, 16383, 0, 0, 0, 0, 0, 0, -16383, 0, 0}, runs(1, 3, 0, -1, 3, 16383, 6, -16383)},
		{append([]int{4, 0, 0, 4}, make([]int, 60)...), runs(0, 4, 2, 4)},
		{append(make([]int, 61), 1, 0, 2), runs(61, 1, 1, 2)},
	} {
		if got := impl.PairsOf(c.levels); !slices.Equal(got, c.pairs) {
			t.Errorf("PairsOf(%v) = %v, want %v", c.levels, got, c.pairs)
		}
		checkLevels(t, c.pairs, len(c.levels), c.levels)
	}
}

func TestLevelsFromInvertsPairsOf(t *testing.T) {
	for _, n := range levelCounts() {
		for _, l := range levelLists(n) {
			p := impl.PairsOf(l)
			if want := pairsWanted(l); !slices.Equal(p, want) {
				t.Fatalf("PairsOf(%v) = %v, want %v", l, p, want)
			}
			checkLevels(t, p, n, l)
		}
	}
}

func TestEverySetOfPlacesAmong16(t *testing.T) {
	for set := range 1 << 16 {
		l := make([]int, 16)
		for i := range l {
			if set>>i&1 == 1 {
				l[i] = 100*i - 750
			}
		}
		p := impl.PairsOf(l)
		if want := pairsWanted(l); !slices.Equal(p, want) {
			t.Fatalf("PairsOf(%v) = %v, want %v", l, p, want)
		}
		if got, er := impl.LevelsFrom(p, 16); !slices.Equal(got, l) || er != impl.ErNone {
			t.Fatalf("LevelsFrom(%v, 16) = %v and %d, want %v", p, got, er, l)
		}
	}
}

// What LevelsFrom accepts is what PairsOf returns, and it refuses all else.
func TestOnlyPairsOfLevelsAreAccepted(t *testing.T) {
	var some []impl.Pair
	for _, run := range []int{-1, 0, 1, 6, 7, 14, 15, 16} {
		for _, level := range []int{0, 1, -16383, 16384} {
			some = append(some, impl.Pair{Run: run, Level: level})
		}
	}
	lists, last := [][]impl.Pair{nil}, [][]impl.Pair{nil}
	for range 3 {
		var longer [][]impl.Pair
		for _, p := range last {
			for _, pair := range some {
				longer = append(longer, append(slices.Clone(p), pair))
			}
		}
		lists, last = append(lists, longer...), longer
	}
	for _, p := range lists {
		used, valid := 0, true
		for _, pair := range p {
			used += pair.Run + 1
			valid = valid && pair.Run >= 0 && pair.Level != 0 && pair.Level != 16384
		}
		l, er := impl.LevelsFrom(p, 16)
		if !valid || used > 16 {
			if len(l) != 0 || er != impl.ErCoef {
				t.Fatalf("LevelsFrom(%v, 16) = %v and %d, want none and %d", p, l, er, impl.ErCoef)
			}
			continue
		}
		if er != impl.ErNone || len(l) != 16 || !slices.Equal(impl.PairsOf(l), p) {
			t.Fatalf("LevelsFrom(%v, 16) = %v and %d, want the levels of these pairs", p, l, er)
		}
	}
}

// After k levels a run of n-k-1 ends right before the last level; with one more zero its level lies behind the block.
func TestRunUpToEndOfBlock(t *testing.T) {
	for _, n := range levelCounts() {
		for k := range n {
			want := append(slices.Repeat([]int{-3}, k), make([]int, n-k)...)
			want[n-1] = 9
			p := pairsThenRun(k, n-k-1)
			checkLevels(t, p, n, want)
			if got := impl.PairsOf(want); !slices.Equal(got, p) {
				t.Errorf("PairsOf(%v) = %v, want %v", want, got, p)
			}
			for _, more := range []int{0, 1, k, k + 1, n, 64, 1 << 32} {
				checkNoLevels(t, pairsThenRun(k, n-k+more), n)
			}
			checkNoLevels(t, append(p, impl.Pair{Level: 1}), n)
		}
	}
}

// Zeros at the end of a block belong to no pair.
func TestZerosUpToEndOfBlock(t *testing.T) {
	for _, n := range levelCounts() {
		for k := range n - 1 {
			want := append(slices.Repeat([]int{-3}, k), make([]int, n-k)...)
			want[n-2] = 9
			p := pairsThenRun(k, n-k-2)
			if got := impl.PairsOf(want); !slices.Equal(got, p) {
				t.Errorf("PairsOf(%v) = %v, want %v", want, got, p)
			}
			checkLevels(t, p, n, want)
		}
		checkLevels(t, nil, n, make([]int, n))
		checkLevels(t, []impl.Pair{}, n, make([]int, n))
	}
}

func TestNoMorePairsThanLevels(t *testing.T) {
	for _, n := range levelCounts() {
		full := slices.Repeat([]impl.Pair{{Level: 2}}, n)
		checkLevels(t, full, n, slices.Repeat([]int{2}, n))
		for _, pair := range runs(0, 2, 0, 0, -1, 2, 1, 2, -n, 2, math.MaxInt, 2, math.MinInt, 2) {
			checkNoLevels(t, append(full, pair), n)
		}
		checkNoLevels(t, slices.Repeat(full, 3), n)
	}
}

func TestPairsOfLongerBlocks(t *testing.T) {
	p := runs(0, 5, 15, 1, 46, -2)
	want := make([]int, 64)
	want[0], want[16], want[63] = 5, 1, -2
	checkLevels(t, p, 64, want)
	checkNoLevels(t, p, 16)
	checkNoLevels(t, p[:2], 16)
}

func TestOtherCountsFromPairs(t *testing.T) {
	for _, n := range notCounts() {
		for _, p := range [][]impl.Pair{nil, runs(0, 1), runs(3, -1, 0, 1), runs(n-1, 1), runs(15, 1), runs(63, 1)} {
			checkNoLevels(t, p, n)
		}
	}
}

// One pair that is none of any levels spoils the others, wherever it stands.
func TestPairsOfNoLevels(t *testing.T) {
	var wrong []impl.Pair
	for _, run := range []int{-1, -2, -4, -16, -64, -1 << 31, -1 << 32, math.MinInt, math.MinInt + 1, 64, 65, 1 << 31, 1 << 32, 1<<32 + 1, 1 << 62, math.MaxInt, math.MaxInt - 1, math.MaxInt - 4, math.MaxInt - 63} {
		wrong = append(wrong, impl.Pair{Run: run, Level: 1})
	}
	for _, level := range append(notLevels(), 0) {
		wrong = append(wrong, impl.Pair{Level: level}, impl.Pair{Run: 2, Level: level})
	}
	right := runs(0, 4, 2, -4, 1, 16383)
	for _, n := range levelCounts() {
		for _, pair := range wrong {
			checkNoLevels(t, []impl.Pair{pair}, n)
			for i := range len(right) + 1 {
				checkNoLevels(t, slices.Insert(slices.Clone(right), i, pair), n)
			}
		}
		// Runs whose sum wraps around to one within the block.
		checkNoLevels(t, runs(math.MaxInt, 1, math.MaxInt, 1), n)
		checkNoLevels(t, runs(1, 1, math.MaxInt, 1, math.MaxInt, 1, 1, 1), n)
		checkNoLevels(t, runs(5, 1, -3, 1), n)
	}
}

func TestRunsLeaveArgumentsAlone(t *testing.T) {
	for _, n := range levelCounts() {
		levels := withLevels(3*n, 0, 5, n-1, n, 2*n, 3*n-1)
		pairs := slices.Repeat(runs(1, 8, 0, -8, -1, 0), 3)
		levelsBefore, pairsBefore := slices.Clone(levels), slices.Clone(pairs)
		for _, size := range []int{n - 1, n, n + 1} {
			impl.LevelsOk(levels[:size])
			p := impl.PairsOf(levels[:size])
			for i := range p[:cap(p)] {
				p[:cap(p)][i] = impl.Pair{Run: -9, Level: -9}
			}
		}
		for size := range len(pairs) {
			l, _ := impl.LevelsFrom(pairs[:size], n)
			for i := range l[:cap(l)] {
				l[:cap(l)][i] = -9
			}
		}
		if !slices.Equal(levels, levelsBefore) || !slices.Equal(pairs, pairsBefore) {
			t.Errorf("the arguments became %v and %v", levels, pairs)
		}
	}
}

func TestRunsAreNewEachTime(t *testing.T) {
	for _, n := range levelCounts() {
		l := withLevels(n, 2, n-1)
		p := impl.PairsOf(l)
		first, _ := impl.LevelsFrom(p, n)
		empty, _ := impl.LevelsFrom(nil, n)
		for i := range n {
			first[i], empty[i] = -1, -1
		}
		for i := range p {
			p[i] = impl.Pair{}
		}
		if got, want := impl.PairsOf(l), pairsWanted(l); !slices.Equal(got, want) {
			t.Errorf("PairsOf(%v) has changed with an earlier result to %v", l, got)
		}
		checkLevels(t, pairsWanted(l), n, l)
		checkLevels(t, nil, n, make([]int, n))
	}
}
