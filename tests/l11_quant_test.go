package tests

import (
	"math"
	"slices"
	"testing"

	"loop.example/g01613/impl"
)

const (
	mostQ       = 51
	mostNumber  = 1000000
	largestStep = 352
)

// stepsWanted are the steps for q from 0 to 51.
func stepsWanted() []int {
	return []int{
		1, 1, 1, 1, 1, 1,
		2, 2, 2, 2, 3, 3,
		4, 4, 5, 5, 6, 7,
		8, 9, 10, 11, 13, 14,
		16, 18, 20, 22, 26, 28,
		32, 36, 40, 44, 52, 56,
		64, 72, 80, 88, 104, 112,
		128, 144, 160, 176, 208, 224,
		256, 288, 320, largestStep,
	}
}

func normsWanted() map[int][]int {
	four := []int{
		100, 40, 100, 40,
		40, 16, 40, 16,
		100, 40, 100, 40,
		40, 16, 40, 16,
	}
	return map[int][]int{4: four, 8: slices.Repeat([]int{1}, 64)}
}

// notQ are out of range, some of which look like a q in fewer bits or modulo 6.
func notQ() []int {
	return []int{-1, -2, -6, -7, -12, -51, -52, -256, -1 << 31, -1 << 32, math.MinInt, math.MinInt + 2, 52, 53, 54, 57, 60, 63, 64, 102, 255, 256, 256 + 12, 65536, 1 << 31, 1<<32 + 12, 1<<62 + 12, math.MaxInt}
}

// levelWanted is Quantized's definition: math.Round has ties away from 0, and the quotients are small enough to keep ties apart from their neighbors.
func levelWanted(v, step int) int {
	v = max(-mostNumber, min(v, mostNumber))
	level := int(math.Round(float64(v) / float64(step)))
	return max(-16383, min(level, 16383))
}

// aroundTies are the numbers next to the middle between two multiples of the step, on both sides of 0, up to the one where the largest level ends or 1000000 does.
func aroundTies(step int) []int {
	var l []int
	for k := 0; k <= 16385 && k*step <= mostNumber; k++ {
		for v := k*step + step/2 - 1; v <= k*step+step/2+1; v++ {
			l = append(l, v, -v)
		}
	}
	return l
}

// aroundLimits are the numbers next to 0, to the number limit, to where the largest level begins, and to the ends of int.
func aroundLimits(step int) []int {
	l := []int{math.MaxInt, math.MaxInt - 1, math.MaxInt - largestStep, math.MinInt, math.MinInt + 1, math.MinInt + largestStep, 1 << 31, -1 << 31, 1 << 32, -1 << 32, 1<<32 + 5, 1<<62 + 5}
	for near := range 2*step + 1 {
		for _, v := range []int{0, mostNumber, 16383 * step, 16384 * step} {
			l = append(l, v-near, v+near, -v-near, -v+near)
		}
	}
	return l
}

// inBlocks cuts the numbers into blocks of n*n, the last one filled up with zeros.
func inBlocks(l []int, n int) [][]int {
	var blocks [][]int
	for part := range slices.Chunk(l, n*n) {
		block := make([]int, n*n)
		copy(block, part)
		blocks = append(blocks, block)
	}
	return blocks
}

// checkTie checks a number halfway between two multiples of the step of q, and both its neighbors.
func checkTie(t *testing.T, q, tie, towards, away int) {
	t.Helper()
	sign := 1
	if tie < 0 {
		sign = -1
	}
	block := make([]int, 16)
	block[0], block[1], block[15] = tie-sign, tie, tie+sign
	got := impl.Quantized(block, q)
	if len(got) != 16 || got[0] != towards || got[1] != away || got[15] != away {
		t.Errorf("Quantized(%v, %d) = %v, want %d first, and %d second and last", block, q, got, towards, away)
	}
}

// checkAlone checks a number among zeros, at each position of a block.
func checkAlone(t *testing.T, q, v, level int) {
	t.Helper()
	for _, count := range levelCounts() {
		for i := range count {
			block, want := make([]int, count), make([]int, count)
			block[i], want[i] = v, level
			if got := impl.Quantized(block, q); !slices.Equal(got, want) {
				t.Errorf("Quantized(%v, %d) = %v, want %v", block, q, got, want)
			}
		}
	}
}

func TestMaxQ(t *testing.T) {
	if impl.MaxQ != mostQ || len(stepsWanted()) != mostQ+1 {
		t.Errorf("MaxQ = %d", impl.MaxQ)
	}
}

func TestStepOf(t *testing.T) {
	for q, want := range stepsWanted() {
		if got := impl.StepOf(q); got != want {
			t.Errorf("StepOf(%d) = %d, want %d", q, got, want)
		}
	}
	for _, q := range notQ() {
		if got := impl.StepOf(q); got != 0 {
			t.Errorf("StepOf(%d) = %d, want 0", q, got)
		}
	}
}

func TestStepsNeverDecrease(t *testing.T) {
	last := 1
	for q := range mostQ + 1 {
		step := impl.StepOf(q)
		if step < last {
			t.Errorf("StepOf(%d) = %d after %d", q, step, last)
		}
		last = step
	}
}

func TestNormAt(t *testing.T) {
	for n, norms := range normsWanted() {
		for i, want := range norms {
			if got := impl.NormAt(n, i); got != want {
				t.Errorf("NormAt(%d, %d) = %d, want %d", n, i, got, want)
			}
		}
		for _, i := range []int{-1, -2, -n, -n * n, -1 << 32, math.MinInt, math.MinInt + 1, n * n, n*n + 1, n*n + n, 256, 1 << 31, 1 << 32, 1<<32 + 1, 1 << 62, math.MaxInt} {
			if got := impl.NormAt(n, i); got != 0 {
				t.Errorf("NormAt(%d, %d) = %d, want 0", n, i, got)
			}
		}
	}
}

func TestNormsOfOtherSizes(t *testing.T) {
	for _, n := range notSizes() {
		for _, i := range []int{-1, 0, 1, 5, 15, 16, 63, 64, math.MaxInt, math.MinInt} {
			if got := impl.NormAt(n, i); got != 0 {
				t.Errorf("NormAt(%d, %d) = %d, want 0", n, i, got)
			}
		}
	}
}

func TestScaled(t *testing.T) {
	for q, step := range stepsWanted() {
		for n, norms := range normsWanted() {
			mixed := make([]int, n*n)
			for i := range mixed {
				mixed[i] = 520*i - 16383
			}
			for _, l := range [][]int{mixed, make([]int, n*n), slices.Repeat([]int{16383}, n*n), slices.Repeat([]int{-16383}, n*n), slices.Repeat([]int{-1}, n*n)} {
				want := make([]int, n*n)
				for i, level := range l {
					want[i] = level * step * norms[i]
				}
				if got := impl.Scaled(l, q); !slices.Equal(got, want) {
					t.Fatalf("Scaled(%v, %d) = %v, want %v", l, q, got, want)
				}
			}
		}
	}
}

func TestScaledByHand(t *testing.T) {
	l := []int{1, 1, -1, 0, 2, 2, 0, -2, 3, 0, 0, 0, 0, 5, 0, 16383}
	want := []int{352 * 100, 352 * 40, -352 * 100, 0, 704 * 40, 704 * 16, 0, -704 * 16, 1056 * 100, 0, 0, 0, 0, 1760 * 16, 0, 92269056}
	if got := impl.Scaled(l, 51); !slices.Equal(got, want) {
		t.Errorf("Scaled(%v, 51) = %v, want %v", l, got, want)
	}
}

func TestOnlyLevelsAreScaled(t *testing.T) {
	for _, n := range blockSizes() {
		for _, level := range notLevels() {
			for i := range n * n {
				l := withLevels(n*n, 0, n, n*n-1)
				l[i] = level
				for _, q := range []int{0, mostQ, mostQ + 1} {
					if got := impl.Scaled(l, q); len(got) != 0 {
						t.Errorf("Scaled(%v, %d) = %v, want none", l, q, got)
					}
				}
			}
		}
	}
}

func TestOtherCountsAreNoBlock(t *testing.T) {
	for _, count := range notCounts() {
		if count < 0 || count > 1<<20 {
			continue
		}
		// Behind the numbers the memory goes on, far enough for a block.
		l := slices.Repeat([]int{3}, count+64)[:count]
		for _, q := range []int{-1, 0, 12, mostQ, mostQ + 1} {
			if got := impl.Scaled(l, q); len(got) != 0 {
				t.Errorf("Scaled of %d numbers by %d = %v, want none", count, q, got)
			}
			if got := impl.Quantized(l, q); len(got) != 0 {
				t.Errorf("Quantized of %d numbers by %d = %v, want none", count, q, got)
			}
		}
	}
	if got := append(impl.Scaled(nil, 0), impl.Quantized(nil, 0)...); len(got) != 0 {
		t.Errorf("Scaled and Quantized of nil = %v, want none", got)
	}
}

func TestQuantizingNeedsStep(t *testing.T) {
	for _, q := range notQ() {
		for _, n := range blockSizes() {
			for _, l := range [][]int{make([]int, n*n), withLevels(n*n, 0, n)} {
				if got := impl.Scaled(l, q); len(got) != 0 {
					t.Errorf("Scaled(%v, %d) = %v, want none", l, q, got)
				}
				if got := impl.Quantized(l, q); len(got) != 0 {
					t.Errorf("Quantized(%v, %d) = %v, want none", l, q, got)
				}
			}
		}
	}
}

// An even step has a tie between any two levels.
func TestTies(t *testing.T) {
	for _, c := range []struct{ q, tie, towards, away int }{
		{6, 1, 0, 1},
		{6, -1, 0, -1},
		{6, 3, 1, 2},
		{6, -3, -1, -2},
		{12, 2, 0, 1},
		{12, -2, 0, -1},
		{12, 6, 1, 2},
		{12, -6, -1, -2},
		{12, 10, 2, 3},
		{12, -10, -2, -3},
		{16, 3, 0, 1},
		{16, -9, -1, -2},
		{51, 176, 0, 1},
		{51, -176, 0, -1},
		{51, 528, 1, 2},
		{51, -528, -1, -2},
		{51, 999856, 2840, 2841},
		{51, -999856, -2840, -2841},
	} {
		checkTie(t, c.q, c.tie, c.towards, c.away)
	}
}

func TestEveryTie(t *testing.T) {
	for q, step := range stepsWanted() {
		if step%2 != 0 {
			continue
		}
		for k := 0; k < 16383 && k*step+step/2 < mostNumber; k++ {
			tie := k*step + step/2
			checkTie(t, q, tie, k, k+1)
			checkTie(t, q, -tie, -k, -k-1)
		}
	}
}

func TestOddStepsHaveNoTies(t *testing.T) {
	block := []int{0, 1, 2, 3, 4, 5, 6, 7, -1, -2, -3, -4, -5, -6, -7, -8}
	three := []int{0, 0, 1, 1, 1, 2, 2, 2, 0, -1, -1, -1, -2, -2, -2, -3}
	seven := []int{0, 0, 0, 0, 1, 1, 1, 1, 0, 0, 0, -1, -1, -1, -1, -1}
	for q, want := range map[int][]int{0: block, 5: block, 10: three, 11: three, 17: seven} {
		if got := impl.Quantized(block, q); !slices.Equal(got, want) {
			t.Errorf("Quantized(%v, %d) = %v, want %v", block, q, got, want)
		}
	}
}

func TestQuantizedFollowsDefinition(t *testing.T) {
	for q, step := range stepsWanted() {
		numbers := append(aroundTies(step), aroundLimits(step)...)
		for v := -2000; v <= 2000; v++ {
			numbers = append(numbers, v)
		}
		for v := -mostNumber - 12000; v <= mostNumber+12000; v += 97 {
			numbers = append(numbers, v)
		}
		for _, n := range blockSizes() {
			for _, block := range inBlocks(numbers, n) {
				want := make([]int, n*n)
				for i, v := range block {
					want[i] = levelWanted(v, step)
				}
				if got := impl.Quantized(block, q); !slices.Equal(got, want) {
					t.Fatalf("Quantized(%v, %d) = %v, want %v", block, q, got, want)
				}
			}
		}
	}
}

func TestWithinHalfStepUnlessLimited(t *testing.T) {
	for q := range mostQ + 1 {
		step := impl.StepOf(q)
		for _, block := range inBlocks(aroundTies(step), 8) {
			levels := impl.Quantized(block, q)
			if len(levels) != 64 {
				t.Fatalf("Quantized(%v, %d) = %v, want 64 levels", block, q, levels)
			}
			for i, v := range block {
				far := v - levels[i]*step
				limited := v > mostNumber || v < -mostNumber || levels[i] == 16383 && far > 0 || levels[i] == -16383 && far < 0
				if (2*far > step || 2*far < -step) && !limited {
					t.Fatalf("Quantized by %d makes %d of %d, more than half a step %d away", q, levels[i], v, step)
				}
			}
		}
	}
}

// By step 352 the limit 1000000 has the level 2841, and the tie 1000208 behind it is the first number that would have 2842.
func TestNumbersAreLimitedFirst(t *testing.T) {
	beyond := []int{mostNumber - 1, mostNumber, mostNumber + 1, 1000207, 1000208, 1000209, 1100000, 9000000, 1 << 31, 1 << 32, 1<<32 + 1, math.MaxInt - 176, math.MaxInt - 1, math.MaxInt}
	for _, v := range beyond {
		checkAlone(t, 51, v, 2841)
		checkAlone(t, 51, -v, -2841)
	}
	checkAlone(t, 51, math.MinInt, -2841)
}

func TestLevelsAreLimited(t *testing.T) {
	for _, c := range []struct{ q, number, level int }{
		{0, 16382, 16382},
		{0, 16383, 16383},
		{0, 16384, 16383},
		{0, 1000000, 16383},
		{6, 32764, 16382},
		{6, 32765, 16383},
		{6, 32766, 16383},
		{6, 32767, 16383},
		{6, 32768, 16383},
		{10, 49147, 16382},
		{10, 49148, 16383},
		{10, 49151, 16383},
		{10, 999999, 16383},
		{35, 917447, 16383},
		{35, 917419, 16382},
		{35, 1000000, 16383},
		{36, 1000000, 15625},
	} {
		block := slices.Repeat([]int{c.number, -c.number}, 32)
		want := slices.Repeat([]int{c.level, -c.level}, 32)
		for _, count := range levelCounts() {
			if got := impl.Quantized(block[:count], c.q); !slices.Equal(got, want[:count]) || !impl.LevelsOk(got) {
				t.Errorf("Quantized(%v, %d) = %v, want %v", block[:count], c.q, got, want[:count])
			}
		}
	}
}

// In a block of size 8 all norms are 1, so what Scaled makes of levels is a multiple of the step.
func TestQuantizedInvertsScaled(t *testing.T) {
	for q, step := range stepsWanted() {
		most := min(16383, mostNumber/step)
		for first := -most; first <= most; first += 64 {
			l := make([]int, 64)
			for i := range l {
				l[i] = min(first+i, most)
			}
			if got := impl.Quantized(impl.Scaled(l, q), q); !slices.Equal(got, l) {
				t.Fatalf("Quantized of Scaled(%v, %d) = %v", l, q, got)
			}
		}
	}
}

func TestQuantizingLeavesArgumentsAlone(t *testing.T) {
	for _, n := range blockSizes() {
		backing := withLevels(3*n*n, 0, n, n*n-1, n*n, 2*n*n)
		before := slices.Clone(backing)
		for _, count := range []int{n*n - 1, n * n, n*n + 1} {
			for _, q := range []int{0, 20, mostQ, mostQ + 1} {
				for _, change := range []func([]int, int) []int{impl.Scaled, impl.Quantized} {
					// A result that shared memory would change the argument with it.
					result := change(backing[:count], q)
					result = result[:cap(result)]
					for i := range result {
						result[i] = -9
					}
				}
			}
		}
		if !slices.Equal(backing, before) {
			t.Errorf("the argument became %v", backing)
		}
	}
}

func TestQuantizingIsNewEachTime(t *testing.T) {
	for _, n := range blockSizes() {
		l := withLevels(n*n, 0, n)
		for _, change := range []func([]int, int) []int{impl.Scaled, impl.Quantized} {
			first := change(l, 6)
			want := slices.Clone(first)
			for i := range first {
				first[i] = -9
			}
			if got := change(l, 6); !slices.Equal(got, want) {
				t.Errorf("the result %v has changed with an earlier one to %v", want, got)
			}
		}
	}
}
