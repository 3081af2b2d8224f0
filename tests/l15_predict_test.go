package tests

import (
	"math"
	"slices"
	"strconv"
	"testing"

	"loop.example/g01613/impl"
)

func allModes() []int {
	return []int{impl.MoMean, impl.MoDown, impl.MoAcross, impl.MoSlope, impl.MoLeft, impl.MoRight}
}

// notModes are no modes, some of which look like one in fewer bits or by their absolute value.
func notModes() []int {
	return []int{-1, -2, -3, -4, -5, -6, -7, 6, 7, 8, 9, 10, 11, 12, 16, 64, 128, 255, 256, 256 + 5, 65536 + 4, 1 << 31, -1 << 31, 1 << 32, 1<<32 + 3, -1<<32 + 3, 1<<62 + 2, 1<<63 - 6, math.MaxInt, math.MinInt, math.MinInt + 1, math.MinInt + 5}
}

// outside are no columns and no rows of a block of size n, some of which look like one in fewer bits or next to another.
func outside(n int) []int {
	return []int{-1, -2, -3, -4, -n, -n - 1, -2 * n, n, n + 1, 2*n - 2, 2*n - 1, 2 * n, 3 * n, n * n, 255, 256, 256 + 1, 65536, 1 << 31, -1 << 31, 1 << 32, 1<<32 + 1, -1<<32 + 1, 1<<62 + 1, math.MaxInt, math.MaxInt - 1, math.MinInt, math.MinInt + 1}
}

// notNbs are no neighborhoods of a block of size n: a sample too few or too many, wrong samples at each place, and none at all.
func notNbs(n int) []impl.Nb {
	all := []impl.Nb{
		{},
		equalNb(12-n, 50),
		{Top: inFrontOf(2*n - 1), Left: inFrontOf(n)},
		{Top: inFrontOf(2*n + 1), Left: inFrontOf(n)},
		{Top: inFrontOf(n), Left: inFrontOf(n)},
		{Top: inFrontOf(n), Left: inFrontOf(2 * n)},
		{Top: inFrontOf(2 * n), Left: inFrontOf(n - 1)},
		{Top: inFrontOf(2 * n), Left: inFrontOf(n + 1)},
		{Top: inFrontOf(2 * n)},
		{Left: inFrontOf(n)},
	}
	for i := range 3*n + 1 {
		for _, v := range []int{-1, mostSample + 1, 1<<32 + 5, math.MaxInt, math.MinInt} {
			l := samplesOf(equalNb(n, 50))
			l[i] = v
			all = append(all, cutNb(l, n))
		}
	}
	return all
}

// smoothedWanted is the smoothed value's definition as a fraction, which a float holds exactly.
func smoothedWanted(a, b, c int) int {
	return int(math.Floor(float64(a+b+b+c+2) / 4))
}

// between is the number from least to most that is closest to v: the middle one of the three.
func between(least, v, most int) int {
	l := []int{least, v, most}
	slices.Sort(l)
	return l[1]
}

// predWanted is PredAt's definition for a valid neighborhood, a mode and a position of the block.
func predWanted(mode int, b impl.Nb, n, x, y int) int {
	switch mode {
	case 0:
		return meanWanted(b, n)
	case 1:
		return b.Top[x]
	case 2:
		return b.Left[y]
	case 3:
		return between(0, b.Left[y]+b.Top[x]-b.Corner, mostSample)
	case 4:
		l := append(slices.Clone(b.Top), slices.Repeat(b.Top[2*n-1:], n)...)[x+y:]
		return smoothedWanted(l[0], l[1], l[2])
	}
	l := borderWanted(b, n)[x-y+n-1:]
	return smoothedWanted(l[0], l[1], l[2])
}

func predBlockWanted(mode int, b impl.Nb, n int) []int {
	var block []int
	for y := range n {
		for x := range n {
			block = append(block, predWanted(mode, b, n, x, y))
		}
	}
	return block
}

func checkPredAt(t *testing.T, mode int, b impl.Nb, n, x, y, want int) {
	t.Helper()
	if got := impl.PredAt(mode, b, n, x, y); got != want {
		t.Errorf("PredAt(%d, %v, %d, %d, %d) = %d, want %d", mode, b, n, x, y, got, want)
	}
}

// A blockPred is a function that predicts a block.
type blockPred struct {
	name string
	of   func(mode int, b impl.Nb, n int) []int
}

func blockPreds() []blockPred {
	return []blockPred{{"Pred", impl.Pred}, {"FastPred", impl.FastPred}}
}

// checkPredBlock checks the prediction of a block, and at each of its positions.
func checkPredBlock(t *testing.T, mode int, b impl.Nb, n int, want []int) {
	t.Helper()
	for _, pred := range blockPreds() {
		if got := pred.of(mode, b, n); !slices.Equal(got, want) {
			t.Errorf("%s(%d, %v, %d) = %v, want %v", pred.name, mode, b, n, got, want)
		}
	}
	for i, v := range want {
		checkPredAt(t, mode, b, n, i%n, i/n, v)
	}
}

// checkNoPred checks that the mode has no prediction, at the positions of a block and at others.
func checkNoPred(t *testing.T, mode int, b impl.Nb, n int) {
	t.Helper()
	for _, pred := range blockPreds() {
		if got := pred.of(mode, b, n); len(got) != 0 {
			t.Errorf("%s(%d, %v, %d) = %v, want none", pred.name, mode, b, n, got)
		}
	}
	for _, x := range []int{-1, 0, 3, 4, 7, 8, n - 1, n} {
		for _, y := range []int{-1, 0, 3, 4, 7, 8, n - 1, n} {
			checkPredAt(t, mode, b, n, x, y, -1)
		}
	}
}

// checkNewFrom checks that the function returns the same numbers again, and shares no memory with an earlier result nor with the neighborhood.
func checkNewFrom(t *testing.T, b impl.Nb, want []int, of func() []int) {
	t.Helper()
	before := samplesOf(b)
	for range 2 {
		got := of()
		if !slices.Equal(got, want) {
			t.Errorf("the result is %v, want %v as before", got, want)
		}
		got = got[:cap(got)]
		for i := range got {
			got[i] = -9
		}
	}
	if !slices.Equal(samplesOf(b), before) {
		t.Errorf("the neighborhood became %v", b)
	}
}

func TestModes(t *testing.T) {
	words := []string{"mean", "down", "across", "slope", "left", "right"}
	if len(allModes()) != impl.Modes {
		t.Errorf("there are %d modes, want %d", len(allModes()), impl.Modes)
	}
	for mode, want := range words {
		if allModes()[mode] != mode || impl.ModeWord(mode) != want {
			t.Errorf("the mode %s is %d, ModeWord(%d) = %q", want, allModes()[mode], mode, impl.ModeWord(mode))
		}
	}
	for _, mode := range notModes() {
		if got := impl.ModeWord(mode); got != "" {
			t.Errorf("ModeWord(%d) = %q, want the empty string", mode, got)
		}
	}
}

func TestPredictionByHandOfFour(t *testing.T) {
	b := impl.Nb{Top: []int{10, 20, 31, 44, 58, 62, 70, 91}, Left: []int{3, 60, 250, 0}, Corner: 17, HasTop: true, HasLeft: true}
	checkPredBlock(t, impl.MoMean, b, 4, slices.Repeat([]int{52}, 16))
	checkPredBlock(t, impl.MoDown, b, 4, []int{
		10, 20, 31, 44,
		10, 20, 31, 44,
		10, 20, 31, 44,
		10, 20, 31, 44,
	})
	checkPredBlock(t, impl.MoAcross, b, 4, []int{
		3, 3, 3, 3,
		60, 60, 60, 60,
		250, 250, 250, 250,
		0, 0, 0, 0,
	})
	checkPredBlock(t, impl.MoSlope, b, 4, []int{
		0, 6, 17, 30,
		53, 63, 74, 87,
		243, 253, 255, 255,
		0, 3, 14, 27,
	})
	checkPredBlock(t, impl.MoLeft, b, 4, []int{
		20, 32, 44, 56,
		32, 44, 56, 63,
		44, 56, 63, 73,
		56, 63, 73, 86,
	})
	checkPredBlock(t, impl.MoRight, b, 4, []int{
		12, 14, 20, 32,
		21, 12, 14, 20,
		93, 21, 12, 14,
		140, 93, 21, 12,
	})
}

func TestPredictionByHandOfEight(t *testing.T) {
	b := impl.Nb{
		Top:     []int{0, 16, 0, 16, 0, 16, 0, 16, 200, 200, 200, 200, 200, 200, 100, 255},
		Left:    []int{40, 40, 40, 40, 80, 80, 80, 80},
		Corner:  8,
		HasLeft: true,
	}
	checkPredBlock(t, impl.MoMean, b, 8, slices.Repeat([]int{60}, 64))
	checkPredBlock(t, impl.MoDown, b, 8, slices.Repeat([]int{0, 16}, 32))
	checkPredBlock(t, impl.MoAcross, b, 8, append(slices.Repeat([]int{40}, 32), slices.Repeat([]int{80}, 32)...))
	checkPredBlock(t, impl.MoSlope, b, 8, append(slices.Repeat([]int{32, 48}, 16), slices.Repeat([]int{72, 88}, 16)...))
	checkPredBlock(t, impl.MoLeft, b, 8, []int{
		8, 8, 8, 8, 8, 8, 58, 154,
		8, 8, 8, 8, 8, 58, 154, 200,
		8, 8, 8, 8, 58, 154, 200, 200,
		8, 8, 8, 58, 154, 200, 200, 200,
		8, 8, 58, 154, 200, 200, 200, 200,
		8, 58, 154, 200, 200, 200, 200, 175,
		58, 154, 200, 200, 200, 200, 175, 164,
		154, 200, 200, 200, 200, 175, 164, 216,
	})
	checkPredBlock(t, impl.MoRight, b, 8, []int{
		14, 6, 8, 8, 8, 8, 8, 8,
		32, 14, 6, 8, 8, 8, 8, 8,
		40, 32, 14, 6, 8, 8, 8, 8,
		40, 40, 32, 14, 6, 8, 8, 8,
		50, 40, 40, 32, 14, 6, 8, 8,
		70, 50, 40, 40, 32, 14, 6, 8,
		80, 70, 50, 40, 40, 32, 14, 6,
		80, 80, 70, 50, 40, 40, 32, 14,
	})
}

func TestPredictionByDefinition(t *testing.T) {
	for _, n := range blockSizes() {
		for _, b := range validNbs(n) {
			for _, mode := range allModes() {
				want := predBlockWanted(mode, b, n)
				checkPredBlock(t, mode, b, n, want)
				if slices.Min(want) < 0 || slices.Max(want) > mostSample {
					t.Fatalf("the test wants %v of Pred(%d, %v, %d)", want, mode, b, n)
				}
			}
		}
	}
}

// Without neighbors the mean is 128, whatever the samples are; all other modes do not ask for flags.
func TestPredictionOfEqualNeighbors(t *testing.T) {
	for _, n := range blockSizes() {
		for v := range mostSample + 1 {
			for k, b := range everyFlags(equalNb(n, v)) {
				for _, mode := range allModes() {
					want := v
					if mode == impl.MoMean && k == 0 {
						want = meanOfNone
					}
					checkPredBlock(t, mode, b, n, slices.Repeat([]int{want}, n*n))
				}
			}
		}
	}
}

// The last sample of the top row is the third of the smoothed ones before the last corner of a block, and there the second and the third.
func TestLastSampleOfTop(t *testing.T) {
	for _, n := range blockSizes() {
		for v := range mostSample + 1 {
			for _, before := range []int{0, 1, 2, 3, 100, 253, 254, mostSample} {
				b := equalNb(n, before)
				b.Top[2*n-1] = v
				want := slices.Repeat([]int{before}, n*n)
				want[n*n-2] = (3*before + v + 2) / 4
				want[n*n-1-n] = want[n*n-2]
				want[n*n-1] = (before + 3*v + 2) / 4
				checkPredBlock(t, impl.MoLeft, b, n, want)
				for _, mode := range []int{impl.MoMean, impl.MoDown, impl.MoAcross, impl.MoSlope, impl.MoRight} {
					b.HasTop = true
					checkPredBlock(t, mode, b, n, slices.Repeat([]int{before}, n*n))
				}
			}
		}
	}
}

// Above the block itself the top row ends with the last element of Border, and what follows counts only for MoLeft.
func TestLastSampleAboveTheBlock(t *testing.T) {
	for _, n := range blockSizes() {
		for v := range mostSample + 1 {
			b := equalNb(n, 90)
			b.Top[n-1] = v
			want := slices.Repeat([]int{90}, n*n)
			want[n-1] = (90 + 2*90 + v + 2) / 4
			checkPredBlock(t, impl.MoRight, b, n, want)
			b = equalNb(n, 90)
			b.Top[n] = v
			checkPredBlock(t, impl.MoRight, b, n, slices.Repeat([]int{90}, n*n))
			b = equalNb(n, 90)
			b.Left[n-1] = v
			want[n-1] = 90
			want[n*n-n] = (v + 2*90 + 90 + 2) / 4
			checkPredBlock(t, impl.MoRight, b, n, want)
		}
	}
}

// MoRight reads Border around the corner: along the diagonal the corner counts twice, and beside it once.
func TestCornerOfTheBlock(t *testing.T) {
	for _, n := range blockSizes() {
		for v := range mostSample + 1 {
			b := equalNb(n, 70)
			b.Corner = v
			var want []int
			for i := range n * n {
				switch x, y := i%n, i/n; x - y {
				case 0:
					want = append(want, (70+2*v+70+2)/4)
				case 1, -1:
					want = append(want, (v+2*70+70+2)/4)
				default:
					want = append(want, 70)
				}
			}
			checkPredBlock(t, impl.MoRight, b, n, want)
		}
	}
}

func TestSlopeOfEachSum(t *testing.T) {
	for _, n := range blockSizes() {
		for _, corner := range []int{0, 1, 2, 127, 128, 200, 254, mostSample} {
			for left := range mostSample + 1 {
				for top := 0; top <= mostSample; top += n {
					b := equalNb(n, corner)
					for i := range n {
						b.Top[i], b.Left[i] = top+i, left
					}
					for x := range n {
						want := max(0, min(left+top+x-corner, mostSample))
						checkPredAt(t, impl.MoSlope, b, n, x, left%n, want)
					}
				}
			}
		}
	}
}

// Each rounding of a quarter, at both ends of the range of samples, in each place where three neighbors are smoothed.
func TestSmoothingOfThree(t *testing.T) {
	values := []int{0, 1, 2, 3, 4, 127, 128, 252, 253, 254, mostSample}
	for _, n := range blockSizes() {
		for _, p := range values {
			for _, q := range values {
				for _, r := range values {
					checkSmoothing(t, n, p, q, r)
				}
			}
		}
	}
}

// checkSmoothing checks every place of three neighbors with these values at one position of the block.
func checkSmoothing(t *testing.T, n, p, q, r int) {
	t.Helper()
	want := (p + 2*q + r + 2) / 4
	for first := range 2*n - 2 {
		b := equalNb(n, 33)
		b.Top[first], b.Top[first+1], b.Top[first+2] = p, q, r
		checkPredAt(t, impl.MoLeft, b, n, first/2, first-first/2, want)
		checkPredAt(t, impl.MoLeft, b, n, first-first/2, first/2, want)
	}
	for middle := 1; middle < 2*n; middle++ {
		border := slices.Repeat([]int{33}, 2*n+1)
		border[middle-1], border[middle], border[middle+1] = p, q, r
		b := equalNb(n, 44)
		b.Corner = border[n]
		for i := range n {
			b.Left[i], b.Top[i] = border[n-1-i], border[n+1+i]
		}
		x, y := max(0, middle-n), max(0, n-middle)
		for x < n && y < n {
			checkPredAt(t, impl.MoRight, b, n, x, y, want)
			x, y = x+1, y+1
		}
	}
}

func TestPositionsOutside(t *testing.T) {
	for _, n := range blockSizes() {
		for _, b := range everyFlags(cutNb(unevenSamples(n), n)) {
			for _, mode := range allModes() {
				for _, v := range outside(n) {
					for i := range n {
						checkPredAt(t, mode, b, n, v, i, -1)
						checkPredAt(t, mode, b, n, i, v, -1)
					}
					for _, w := range outside(n) {
						checkPredAt(t, mode, b, n, v, w, -1)
					}
				}
			}
		}
	}
}

// unevenSamples are the samples of a neighborhood of a block of size n in no order.
func unevenSamples(n int) []int {
	l := unevenBlocks(8, 1, mostSample)[0][:3*n+1]
	for i, v := range l {
		l[i] = max(v, -v)
	}
	return l
}

func TestOtherModes(t *testing.T) {
	for _, n := range blockSizes() {
		for _, b := range everyFlags(cutNb(unevenSamples(n), n)) {
			for _, mode := range notModes() {
				checkNoPred(t, mode, b, n)
			}
		}
		for _, b := range notNbs(n) {
			checkNoPred(t, -1, b, n)
			checkNoPred(t, impl.Modes, b, n)
		}
	}
}

// Each wrong sample counts, whether or not the mode would read it and whatever the flags are.
func TestPredictionFromNoNeighborhood(t *testing.T) {
	for _, n := range blockSizes() {
		for _, invalid := range notNbs(n) {
			for _, b := range everyFlags(invalid) {
				for _, mode := range allModes() {
					checkNoPred(t, mode, b, n)
				}
			}
		}
	}
}

func TestPredictionOfOtherSizes(t *testing.T) {
	for _, mode := range allModes() {
		for _, n := range blockSizes() {
			b := cutNb(unevenSamples(n), n)
			checkNoPred(t, mode, b, 12-n)
			for _, other := range notSizes() {
				checkNoPred(t, mode, b, other)
			}
		}
		// A neighborhood that has the counts of samples that the size asks for does not make it valid.
		for n := range 20 {
			if n != 4 && n != 8 {
				checkNoPred(t, mode, equalNb(n, 60), n)
			}
		}
	}
}

// Behind both lists the memory goes on with other numbers, which may be the other list's.
func TestPredictionFromOneList(t *testing.T) {
	for _, n := range blockSizes() {
		backing := make([]int, 8*n)
		for i := range backing {
			backing[i] = i * i % (mostSample + 1)
		}
		before := slices.Clone(backing)
		for _, b := range []impl.Nb{
			{Top: backing[:2*n], Left: backing[2*n : 3*n], Corner: 5},
			{Left: backing[:n], Top: backing[n : 3*n], Corner: 6},
			{Left: backing[1 : 1+n], Top: backing[:2*n], Corner: 7},
			{Left: backing[2 : 2+n : 2+n], Top: backing[3 : 3+2*n : 3+2*n], Corner: 8},
		} {
			for _, b := range everyFlags(b) {
				for _, mode := range allModes() {
					checkPredBlock(t, mode, b, n, predBlockWanted(mode, b, n))
				}
			}
		}
		if !slices.Equal(backing, before) {
			t.Errorf("the neighbors became %v", backing)
		}
	}
}

func TestPredIsNewEachTime(t *testing.T) {
	for _, n := range blockSizes() {
		b := cutNb(unevenSamples(n), n)
		b.HasTop, b.HasLeft = true, true
		for _, mode := range allModes() {
			for _, pred := range blockPreds() {
				t.Run(pred.name+" "+impl.ModeWord(mode)+strconv.Itoa(n), func(t *testing.T) {
					want := predBlockWanted(mode, b, n)
					checkNewFrom(t, b, want, func() []int { return pred.of(mode, b, n) })
				})
			}
		}
	}
}
