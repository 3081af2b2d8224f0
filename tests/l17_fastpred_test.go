package tests

import (
	"math"
	"slices"
	"testing"

	"loop.example/g01613/impl"
)

// softenedWanted is Softened's definition.
func softenedWanted(l []int) []int {
	var samples, want []int
	for _, v := range l {
		samples = append(samples, between(0, v, mostSample))
	}
	for i := 2; i < len(l); i++ {
		want = append(want, smoothedWanted(samples[i-2], samples[i-1], samples[i]))
	}
	return want
}

func checkSoftened(t *testing.T, l, want []int) {
	t.Helper()
	if got := impl.Softened(l); !slices.Equal(got, want) {
		t.Errorf("Softened(%v) = %v, want %v", l, got, want)
	}
}

func checkSlopeRow(t *testing.T, b impl.Nb, n, y int, want []int) {
	t.Helper()
	if got := impl.SlopeRow(b, n, y); !slices.Equal(got, want) {
		t.Errorf("SlopeRow(%v, %d, %d) = %v, want %v", b, n, y, got, want)
	}
}

// checkNoSlopeRows checks that there is none, neither of a block's rows nor of others.
func checkNoSlopeRows(t *testing.T, b impl.Nb, n int) {
	t.Helper()
	for y := -1; y < 18; y++ {
		checkSlopeRow(t, b, n, y, nil)
	}
	for _, y := range []int{n - 1, n, math.MaxInt, math.MinInt} {
		checkSlopeRow(t, b, n, y, nil)
	}
}

// checkFastPred checks FastPred against Pred, and that it yields samples.
func checkFastPred(t *testing.T, mode int, b impl.Nb, n int) {
	t.Helper()
	got, want := impl.FastPred(mode, b, n), impl.Pred(mode, b, n)
	if !slices.Equal(got, want) {
		t.Errorf("FastPred(%d, %v, %d) = %v, want %v as Pred", mode, b, n, got, want)
	}
	for _, v := range got {
		if v < 0 || v > mostSample {
			t.Errorf("FastPred(%d, %v, %d) = %v, which has %d", mode, b, n, got, v)
		}
	}
}

// checkFastModes does the same for all modes and choices of flags.
func checkFastModes(t *testing.T, b impl.Nb, n int) {
	t.Helper()
	for _, b := range everyFlags(b) {
		for _, mode := range allModes() {
			checkFastPred(t, mode, b, n)
		}
	}
}

// fullOrEmpty is the neighborhood of a block of size n whose samples are 255 where the bit of their place is set, and otherwise 0.
func fullOrEmpty(n, bits int) impl.Nb {
	l := make([]int, 3*n+1)
	for i := range l {
		l[i] = bits >> i & 1 * mostSample
	}
	return cutNb(l, n)
}

func TestSoftenedByHand(t *testing.T) {
	checkSoftened(t, []int{0, 10, 20, 300}, []int{10, 76})
	checkSoftened(t, []int{1, 2, 3}, []int{2})
	checkSoftened(t, []int{0, 0, 1}, []int{0})
	checkSoftened(t, []int{0, 0, 2}, []int{1})
	checkSoftened(t, []int{0, 1, 0}, []int{1})
	checkSoftened(t, []int{255, 0, 0}, []int{64})
	checkSoftened(t, []int{0, 255, 0}, []int{128})
	checkSoftened(t, []int{255, 0, 255}, []int{128})
	checkSoftened(t, []int{255, 255, 254}, []int{255})
	checkSoftened(t, []int{7, 100, 50, 0, 13, 200}, []int{64, 50, 16, 57})
	checkSoftened(t, []int{-5, 0, 2}, []int{1})
	checkSoftened(t, []int{-1, -1, -1}, []int{0})
	checkSoftened(t, []int{256, 256, 256}, []int{255})
	checkSoftened(t, []int{1000, -1000, 1000}, []int{128})
	checkSoftened(t, []int{-1000, 1000, -1000, 40}, []int{128, 74})
	checkSoftened(t, []int{math.MinInt, math.MaxInt, math.MinInt, math.MaxInt}, []int{128, 128})
	checkSoftened(t, []int{math.MaxInt, math.MaxInt, math.MaxInt}, []int{255})
	checkSoftened(t, []int{math.MinInt, math.MinInt, math.MinInt}, []int{0})
}

// Each number is limited before it is smoothed, so that one beyond the range counts as the end of the range.
func TestSoftenedOfThree(t *testing.T) {
	values := append(notSamples(), 0, 1, 2, 3, 4, 127, 128, 252, 253, 254, mostSample)
	for _, p := range values {
		for _, q := range values {
			for _, r := range values {
				checkSoftened(t, []int{p, q, r}, softenedWanted([]int{p, q, r}))
			}
		}
	}
}

func TestSoftenedOfEqualNumbers(t *testing.T) {
	for v := range mostSample + 1 {
		for count := 3; count < 20; count++ {
			checkSoftened(t, slices.Repeat([]int{v}, count), slices.Repeat([]int{v}, count-2))
		}
	}
	for _, v := range notSamples() {
		checkSoftened(t, slices.Repeat([]int{v}, 9), slices.Repeat([]int{between(0, v, mostSample)}, 7))
	}
}

// Behind the numbers the memory goes on, and would make up for those that are missing.
func TestSoftenedOfFew(t *testing.T) {
	checkSoftened(t, nil, nil)
	for count := range 3 {
		checkSoftened(t, inFrontOf(count), nil)
		checkSoftened(t, slices.Repeat([]int{mostSample}, count), nil)
	}
	checkSoftened(t, inFrontOf(3), []int{3})
}

// A number counts for three results, twice for the one in the middle, wherever in the list it is.
func TestSoftenedOfOneAmongOthers(t *testing.T) {
	for count := 3; count < 40; count++ {
		for place := range count {
			for _, v := range []int{1, 2, 3, 100, mostSample, 256, math.MaxInt, -1, math.MinInt} {
				want := make([]int, count-2)
				for i := range want {
					switch place - i {
					case 0, 2:
						want[i] = (between(0, v, mostSample) + 2) / 4
					case 1:
						want[i] = (2*between(0, v, mostSample) + 2) / 4
					}
				}
				checkSoftened(t, only(count, place, v), want)
			}
		}
	}
}

func TestSoftenedByDefinition(t *testing.T) {
	for _, most := range []int{mostSample, 2 * mostSample, 100000} {
		for _, l := range unevenBlocks(8, 30, most) {
			for count := range len(l) + 1 {
				checkSoftened(t, l[:count], softenedWanted(l[:count]))
				checkSoftened(t, l[len(l)-count:], softenedWanted(l[len(l)-count:]))
			}
		}
	}
	long := slices.Concat(unevenBlocks(8, 200, 400)...)
	checkSoftened(t, long, softenedWanted(long))
}

func TestSoftenedIsNew(t *testing.T) {
	for _, count := range []int{1, 2, 3, 9, 17} {
		checkArgumentLeft(t, "Softened", impl.Softened, count)
	}
	checkNewEachTime(t, "Softened of all but two", func(l []int) []int { return impl.Softened(append([]int{1, 2}, l...)) }, 16)
}

func TestSlopeRowByHand(t *testing.T) {
	four := impl.Nb{Top: []int{10, 20, 31, 44, 58, 62, 70, 91}, Left: []int{3, 60, 250, 0}, Corner: 17}
	for _, b := range everyFlags(four) {
		checkSlopeRow(t, b, 4, 0, []int{0, 6, 17, 30})
		checkSlopeRow(t, b, 4, 1, []int{53, 63, 74, 87})
		checkSlopeRow(t, b, 4, 2, []int{243, 253, 255, 255})
		checkSlopeRow(t, b, 4, 3, []int{0, 3, 14, 27})
		checkNoSlopeRows(t, b, 8)
	}
	eight := impl.Nb{
		Top:    []int{0, 16, 0, 16, 0, 255, 0, 100, 1, 1, 1, 1, 1, 1, 1, 1},
		Left:   []int{8, 9, 7, 0, 255, 100, 16, 24},
		Corner: 8,
	}
	for _, b := range everyFlags(eight) {
		checkSlopeRow(t, b, 8, 0, []int{0, 16, 0, 16, 0, 255, 0, 100})
		checkSlopeRow(t, b, 8, 1, []int{1, 17, 1, 17, 1, 255, 1, 101})
		checkSlopeRow(t, b, 8, 2, []int{0, 15, 0, 15, 0, 254, 0, 99})
		checkSlopeRow(t, b, 8, 3, []int{0, 8, 0, 8, 0, 247, 0, 92})
		checkSlopeRow(t, b, 8, 4, []int{247, 255, 247, 255, 247, 255, 247, 255})
		checkSlopeRow(t, b, 8, 5, []int{92, 108, 92, 108, 92, 255, 92, 192})
		checkSlopeRow(t, b, 8, 6, []int{8, 24, 8, 24, 8, 255, 8, 108})
		checkSlopeRow(t, b, 8, 7, []int{16, 32, 16, 32, 16, 255, 16, 116})
		checkNoSlopeRows(t, b, 4)
	}
}

func TestSlopeRowByDefinition(t *testing.T) {
	for _, n := range blockSizes() {
		for _, b := range validNbs(n) {
			whole := impl.Pred(impl.MoSlope, b, n)
			for y := range n {
				var want []int
				for x := range n {
					want = append(want, predWanted(impl.MoSlope, b, n, x, y))
				}
				checkSlopeRow(t, b, n, y, want)
				checkSlopeRow(t, b, n, y, whole[y*n:y*n+n])
			}
		}
	}
}

// Every sum in each row, where the other rows would have other ones.
func TestSlopeRowOfEachSum(t *testing.T) {
	for _, n := range blockSizes() {
		for _, corner := range []int{0, 1, 2, 127, 128, 200, 254, mostSample} {
			for left := range mostSample + 1 {
				for top := 0; top <= mostSample; top += n {
					y := (left + top/n) % n
					b := equalNb(n, mostSample-left)
					b.Left[y], b.Corner = left, corner
					var want []int
					for x := range n {
						b.Top[x] = top + x
						want = append(want, between(0, left+top+x-corner, mostSample))
					}
					checkSlopeRow(t, b, n, y, want)
				}
			}
		}
	}
}

func TestSlopeRowsOutside(t *testing.T) {
	for _, n := range blockSizes() {
		for _, b := range everyFlags(cutNb(unevenSamples(n), n)) {
			for _, y := range outside(n) {
				checkSlopeRow(t, b, n, y, nil)
			}
		}
	}
}

func TestSlopeRowFromNoNeighborhood(t *testing.T) {
	for _, n := range blockSizes() {
		for _, invalid := range notNbs(n) {
			for _, b := range everyFlags(invalid) {
				checkNoSlopeRows(t, b, n)
			}
		}
		b := cutNb(unevenSamples(n), n)
		for _, other := range notSizes() {
			checkNoSlopeRows(t, b, other)
		}
	}
	for n := range 20 {
		if n != 4 && n != 8 {
			checkNoSlopeRows(t, equalNb(n, 60), n)
		}
	}
}

func TestSlopeRowIsNewEachTime(t *testing.T) {
	for _, n := range blockSizes() {
		// Without a rise the row is the beginning of Top, and must be a copy of it.
		for _, b := range []impl.Nb{cutNb(unevenSamples(n), n), equalNb(n, 50)} {
			for y := range n {
				want := predBlockWanted(impl.MoSlope, b, n)[y*n : y*n+n]
				checkNewFrom(t, b, want, func() []int { return impl.SlopeRow(b, n, y) })
			}
		}
	}
}

func TestFastPredAgreesWithPred(t *testing.T) {
	for _, n := range blockSizes() {
		for _, b := range validNbs(n) {
			for _, mode := range allModes() {
				checkFastPred(t, mode, b, n)
			}
		}
		for _, l := range unevenBlocks(8, 3000, mostSample) {
			for i, v := range l {
				l[i] = max(v, -v)
			}
			checkFastModes(t, cutNb(l, n), n)
		}
	}
}

// Where empty and full samples meet, sums leave the range and smoothed values reach its ends.
func TestFastPredOfFullAndEmptyNeighbors(t *testing.T) {
	for bits := range 1 << (3*4 + 1) {
		checkFastModes(t, fullOrEmpty(4, bits), 4)
	}
	for bits := 0; bits < 1<<(3*8+1); bits += 5003 {
		checkFastModes(t, fullOrEmpty(8, bits), 8)
	}
}

// Without neighbors the mean is 128, whatever the samples are.
func TestFastPredOfEqualNeighbors(t *testing.T) {
	for _, n := range blockSizes() {
		for v := range mostSample + 1 {
			for k, b := range everyFlags(equalNb(n, v)) {
				for _, mode := range allModes() {
					want := slices.Repeat([]int{v}, n*n)
					if mode == impl.MoMean && k == 0 {
						want = slices.Repeat([]int{meanOfNone}, n*n)
					}
					if got := impl.FastPred(mode, b, n); !slices.Equal(got, want) {
						t.Errorf("FastPred(%d, %v, %d) = %v, want %v", mode, b, n, got, want)
					}
				}
			}
		}
	}
}

// Both refuse the same arguments, and all of them with no block at all.
func TestFastPredRefusesWhatPredRefuses(t *testing.T) {
	sizes := append(notSizes(), blockSizes()...)
	modes := append(notModes(), allModes()...)
	for _, n := range blockSizes() {
		for _, size := range sizes {
			for _, mode := range modes {
				valid := size == n && slices.Contains(allModes(), mode)
				b := cutNb(unevenSamples(n), n)
				checkFastPred(t, mode, b, size)
				if got := impl.FastPred(mode, b, size); len(got) != 0 != valid {
					t.Errorf("FastPred(%d, %v, %d) = %v", mode, b, size, got)
				}
			}
		}
		for _, b := range notNbs(n) {
			for _, mode := range modes {
				checkFastPred(t, mode, b, n)
			}
		}
	}
}

// Each row of MoLeft is the one above it without its first sample, and the last row ends with the repeated sample.
func TestRowsOfLeft(t *testing.T) {
	for _, n := range blockSizes() {
		for _, b := range validNbs(n) {
			got := impl.FastPred(impl.MoLeft, b, n)
			soft := softenedWanted(append(slices.Clone(b.Top), b.Top[2*n-1]))
			if len(soft) != 2*n-1 || !slices.Equal(got[:n], soft[:n]) {
				t.Errorf("the first row of FastPred(%v, %d) to the left is %v, want the beginning of %v", b, n, got[:n], soft)
			}
			for y := 1; y < n; y++ {
				row, above := got[y*n:y*n+n], got[y*n-n:y*n]
				if !slices.Equal(row, append(slices.Clone(above[1:]), soft[y+n-1])) {
					t.Errorf("row %d of FastPred(%v, %d) to the left is %v below %v, want %d last", y, b, n, row, above, soft[y+n-1])
				}
			}
			if last := smoothedWanted(b.Top[2*n-2], b.Top[2*n-1], b.Top[2*n-1]); got[n*n-1] != last {
				t.Errorf("the last sample of FastPred(%v, %d) to the left is %d, want %d", b, n, got[n*n-1], last)
			}
		}
	}
}

// Each row of MoRight is the one above it without its last sample, behind the next one down the left side.
func TestRowsOfRight(t *testing.T) {
	for _, n := range blockSizes() {
		for _, b := range validNbs(n) {
			got := impl.FastPred(impl.MoRight, b, n)
			soft := softenedWanted(borderWanted(b, n))
			if len(soft) != 2*n-1 || !slices.Equal(got[:n], soft[n-1:]) {
				t.Errorf("the first row of FastPred(%v, %d) to the right is %v, want the end of %v", b, n, got[:n], soft)
			}
			for y := 1; y < n; y++ {
				row, above := got[y*n:y*n+n], got[y*n-n:y*n]
				if !slices.Equal(row, append([]int{soft[n-1-y]}, above[:n-1]...)) {
					t.Errorf("row %d of FastPred(%v, %d) to the right is %v below %v, want %d first", y, b, n, row, above, soft[n-1-y])
				}
			}
			if first := smoothedWanted(b.Left[0], b.Corner, b.Top[0]); got[0] != first || got[n*n-1] != first {
				t.Errorf("FastPred(%v, %d) to the right goes from %d to %d, want %d", b, n, got[0], got[n*n-1], first)
			}
		}
	}
}

func TestRowsOfDiagonalModesByHand(t *testing.T) {
	b := impl.Nb{Top: []int{0, 4, 8, 12, 16, 20, 24, 40}, Left: []int{100, 80, 60, 20}, Corner: 52}
	checkPredBlock(t, impl.MoLeft, b, 4, []int{
		4, 8, 12, 16,
		8, 12, 16, 20,
		12, 16, 20, 27,
		16, 20, 27, 36,
	})
	checkPredBlock(t, impl.MoRight, b, 4, []int{
		51, 14, 4, 8,
		83, 51, 14, 4,
		80, 83, 51, 14,
		55, 80, 83, 51,
	})
}
