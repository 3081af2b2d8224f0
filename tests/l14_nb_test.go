package tests

import (
	"math"
	"slices"
	"testing"

	"loop.example/g01613/impl"
)

const (
	mostSample = 255
	meanOfNone = 128
)

// notSamples are out of range, some of which look like a sample in fewer bits or by their absolute value.
func notSamples() []int {
	return []int{-1, -2, -128, -255, -256, -257, 256, 257, 300, 383, 511, 512, 65535, 65536, 65536 + 5, -65536, 1<<31 - 1, 1 << 31, -1 << 31, 1 << 32, 1<<32 + 5, -1<<32 + 5, 1<<62 + 5, math.MaxInt, math.MaxInt - 255, math.MinInt, math.MinInt + 5}
}

// everyFlags are the neighborhood with each choice of HasTop and HasLeft, neither of them first.
func everyFlags(b impl.Nb) []impl.Nb {
	var all []impl.Nb
	for k := range 4 {
		b.HasTop, b.HasLeft = k%2 == 1, k/2 == 1
		all = append(all, b)
	}
	return all
}

// equalNb is the neighborhood of a block of size n in which all samples are v.
func equalNb(n, v int) impl.Nb {
	return impl.Nb{Top: slices.Repeat([]int{v}, 2*n), Left: slices.Repeat([]int{v}, n), Corner: v}
}

// cutNb is the neighborhood of a block of size n that consists of 3*n+1 samples: Top, Corner and Left.
func cutNb(l []int, n int) impl.Nb {
	return impl.Nb{Top: slices.Clone(l[:2*n]), Corner: l[2*n], Left: slices.Clone(l[2*n+1 : 3*n+1])}
}

// samplesOf are the samples of a neighborhood from which cutNb makes it.
func samplesOf(b impl.Nb) []int {
	return slices.Concat(b.Top, []int{b.Corner}, b.Left)
}

// validNbs are neighborhoods of a block of size n: equal samples, rising and falling ones, one that differs from the others at each place, and ones in no order; each with every choice of flags.
func validNbs(n int) []impl.Nb {
	count := 3*n + 1
	rising, falling := make([]int, count), make([]int, count)
	for i := range count {
		rising[i], falling[i] = 7*i+2, mostSample-9*i
	}
	all := [][]int{rising, falling}
	for _, v := range []int{0, 1, 100, meanOfNone, mostSample - 1, mostSample} {
		all = append(all, slices.Repeat([]int{v}, count))
		for i := range count {
			all = append(all, only(count, i, v))
			spared := slices.Repeat([]int{v}, count)
			spared[i] = mostSample - v
			all = append(all, spared)
		}
	}
	for _, block := range unevenBlocks(8, 100, mostSample) {
		l := block[:count]
		for i, v := range l {
			l[i] = max(v, -v)
		}
		all = append(all, l)
	}
	var nbs []impl.Nb
	for _, l := range all {
		nbs = append(nbs, everyFlags(cutNb(l, n))...)
	}
	return nbs
}

// borderWanted is Border's definition place by place.
func borderWanted(b impl.Nb, n int) []int {
	want := make([]int, 2*n+1)
	for i := range n {
		want[n-1-i] = b.Left[i]
		want[n+1+i] = b.Top[i]
	}
	want[n] = b.Corner
	return want
}

// meanWanted is Mean's definition as a fraction, which a float holds exactly: the number of neighbors is a power of 2.
func meanWanted(b impl.Nb, n int) int {
	sum, sides := 0.0, 0
	for i := range n {
		if b.HasTop {
			sum += float64(b.Top[i])
		}
		if b.HasLeft {
			sum += float64(b.Left[i])
		}
	}
	for _, has := range []bool{b.HasTop, b.HasLeft} {
		if has {
			sides++
		}
	}
	if sides == 0 {
		return meanOfNone
	}
	return int(math.Floor(sum/float64(sides*n) + 0.5))
}

// summing are count samples with this sum, all but one of which are 0 or 255.
func summing(count, sum int) []int {
	l := make([]int, count)
	for i := range l {
		l[i] = min(sum, mostSample)
		sum -= l[i]
	}
	return l
}

func checkValidNb(t *testing.T, b impl.Nb, n int) {
	t.Helper()
	if !impl.NbOk(b, n) {
		t.Errorf("NbOk(%v, %d) = false", b, n)
	}
	if got, want := impl.Border(b, n), borderWanted(b, n); !slices.Equal(got, want) {
		t.Errorf("Border(%v, %d) = %v, want %v", b, n, got, want)
	}
	if got, want := impl.Mean(b, n), meanWanted(b, n); got != want {
		t.Errorf("Mean(%v, %d) = %d, want %d", b, n, got, want)
	}
}

// checkInvalidNb checks that the neighborhood is refused with each choice of flags.
func checkInvalidNb(t *testing.T, b impl.Nb, n int) {
	t.Helper()
	for _, b := range everyFlags(b) {
		if impl.NbOk(b, n) {
			t.Errorf("NbOk(%v, %d) = true", b, n)
		}
		if got := impl.Border(b, n); len(got) != 0 {
			t.Errorf("Border(%v, %d) = %v, want none", b, n, got)
		}
		if got := impl.Mean(b, n); got != 0 {
			t.Errorf("Mean(%v, %d) = %d, want 0", b, n, got)
		}
	}
}

func checkMean(t *testing.T, b impl.Nb, n, want int) {
	t.Helper()
	if got := impl.Mean(b, n); got != want {
		t.Errorf("Mean(%v, %d) = %d, want %d", b, n, got, want)
	}
}

func TestValidNeighborhoods(t *testing.T) {
	for _, n := range blockSizes() {
		for _, b := range validNbs(n) {
			checkValidNb(t, b, n)
		}
	}
}

func TestSizesOfNeighborhoods(t *testing.T) {
	for _, n := range blockSizes() {
		for _, b := range []impl.Nb{equalNb(n, 0), equalNb(n, 77), equalNb(n, mostSample)} {
			checkInvalidNb(t, b, 12-n)
			for _, other := range notSizes() {
				checkInvalidNb(t, b, other)
			}
		}
	}
}

// A neighborhood that has the counts of samples that an invalid size asks for is not valid for it either.
func TestNeighborhoodsThatFitOtherSizes(t *testing.T) {
	for n := range 70 {
		if n != 4 && n != 8 {
			checkInvalidNb(t, equalNb(n, 60), n)
		}
	}
	checkInvalidNb(t, impl.Nb{}, math.MinInt)
	checkInvalidNb(t, impl.Nb{Top: []int{}, Left: []int{}}, -4)
}

func TestCountsOfNeighbors(t *testing.T) {
	for _, n := range blockSizes() {
		for top := range 4*n + 2 {
			for left := range 4*n + 2 {
				// Behind the samples the memory goes on, far enough for a neighborhood.
				b := impl.Nb{Top: inFrontOf(top), Left: inFrontOf(left), Corner: 9}
				if top != 2*n || left != n {
					checkInvalidNb(t, b, n)
					continue
				}
				for _, b := range everyFlags(b) {
					checkValidNb(t, b, n)
				}
			}
		}
		for _, count := range []int{256 + n, 256 + 2*n, 65536 + n, 65536 + 2*n} {
			checkInvalidNb(t, impl.Nb{Top: inFrontOf(count), Left: inFrontOf(n)}, n)
			checkInvalidNb(t, impl.Nb{Top: inFrontOf(2 * n), Left: inFrontOf(count)}, n)
		}
	}
}

// Each sample counts, whether or not Border or Mean would read it and whatever the flags are.
func TestOtherNumbersAreNoSamples(t *testing.T) {
	for _, n := range blockSizes() {
		for _, others := range []int{0, 90, mostSample} {
			for i := range 3*n + 1 {
				l := samplesOf(equalNb(n, others))
				for _, v := range notSamples() {
					l[i] = v
					checkInvalidNb(t, cutNb(l, n), n)
				}
				for _, v := range []int{0, 1, mostSample - 1, mostSample} {
					l[i] = v
					for _, b := range everyFlags(cutNb(l, n)) {
						checkValidNb(t, b, n)
					}
				}
			}
		}
	}
}

// Two wrong samples do not make up for each other in the sum.
func TestTwoOtherNumbers(t *testing.T) {
	for _, n := range blockSizes() {
		for i := range 3 * n {
			l := samplesOf(equalNb(n, 90))
			l[i], l[i+1] = -10, 270
			checkInvalidNb(t, cutNb(l, n), n)
		}
	}
}

func TestBorderByHand(t *testing.T) {
	four := impl.Nb{Top: []int{11, 12, 13, 14, 15, 16, 17, 18}, Left: []int{21, 22, 23, 24}, Corner: 30}
	eight := impl.Nb{
		Top:    []int{41, 42, 43, 44, 45, 46, 47, 48, 49, 50, 51, 52, 53, 54, 55, 56},
		Left:   []int{61, 62, 63, 64, 65, 66, 67, 68},
		Corner: 70,
	}
	for k := range 4 {
		if got, want := impl.Border(everyFlags(four)[k], 4), []int{24, 23, 22, 21, 30, 11, 12, 13, 14}; !slices.Equal(got, want) {
			t.Errorf("Border(%v, 4) = %v, want %v", four, got, want)
		}
		if got, want := impl.Border(everyFlags(eight)[k], 8), []int{68, 67, 66, 65, 64, 63, 62, 61, 70, 41, 42, 43, 44, 45, 46, 47, 48}; !slices.Equal(got, want) {
			t.Errorf("Border(%v, 8) = %v, want %v", eight, got, want)
		}
	}
}

func TestMeanByHand(t *testing.T) {
	four := impl.Nb{Top: []int{1, 2, 3, 5, 200, 200, 200, 200}, Left: []int{10, 20, 30, 43}, Corner: 255}
	eight := impl.Nb{
		Top:    []int{0, 0, 0, 0, 0, 0, 0, 3, 255, 255, 255, 255, 255, 255, 255, 255},
		Left:   []int{0, 255, 0, 255, 0, 255, 0, 255},
		Corner: 100,
	}
	for k, want := range []int{meanOfNone, 3, 26, 14} {
		checkMean(t, everyFlags(four)[k], 4, want)
	}
	for k, want := range []int{meanOfNone, 0, 128, 64} {
		checkMean(t, everyFlags(eight)[k], 8, want)
	}
}

// Every sum of the neighbors, on one side and on both, with what is left of the range on the side that is not used.
func TestMeanOfEachSum(t *testing.T) {
	for _, n := range blockSizes() {
		unused := slices.Repeat([]int{mostSample}, n)
		for sum := range n*mostSample + 1 {
			want := (2*sum + n) / (2 * n)
			top := impl.Nb{Top: append(summing(n, sum), unused...), Left: unused, HasTop: true}
			checkMean(t, top, n, want)
			left := impl.Nb{Top: make([]int, 2*n), Left: summing(n, sum), HasLeft: true}
			checkMean(t, left, n, want)
		}
		for sum := range 2*n*mostSample + 1 {
			l := summing(2*n, sum)
			both := impl.Nb{Top: append(slices.Clone(l[:n]), unused...), Left: l[n:], HasTop: true, HasLeft: true}
			checkMean(t, both, n, (sum+n)/(2*n))
		}
	}
}

// A sum in the middle between two means counts up, and the one below it down.
func TestMeanInTheMiddle(t *testing.T) {
	for _, n := range blockSizes() {
		for mean := range mostSample {
			b := equalNb(n, mean)
			for i := range n / 2 {
				b.Top[i], b.Left[i] = mean+1, mean+1
			}
			b.Top[n/2-1], b.Left[n/2-1] = mean, mean
			for _, below := range everyFlags(b)[1:] {
				checkMean(t, below, n, mean)
			}
			b.Top[n/2-1], b.Left[n/2-1] = mean+1, mean+1
			for _, middle := range everyFlags(b)[1:] {
				checkMean(t, middle, n, mean+1)
			}
		}
	}
}

func TestBlockWithoutNeighbors(t *testing.T) {
	for _, n := range blockSizes() {
		for v := range mostSample + 1 {
			b := equalNb(n, v)
			checkMean(t, b, n, meanOfNone)
			if got, want := impl.Border(b, n), slices.Repeat([]int{v}, 2*n+1); !slices.Equal(got, want) {
				t.Errorf("Border(%v, %d) = %v, want %v", b, n, got, want)
			}
		}
		for _, b := range validNbs(n) {
			b.HasTop, b.HasLeft = false, false
			checkValidNb(t, b, n)
			checkMean(t, b, n, meanOfNone)
		}
		// Without samples there is no neighborhood, not even of a block without neighbors.
		checkInvalidNb(t, impl.Nb{}, n)
		checkInvalidNb(t, impl.Nb{Top: inFrontOf(2 * n)}, n)
		checkInvalidNb(t, impl.Nb{Left: inFrontOf(n)}, n)
	}
}

func TestMeanOfEqualNeighbors(t *testing.T) {
	for _, n := range blockSizes() {
		for v := range mostSample + 1 {
			for _, b := range everyFlags(equalNb(n, v))[1:] {
				checkMean(t, b, n, v)
			}
		}
	}
}

// Neither the corner nor the second half of Top, nor a side whose flag is not set, has a part in the mean.
func TestMeanOfNoOtherSamples(t *testing.T) {
	for _, n := range blockSizes() {
		for _, other := range []int{0, 1, 99, mostSample} {
			others := slices.Repeat([]int{other}, 2*n)
			for _, b := range validNbs(n) {
				want := meanWanted(b, n)
				b.Corner = other
				b.Top = slices.Concat(b.Top[:n], others[n:])
				if !b.HasTop {
					b.Top = others
				}
				if !b.HasLeft {
					b.Left = others[:n]
				}
				checkMean(t, b, n, want)
			}
		}
	}
}

// Top and Left may be parts of one list, where each lies in the unused capacity of the other.
func TestNeighborsInOneList(t *testing.T) {
	for _, n := range blockSizes() {
		backing := make([]int, 8*n)
		for i := range backing {
			backing[i] = 3*i + 1
		}
		before := slices.Clone(backing)
		for _, start := range []int{0, 1, n, 2 * n} {
			for _, b := range []impl.Nb{
				{Top: backing[start : start+2*n], Left: backing[start+2*n : start+3*n]},
				{Left: backing[start : start+n], Top: backing[start+n : start+3*n]},
				{Left: backing[start : start+n], Top: backing[start : start+2*n]},
				{Left: backing[start+2 : start+2+n : start+2+n], Top: backing[start : start+2*n : start+2*n]},
			} {
				for _, b := range everyFlags(b) {
					checkValidNb(t, b, n)
					checkInvalidNb(t, b, 12-n)
				}
			}
		}
		if !slices.Equal(backing, before) {
			t.Errorf("the neighbors became %v", backing)
		}
	}
}

func TestBorderIsNewEachTime(t *testing.T) {
	for _, n := range blockSizes() {
		b := validNbs(n)[3]
		before := samplesOf(b)
		want := borderWanted(b, n)
		for range 2 {
			got := impl.Border(b, n)
			if !slices.Equal(got, want) {
				t.Errorf("Border(%v, %d) has changed with an earlier result to %v, want %v", b, n, got, want)
			}
			// A result that shared memory would change the argument with it.
			got = got[:cap(got)]
			for i := range got {
				got[i] = -9
			}
		}
		if !slices.Equal(samplesOf(b), before) {
			t.Errorf("the neighborhood became %v", b)
		}
	}
}
