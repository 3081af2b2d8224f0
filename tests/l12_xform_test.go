package tests

import (
	"math"
	"slices"
	"strconv"
	"strings"
	"testing"

	"loop.example/g01613/impl"
)

const (
	mostElement   = 1000000000
	mostUnrounded = 1000000000000
	mostRestored  = 99999
)

// fourMatrix is the matrix A.
func fourMatrix() [][]int {
	return [][]int{
		{1, 1, 1, 1},
		{2, 1, -1, -2},
		{1, -1, -1, 1},
		{1, -2, 2, -1},
	}
}

// eightMatrix is the matrix H.
func eightMatrix() [][]int {
	var m [][]int
	for _, signs := range []string{
		"++++++++",
		"+-+-+-+-",
		"++--++--",
		"+--++--+",
		"++++----",
		"+-+--+-+",
		"++----++",
		"+--+-++-",
	} {
		var row []int
		for _, sign := range signs {
			row = append(row, strings.IndexRune("-+", sign)*2-1)
		}
		m = append(m, row)
	}
	return m
}

// turnedRows are the columns of m as rows.
func turnedRows(m [][]int) [][]int {
	turned := make([][]int, len(m))
	for _, row := range m {
		for k, v := range row {
			turned[k] = append(turned[k], v)
		}
	}
	return turned
}

type transform struct {
	name string
	of   func([]int) []int
	m    [][]int
}

// transforms are the four with the matrix by which the block is multiplied from the left.
func transforms() []transform {
	return []transform{
		{"Forward4", impl.Forward4, fourMatrix()},
		{"Inverse4", impl.Inverse4, turnedRows(fourMatrix())},
		{"Forward8", impl.Forward8, eightMatrix()},
		{"Inverse8", impl.Inverse8, eightMatrix()},
	}
}

// elementWanted is the definition of m times the block times the transpose of m, as one sum for an element.
func elementWanted(m [][]int, block []int, row, column int) int {
	sum := 0
	for i, v := range block {
		sum += m[row][i/len(m)] * v * m[column][i%len(m)]
	}
	return sum
}

func transformWanted(m [][]int, block []int) []int {
	want := make([]int, len(block))
	for i := range want {
		want[i] = elementWanted(m, block, i/len(m), i%len(m))
	}
	return want
}

// signed is the block of v and -v whose transform by m has the largest element at a position.
func signed(m [][]int, row, column, v int) []int {
	block := make([]int, len(m)*len(m))
	for i := range block {
		block[i] = v
		if m[row][i/len(m)]*m[column][i%len(m)] < 0 {
			block[i] = -v
		}
	}
	return block
}

// absSum is the largest number that a row makes of numbers from -1 to 1.
func absSum(row []int) int {
	sum := 0
	for _, v := range row {
		sum += max(v, -v)
	}
	return sum
}

// only is a block with one number that is not 0.
func only(count, place, v int) []int {
	block := make([]int, count)
	block[place] = v
	return block
}

// unevenBlocks are blocks of numbers from -most to most in no order that a transform would know.
func unevenBlocks(n, many, most int) [][]int {
	var blocks [][]int
	state := uint64(n)
	for range many {
		block := make([]int, n*n)
		for i := range block {
			state = state*6364136223846793005 + 1442695040888963407
			block[i] = int(state>>33)%(2*most+1) - most
		}
		blocks = append(blocks, block)
	}
	return blocks
}

// blocksUpTo are blocks of numbers from -most to most, the ends of the range among them at every place and with the signs of every row and column of both matrices.
func blocksUpTo(n, most int) [][]int {
	blocks := [][]int{make([]int, n*n)}
	for _, v := range []int{1, -1, 2, 7, -800, most - 1, most, -most} {
		blocks = append(blocks, slices.Repeat([]int{v}, n*n))
		for i := range n * n {
			blocks = append(blocks, only(n*n, i, v))
			spared := slices.Repeat([]int{v}, n*n)
			spared[i] = 0
			blocks = append(blocks, spared)
		}
	}
	for _, tr := range transforms() {
		if len(tr.m) != n {
			continue
		}
		for i := range n * n {
			blocks = append(blocks, signed(tr.m, i/n, i%n, most), signed(tr.m, i/n, i%n, -most), signed(tr.m, i/n, i%n, 1))
		}
	}
	return slices.Concat(blocks, unevenBlocks(n, 200, most), unevenBlocks(n, 200, 255), unevenBlocks(n, 50, 1))
}

// notElements are out of range, some of which look like an element in fewer bits or by their absolute value.
func notElements() []int {
	return []int{mostElement + 1, -mostElement - 1, 2 * mostElement, -2 * mostElement, mostUnrounded, -mostUnrounded, 1 << 30, -1 << 30, 1 << 31, -1 << 31, 1 << 32, -1 << 32, 1<<32 + 5, -1<<32 - 5, 1<<40 + 1, 1 << 62, -1 << 62, 1<<62 + 1, math.MaxInt, math.MaxInt - 1, math.MinInt, math.MinInt + 1}
}

// inFrontOf is the first count of many equal numbers: behind them the memory goes on, far enough for a block.
func inFrontOf(count int) []int {
	return slices.Repeat([]int{3}, count+64)[:count]
}

func checkTransform(t *testing.T, tr transform, block, want []int) {
	t.Helper()
	if got := tr.of(block); !slices.Equal(got, want) {
		t.Fatalf("%s(%v) = %v, want %v", tr.name, block, got, want)
	}
}

// checkRoundedAlone checks a number among zeros, which become zeros, at each position of a block.
func checkRoundedAlone(t *testing.T, count, v, want int) {
	t.Helper()
	for i := range count {
		block := only(count, i, v)
		if got := impl.Rounded(block); !slices.Equal(got, only(count, i, want)) {
			t.Errorf("Rounded(%v) = %v, want %d at %d", block, got, want, i)
		}
	}
}

// checkOtherCounts checks that there is no result for any count of numbers but the fitting ones.
func checkOtherCounts(t *testing.T, name string, of func([]int) []int, fitting ...int) {
	t.Helper()
	for _, count := range append(notCounts(), levelCounts()...) {
		if count < 0 || count > 1<<20 || slices.Contains(fitting, count) {
			continue
		}
		if got := of(inFrontOf(count)); len(got) != 0 {
			t.Errorf("%s of %d numbers = %v, want none", name, count, got)
		}
	}
	if got := append(of(nil), of([]int{})...); len(got) != 0 {
		t.Errorf("%s of no numbers = %v, want none", name, got)
	}
}

// checkArgumentLeft checks that an argument with count numbers, one more or one less keeps them, and the memory behind them.
func checkArgumentLeft(t *testing.T, name string, of func([]int) []int, count int) {
	t.Helper()
	backing := slices.Repeat([]int{7, -1600, mostElement, 0, -mostElement, 801}, count)
	before := slices.Clone(backing)
	for _, size := range []int{count - 1, count, count + 1} {
		// A result that shared memory would change the argument with it.
		result := of(backing[:size])
		result = result[:cap(result)]
		for i := range result {
			result[i] = -9
		}
	}
	if !slices.Equal(backing, before) {
		t.Errorf("the argument of %s became %v", name, backing)
	}
}

// checkNewEachTime checks that a result of count numbers shares no memory with an earlier one.
func checkNewEachTime(t *testing.T, name string, of func([]int) []int, count int) {
	t.Helper()
	numbers := unevenBlocks(8, 1, mostElement)[0][:count]
	first := of(numbers)
	want := slices.Clone(first)
	for i := range first {
		first[i] = -9
	}
	if got := of(numbers); len(got) != count || !slices.Equal(got, want) {
		t.Errorf("the result %v of %s has changed with an earlier one to %v", want, name, got)
	}
}

func roundingUnits() map[int]int {
	return map[int]int{16: 1600, 64: 64}
}

func timesNorms(l []int, n int) []int {
	scaled := make([]int, len(l))
	for i, v := range l {
		scaled[i] = v * impl.NormAt(n, i)
	}
	return scaled
}

func TestMatricesOfTransforms(t *testing.T) {
	for r, row := range eightMatrix() {
		for k, v := range row {
			if ones := strings.Count(strconv.FormatInt(int64(r&k), 2), "1"); (v == 1) != (ones%2 == 0) {
				t.Fatalf("the test's matrix has %d in row %d and column %d", v, r, k)
			}
		}
	}
	for _, tr := range transforms() {
		n := len(tr.m)
		for i := range n * n {
			want := make([]int, n*n)
			for k := range want {
				want[k] = tr.m[k/n][i/n] * tr.m[k%n][i%n]
			}
			checkTransform(t, tr, only(n*n, i, 1), want)
		}
	}
}

func TestTransformsFollowDefinition(t *testing.T) {
	for _, tr := range transforms() {
		for _, block := range blocksUpTo(len(tr.m), mostElement) {
			checkTransform(t, tr, block, transformWanted(tr.m, block))
		}
	}
}

func TestTransformsByHand(t *testing.T) {
	ramp := []int{
		1, 2, 3, 4,
		5, 6, 7, 8,
		9, 10, 11, 12,
		13, 14, 15, 16,
	}
	forward := []int{
		136, -28, 0, -4,
		-112, 0, 0, 0,
		0, 0, 0, 0,
		-16, 0, 0, 0,
	}
	inverse := []int{
		200, -68, 48, -48,
		-152, 36, -32, 32,
		72, -20, 16, -16,
		-72, 20, -16, 16,
	}
	checkTransform(t, transforms()[0], ramp, forward)
	checkTransform(t, transforms()[1], ramp, inverse)
	row := append([]int{1, 2, 3, 4, 5, 6, 7, 8}, make([]int, 56)...)
	eight := slices.Repeat([]int{36, -4, -8, 0, -16, 0, 0, 0}, 8)
	checkTransform(t, transforms()[2], row, eight)
	checkTransform(t, transforms()[3], row, eight)
}

func TestBlockOfMaximumValues(t *testing.T) {
	for _, v := range []int{mostElement, -mostElement} {
		four, eight := slices.Repeat([]int{v}, 16), slices.Repeat([]int{v}, 64)
		checkTransform(t, transforms()[0], four, only(16, 0, 16*v))
		checkTransform(t, transforms()[1], four, []int{
			25 * v, -5 * v, 5 * v, -5 * v,
			-5 * v, v, -v, v,
			5 * v, -v, v, -v,
			-5 * v, v, -v, v,
		})
		checkTransform(t, transforms()[2], eight, only(64, 0, 64*v))
		checkTransform(t, transforms()[3], eight, only(64, 0, 64*v))
	}
}

// The largest of all results needs more than 32 bits: 36000000000 of Forward4, and 64000000000 of both of size 8.
func TestLargestElements(t *testing.T) {
	for _, tr := range transforms() {
		n := len(tr.m)
		for i := range n * n {
			want := absSum(tr.m[i/n]) * absSum(tr.m[i%n]) * mostElement
			for _, sign := range []int{1, -1} {
				block := signed(tr.m, i/n, i%n, sign*mostElement)
				if got := tr.of(block); len(got) != n*n || got[i] != sign*want {
					t.Errorf("%s(%v) = %v, want %d at %d", tr.name, block, got, sign*want, i)
				}
			}
		}
	}
}

func TestElementsBeyondLimit(t *testing.T) {
	for _, tr := range transforms() {
		count := len(tr.m) * len(tr.m)
		for i := range count {
			for _, v := range notElements() {
				for _, others := range []int{0, 1, mostElement, -mostElement} {
					block := slices.Repeat([]int{others}, count)
					block[i] = v
					if got := tr.of(block); len(got) != 0 {
						t.Errorf("%s(%v) = %v, want none", tr.name, block, got)
					}
				}
			}
		}
	}
}

func TestTransformsOfOtherCounts(t *testing.T) {
	for _, tr := range transforms() {
		checkOtherCounts(t, tr.name, tr.of, len(tr.m)*len(tr.m))
	}
}

func TestRoundedByHand(t *testing.T) {
	for _, c := range []struct{ count, number, want int }{
		{16, 0, 0},
		{16, 1, 0},
		{16, 799, 0},
		{16, 800, 1},
		{16, 801, 1},
		{16, 1600, 1},
		{16, 2399, 1},
		{16, 2400, 2},
		{16, -1, 0},
		{16, -799, 0},
		{16, -800, 0},
		{16, -801, -1},
		{16, -1600, -1},
		{16, -2400, -1},
		{16, -2401, -2},
		{64, 0, 0},
		{64, 31, 0},
		{64, 32, 1},
		{64, 64, 1},
		{64, 95, 1},
		{64, 96, 2},
		{64, -1, 0},
		{64, -31, 0},
		{64, -32, 0},
		{64, -33, -1},
		{64, -64, -1},
		{64, -96, -1},
		{64, -97, -2},
		{64, 800, 13},
		{64, 1600, 25},
		{16, 64000000000, 40000000},
		{64, 64000000000, 1000000000},
	} {
		checkRoundedAlone(t, c.count, c.number, c.want)
	}
}

// A number from v*unit - unit/2 on becomes v, up to but without (v+1)*unit - unit/2.
func TestRoundedFollowsDefinition(t *testing.T) {
	for count, unit := range roundingUnits() {
		for _, v := range []int{0, 1, 2, 3, 255, 256, 25599, 12345678, 99999, 100000, 1 << 20, mostUnrounded/unit - 1} {
			for _, want := range []int{v, -v, -v - 1} {
				for start := want*unit - unit/2; start < want*unit+unit/2; start += count {
					block := make([]int, count)
					for i := range block {
						block[i] = min(start+i, want*unit+unit/2-1)
					}
					if got := impl.Rounded(block); !slices.Equal(got, slices.Repeat([]int{want}, count)) {
						t.Fatalf("Rounded(%v) = %v, want %d everywhere", block, got, want)
					}
				}
			}
		}
	}
}

// Without the limit, the number half a unit above 1000000000000 would be the first to become one more.
func TestNumbersToRoundAreLimited(t *testing.T) {
	for count, unit := range roundingUnits() {
		most := mostUnrounded / unit
		for _, beyond := range []int{0, 1, unit/2 - 1, unit / 2, unit/2 + 1, unit, unit + unit/2, 2 * unit, mostUnrounded, 1 << 62, math.MaxInt - mostUnrounded - 1, math.MaxInt - mostUnrounded} {
			checkRoundedAlone(t, count, mostUnrounded+beyond, most)
			checkRoundedAlone(t, count, -mostUnrounded-beyond, -most)
		}
		for _, v := range []int{math.MaxInt - unit/2, math.MaxInt - unit/2 + 1, math.MaxInt - 1} {
			checkRoundedAlone(t, count, v, most)
		}
		for _, v := range []int{math.MinInt, math.MinInt + 1, math.MinInt + unit/2, math.MinInt + unit} {
			checkRoundedAlone(t, count, v, -most)
		}
		checkRoundedAlone(t, count, mostUnrounded-unit/2, most)
		checkRoundedAlone(t, count, mostUnrounded-unit/2-1, most-1)
		checkRoundedAlone(t, count, -mostUnrounded+unit/2-1, -most)
		checkRoundedAlone(t, count, -mostUnrounded+unit/2, 1-most)
	}
}

func TestRoundedOfOtherCounts(t *testing.T) {
	checkOtherCounts(t, "Rounded", impl.Rounded, levelCounts()...)
}

func TestTransformsRestoreBlocks(t *testing.T) {
	for _, block := range blocksUpTo(4, mostRestored) {
		if got := impl.Rounded(impl.Inverse4(timesNorms(impl.Forward4(block), 4))); !slices.Equal(got, block) {
			t.Fatalf("of the block %v is restored %v", block, got)
		}
	}
	for _, block := range blocksUpTo(8, mostRestored) {
		if got := impl.Rounded(impl.Inverse8(timesNorms(impl.Forward8(block), 8))); !slices.Equal(got, block) {
			t.Fatalf("of the block %v is restored %v", block, got)
		}
	}
}

// Before it is rounded, each number is exactly 1600 or 64 times the one of the block, so errors of less than half of that do no harm.
func TestRestoredBeforeRounding(t *testing.T) {
	for _, n := range blockSizes() {
		unit := roundingUnits()[n*n]
		for _, block := range blocksUpTo(n, mostRestored) {
			var before []int
			if n == 4 {
				before = impl.Inverse4(timesNorms(impl.Forward4(block), n))
			} else {
				before = impl.Inverse8(impl.Forward8(block))
			}
			want := make([]int, n*n)
			for i, v := range block {
				want[i] = unit * v
			}
			if !slices.Equal(before, want) {
				t.Fatalf("of the block %v come %v, want %d times each number", block, before, unit)
			}
			for i := range before {
				before[i] += i*67%unit - unit/2
			}
			if got := impl.Rounded(before); !slices.Equal(got, block) {
				t.Fatalf("Rounded(%v) = %v, want %v", before, got, block)
			}
		}
	}
}

// Forward4 of a block of 625000 is the last whose first element, times its norm, Inverse4 takes.
func TestInverseRefusesWhatForwardMakesTooLarge(t *testing.T) {
	for _, sign := range []int{1, -1} {
		four, eight := slices.Repeat([]int{sign * 625000}, 16), slices.Repeat([]int{sign * 15625000}, 64)
		if got := impl.Rounded(impl.Inverse4(timesNorms(impl.Forward4(four), 4))); !slices.Equal(got, four) {
			t.Errorf("of the block %v is restored %v", four, got)
		}
		if got := impl.Rounded(impl.Inverse8(impl.Forward8(eight))); !slices.Equal(got, eight) {
			t.Errorf("of the block %v is restored %v", eight, got)
		}
		four[7] += sign
		eight[63] += sign
		if got := impl.Inverse4(timesNorms(impl.Forward4(four), 4)); len(got) != 0 {
			t.Errorf("of the block %v come %v, want none", four, got)
		}
		if got := impl.Inverse8(impl.Forward8(eight)); len(got) != 0 {
			t.Errorf("of the block %v come %v, want none", eight, got)
		}
	}
}

func TestTransformsLeaveArgumentsAlone(t *testing.T) {
	for _, tr := range transforms() {
		checkArgumentLeft(t, tr.name, tr.of, len(tr.m)*len(tr.m))
	}
	for _, count := range levelCounts() {
		checkArgumentLeft(t, "Rounded", impl.Rounded, count)
	}
}

func TestTransformsAreNewEachTime(t *testing.T) {
	for _, tr := range transforms() {
		checkNewEachTime(t, tr.name, tr.of, len(tr.m)*len(tr.m))
	}
	for _, count := range levelCounts() {
		checkNewEachTime(t, "Rounded", impl.Rounded, count)
	}
}
