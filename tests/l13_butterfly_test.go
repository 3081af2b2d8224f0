package tests

import (
	"math"
	"slices"
	"testing"

	"loop.example/g01613/impl"
)

// lifts are the transforms of a vector with the matrix by which it is multiplied.
func lifts() []transform {
	return []transform{
		{"Lift4", impl.Lift4, turnedRows(fourMatrix())},
		{"Lift8", impl.Lift8, eightMatrix()},
	}
}

// A fastTransform is one by butterflies, and the one by matrices with which it agrees.
type fastTransform struct {
	transform
	inverse func([]int) []int
}

func fastTransforms() []fastTransform {
	return []fastTransform{
		{transform{"Fast4", impl.Fast4, turnedRows(fourMatrix())}, impl.Inverse4},
		{transform{"Fast8", impl.Fast8, eightMatrix()}, impl.Inverse8},
	}
}

// liftWanted is m times the vector, where sums and products wrap around.
func liftWanted(m [][]int, a []int) []int {
	want := make([]int, len(m))
	for i, row := range m {
		for k, v := range row {
			want[i] += v * a[k]
		}
	}
	return want
}

// stageWanted is a vector after the stage of bit w: the sum is where the bit is 0, and the difference where it is 1.
func stageWanted(a []int, w int) []int {
	next := make([]int, len(a))
	for i, v := range a {
		next[i] = a[i^w] + v
		if i&w != 0 {
			next[i] = a[i^w] - v
		}
	}
	return next
}

// bigNumbers do not let sums and differences stay in an int, or in 32 bits.
func bigNumbers() []int {
	return []int{math.MaxInt, math.MinInt, 1 << 62, -1 << 62, math.MaxInt - 1, math.MinInt + 1, 1 << 63 / 3, -1, 1 << 31, -1 << 31, 1<<32 + 1, 1 << 60, 0, 1}
}

// vectors have n numbers: one that is not 0 at each place, equal ones, and ones in no order.
func vectors(n int) [][]int {
	var all [][]int
	for _, v := range append(bigNumbers(), 3, -2, mostElement) {
		all = append(all, slices.Repeat([]int{v}, n))
		for i := range n {
			all = append(all, only(n, i, v))
		}
	}
	for first := range bigNumbers() {
		turning := slices.Repeat(bigNumbers(), 2)[first:]
		all = append(all, turning[:n])
	}
	for _, block := range unevenBlocks(8, 50, mostElement) {
		for part := range slices.Chunk(block, n) {
			all = append(all, part)
		}
	}
	return all
}

func TestLiftsByHand(t *testing.T) {
	four, eight := lifts()[0], lifts()[1]
	checkTransform(t, four, []int{1, 0, 0, 0}, []int{1, 1, 1, 1})
	checkTransform(t, four, []int{0, 1, 0, 0}, []int{2, 1, -1, -2})
	checkTransform(t, four, []int{0, 0, 1, 0}, []int{1, -1, -1, 1})
	checkTransform(t, four, []int{0, 0, 0, 1}, []int{1, -2, 2, -1})
	checkTransform(t, four, []int{1, 2, 3, 4}, []int{12, -8, 4, -4})
	checkTransform(t, four, []int{100, -7, 20, 9}, []int{115, 55, 105, 125})
	checkTransform(t, eight, []int{1, 0, 0, 0, 0, 0, 0, 0}, []int{1, 1, 1, 1, 1, 1, 1, 1})
	checkTransform(t, eight, []int{0, 0, 0, 0, 0, 0, 1, 0}, []int{1, 1, -1, -1, -1, -1, 1, 1})
	checkTransform(t, eight, []int{1, 2, 3, 4, 5, 6, 7, 8}, []int{36, -4, -8, 0, -16, 0, 0, 0})
	checkTransform(t, eight, []int{9, 0, 0, 5, 0, 1, 0, 0}, []int{15, 3, 5, 13, 13, 5, 3, 15})
}

func TestLiftsFollowDefinition(t *testing.T) {
	for _, lift := range lifts() {
		for _, a := range vectors(len(lift.m)) {
			checkTransform(t, lift, a, liftWanted(lift.m, a))
		}
	}
}

// Lift4 adds and subtracts the sums and differences of one step in the next, and the numbers as they were in the first.
func TestOrderOfStepsOfFour(t *testing.T) {
	for _, a := range vectors(4) {
		e, f := a[0]+a[2], a[0]-a[2]
		g, h := a[1]+a[1]+a[3], a[1]-a[3]-a[3]
		checkTransform(t, lifts()[0], a, []int{e + g, f + h, f - h, e - g})
	}
}

func TestStagesOfEightByHand(t *testing.T) {
	a := []int{1, 2, 3, 4, 5, 6, 7, 9}
	for _, after := range []struct {
		w    int
		want []int
	}{
		{1, []int{3, -1, 7, -1, 11, -1, 16, -2}},
		{2, []int{10, -2, -4, 0, 27, -3, -5, 1}},
		{4, []int{37, -5, -9, 1, -17, 1, 1, -1}},
	} {
		before := a
		if a = stageWanted(before, after.w); !slices.Equal(a, after.want) {
			t.Fatalf("the test's stage of bit %d makes %v of %v, want %v", after.w, a, before, after.want)
		}
	}
	checkTransform(t, lifts()[1], []int{1, 2, 3, 4, 5, 6, 7, 9}, a)
}

// Each stage takes what the one before it left, and no other order of the three has another result.
func TestOrderOfStagesOfEight(t *testing.T) {
	for _, order := range [][]int{{1, 2, 4}, {1, 4, 2}, {2, 1, 4}, {2, 4, 1}, {4, 1, 2}, {4, 2, 1}} {
		for _, a := range vectors(8) {
			want := a
			for _, w := range order {
				want = stageWanted(want, w)
			}
			checkTransform(t, lifts()[1], a, want)
		}
	}
}

// Among numbers that differ only in bit w of their index, the other two stages do no more than to multiply by 4.
func TestEachStageOfEightAlone(t *testing.T) {
	for _, w := range []int{1, 2, 4} {
		for _, pair := range [][]int{{1, 0}, {0, 1}, {5, 5}, {3, -4}, {mostElement, -mostElement}} {
			a, want := make([]int, 8), make([]int, 8)
			for i := range a {
				a[i] = pair[i&w/w]
			}
			want[0], want[w] = 4*(pair[0]+pair[1]), 4*(pair[0]-pair[1])
			checkTransform(t, lifts()[1], a, want)
		}
	}
}

func TestLift8TwiceIsEightTimes(t *testing.T) {
	for _, a := range vectors(8) {
		want := make([]int, 8)
		for i, v := range a {
			want[i] = 8 * v
		}
		if got := impl.Lift8(impl.Lift8(a)); !slices.Equal(got, want) {
			t.Errorf("Lift8(Lift8(%v)) = %v, want %v", a, got, want)
		}
	}
}

func TestLiftsOfOtherCounts(t *testing.T) {
	for _, lift := range lifts() {
		checkOtherCounts(t, lift.name, lift.of, len(lift.m))
	}
}

func TestColumnsByHand(t *testing.T) {
	four := []int{
		1, 2, 3, 4,
		5, 6, 7, 8,
		9, 10, 11, 12,
		13, 14, 15, 16,
	}
	want := []int{
		1, 5, 9, 13,
		2, 6, 10, 14,
		3, 7, 11, 15,
		4, 8, 12, 16,
	}
	if got := impl.Columns(four); !slices.Equal(got, want) {
		t.Errorf("Columns(%v) = %v, want %v", four, got, want)
	}
	eight := append([]int{1, 2, 3, 4, 5, 6, 7, 8}, make([]int, 56)...)
	want = make([]int, 64)
	for i := range 8 {
		want[8*i] = i + 1
	}
	if got := impl.Columns(eight); !slices.Equal(got, want) {
		t.Errorf("Columns(%v) = %v, want %v", eight, got, want)
	}
}

func TestColumnsOfAnyNumbers(t *testing.T) {
	for _, n := range blockSizes() {
		for _, block := range append(scanBlocks(n), unevenBlocks(n, 20, mostElement)...) {
			got := impl.Columns(block)
			if len(got) != n*n {
				t.Fatalf("Columns(%v) = %v, want %d numbers", block, got, n*n)
			}
			for i, v := range got {
				if v != block[i%n*n+i/n] {
					t.Fatalf("Columns(%v) = %v, wrong at %d", block, got, i)
				}
			}
			if twice := impl.Columns(got); !slices.Equal(twice, block) {
				t.Fatalf("Columns(%v) = %v, want %v", got, twice, block)
			}
		}
	}
}

func TestColumnsOfOtherCounts(t *testing.T) {
	checkOtherCounts(t, "Columns", impl.Columns, levelCounts()...)
}

// Neither block is its own transpose, so columns and rows cannot be taken for each other.
func TestFastByHand(t *testing.T) {
	four, eight := fastTransforms()[0].transform, fastTransforms()[1].transform
	inSecondRow := []int{
		0, 0, 0, 0,
		1, 2, 3, 4,
		0, 0, 0, 0,
		0, 0, 0, 0,
	}
	checkTransform(t, four, inSecondRow, []int{
		24, -16, 8, -8,
		12, -8, 4, -4,
		-12, 8, -4, 4,
		-24, 16, -8, 8,
	})
	checkTransform(t, four, impl.Columns(inSecondRow), []int{
		24, 12, -12, -24,
		-16, -8, 8, 16,
		8, 4, -4, -8,
		-8, -4, 4, 8,
	})
	inFirstRow := append([]int{1, 2, 3, 4, 5, 6, 7, 8}, make([]int, 56)...)
	checkTransform(t, eight, inFirstRow, slices.Repeat([]int{36, -4, -8, 0, -16, 0, 0, 0}, 8))
	var wanted []int
	for _, v := range []int{36, -4, -8, 0, -16, 0, 0, 0} {
		wanted = append(wanted, slices.Repeat([]int{v}, 8)...)
	}
	checkTransform(t, eight, impl.Columns(inFirstRow), wanted)
}

func TestFastAgreesWithInverse(t *testing.T) {
	for _, fast := range fastTransforms() {
		for _, block := range blocksUpTo(len(fast.m), mostElement) {
			want := fast.inverse(block)
			checkTransform(t, fast.transform, block, want)
			if !slices.Equal(want, transformWanted(fast.m, block)) {
				t.Fatalf("the inverse of %v = %v is not the one by its definition", block, want)
			}
		}
	}
}

// What a decoder transforms are scaled levels, the largest of which stay below the limit of elements.
func TestFastAgreesOnScaledLevels(t *testing.T) {
	for _, fast := range fastTransforms() {
		count := len(fast.m) * len(fast.m)
		for q := range mostQ + 1 {
			for _, levels := range [][]int{slices.Repeat([]int{16383}, count), slices.Repeat([]int{-16383}, count), withLevels(count, 0, 1, 4, count-1), withLevels(count)} {
				block := impl.Scaled(levels, q)
				want := fast.inverse(block)
				checkTransform(t, fast.transform, block, want)
				if len(want) != count {
					t.Fatalf("the inverse of %v = %v, want %d numbers", block, want, count)
				}
			}
		}
	}
}

func TestFastAgreesBeyondLimit(t *testing.T) {
	for _, fast := range fastTransforms() {
		count := len(fast.m) * len(fast.m)
		for i := range count {
			for _, v := range append(notElements(), mostElement, -mostElement) {
				for _, others := range []int{0, -3, mostElement, -mostElement} {
					block := slices.Repeat([]int{others}, count)
					block[i] = v
					checkTransform(t, fast.transform, block, fast.inverse(block))
					if got := fast.of(block); (len(got) == count) != (v <= mostElement && v >= -mostElement) {
						t.Fatalf("%s(%v) = %v", fast.name, block, got)
					}
				}
			}
		}
	}
}

func TestFastOfOtherCounts(t *testing.T) {
	for _, fast := range fastTransforms() {
		checkOtherCounts(t, fast.name, fast.of, len(fast.m)*len(fast.m))
	}
}

func TestFastRestoresBlocks(t *testing.T) {
	for _, block := range blocksUpTo(4, mostRestored) {
		if got := impl.Rounded(impl.Fast4(timesNorms(impl.Forward4(block), 4))); !slices.Equal(got, block) {
			t.Fatalf("of the block %v is restored %v", block, got)
		}
	}
	for _, block := range blocksUpTo(8, mostRestored) {
		if got := impl.Rounded(impl.Fast8(impl.Forward8(block))); !slices.Equal(got, block) {
			t.Fatalf("of the block %v is restored %v", block, got)
		}
	}
}

func TestButterfliesShareNoMemory(t *testing.T) {
	for _, lift := range lifts() {
		checkArgumentLeft(t, lift.name, lift.of, len(lift.m))
		checkNewEachTime(t, lift.name, lift.of, len(lift.m))
	}
	for _, fast := range fastTransforms() {
		checkArgumentLeft(t, fast.name, fast.of, len(fast.m)*len(fast.m))
		checkNewEachTime(t, fast.name, fast.of, len(fast.m)*len(fast.m))
	}
	for _, count := range levelCounts() {
		checkArgumentLeft(t, "Columns", impl.Columns, count)
		checkNewEachTime(t, "Columns", impl.Columns, count)
	}
}
