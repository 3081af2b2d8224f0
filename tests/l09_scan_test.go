package tests

import (
	"math"
	"slices"
	"testing"

	"loop.example/g01613/impl"
)

func blockSizes() []int {
	return []int{4, 8}
}

// notSizes are no sizes of a block; the numbers of elements of one are among them, and numbers that look like a size in fewer bits or squared.
func notSizes() []int {
	return []int{-1, -4, -8, -9, -16, 0, 1, 2, 3, 5, 6, 7, 9, 12, 15, 16, 17, 32, 64, 256 + 4, 256 + 8, 1 << 31, 1 << 32, 1<<32 + 4, 1<<32 + 8, 1<<62 + 4, 1<<63 - 8, math.MaxInt, math.MinInt, math.MinInt + 4, math.MinInt + 8}
}

// zigzag is ScanOrder's definition as an order of positions.
func zigzag(n int) []int {
	order := make([]int, n*n)
	for i := range order {
		order[i] = i
	}
	slices.SortFunc(order, func(a, b int) int {
		sumA, sumB := a%n+a/n, b%n+b/n
		if sumA != sumB {
			return sumA - sumB
		}
		if sumA%2 == 0 {
			return b%n - a%n
		}
		return a%n - b%n
	})
	return order
}

// scanBlocks have n*n numbers: all different, the ends of int, few different ones, and one that differs from the others, at each place.
func scanBlocks(n int) [][]int {
	rising, ends, few := make([]int, n*n), make([]int, n*n), make([]int, n*n)
	for i := range rising {
		rising[i] = 1000 - 37*i
		ends[i] = []int{math.MinInt, math.MaxInt, 0, -1, math.MaxInt - i}[i%5]
		few[i] = i * i % 3
	}
	all := [][]int{rising, ends, few, make([]int, n*n)}
	for i := range n * n {
		one := slices.Repeat([]int{7}, n*n)
		one[i] = -20000
		all = append(all, one)
	}
	return all
}

func TestSizeOk(t *testing.T) {
	for _, n := range blockSizes() {
		if !impl.SizeOk(n) {
			t.Errorf("SizeOk(%d) = false", n)
		}
	}
	for _, n := range notSizes() {
		if impl.SizeOk(n) {
			t.Errorf("SizeOk(%d) = true", n)
		}
	}
}

func TestScanOrderByDiagonals(t *testing.T) {
	four := []int{
		0,
		4, 1,
		2, 5, 8,
		12, 9, 6, 3,
		7, 10, 13,
		14, 11,
		15,
	}
	eight := []int{
		0,
		8, 1,
		2, 9, 16,
		24, 17, 10, 3,
		4, 11, 18, 25, 32,
		40, 33, 26, 19, 12, 5,
		6, 13, 20, 27, 34, 41, 48,
		56, 49, 42, 35, 28, 21, 14, 7,
		15, 22, 29, 36, 43, 50, 57,
		58, 51, 44, 37, 30, 23,
		31, 38, 45, 52, 59,
		60, 53, 46, 39,
		47, 54, 61,
		62, 55,
		63,
	}
	for n, want := range map[int][]int{4: four, 8: eight} {
		if got := impl.ScanOrder(n); !slices.Equal(got, want) {
			t.Errorf("ScanOrder(%d) = %v, want %v", n, got, want)
		}
		if got := zigzag(n); !slices.Equal(got, want) {
			t.Errorf("the definition orders %d by %d positions as %v, want %v", n, n, got, want)
		}
	}
}

func TestScanOrderOfOtherSizes(t *testing.T) {
	for _, n := range notSizes() {
		if got := impl.ScanOrder(n); len(got) != 0 {
			t.Errorf("ScanOrder(%d) = %v, want none", n, got)
		}
	}
}

func TestScannedFollowsZigzag(t *testing.T) {
	for _, n := range blockSizes() {
		order := zigzag(n)
		for _, block := range scanBlocks(n) {
			want := make([]int, 0, n*n)
			for _, place := range order {
				want = append(want, block[place])
			}
			if got := impl.Scanned(block); !slices.Equal(got, want) {
				t.Fatalf("Scanned(%v) = %v, want %v", block, got, want)
			}
			if got := impl.Placed(want); !slices.Equal(got, block) {
				t.Fatalf("Placed(%v) = %v, want %v", want, got, block)
			}
		}
	}
}

func TestPlacedInvertsScanned(t *testing.T) {
	for _, n := range blockSizes() {
		for _, l := range scanBlocks(n) {
			if got := impl.Placed(impl.Scanned(l)); !slices.Equal(got, l) {
				t.Fatalf("Placed of Scanned(%v) = %v", l, got)
			}
			if got := impl.Scanned(impl.Placed(l)); !slices.Equal(got, l) {
				t.Fatalf("Scanned of Placed(%v) = %v", l, got)
			}
		}
	}
}

// The last diagonal is the last position alone, and an even one, behind an odd one of two positions.
func TestLastDiagonal(t *testing.T) {
	for _, n := range blockSizes() {
		most := n*n - 1
		if got, want := impl.ScanOrder(n), []int{most - 1, most - n, most}; len(got) != n*n || !slices.Equal(got[n*n-3:], want) {
			t.Errorf("ScanOrder(%d) = %v, want %d indices that end with %v", n, got, n*n, want)
		}
		last := make([]int, n*n)
		last[most] = 5
		if got := impl.Scanned(last); !slices.Equal(got, last) {
			t.Errorf("Scanned(%v) = %v, want the same", last, got)
		}
		if got := impl.Placed(last); !slices.Equal(got, last) {
			t.Errorf("Placed(%v) = %v, want the same", last, got)
		}
	}
}

func TestOnlyBlocksAreScanned(t *testing.T) {
	sizes := []int{255, 256, 257, 1024, 4096, 65536 + 16, 65536 + 64}
	for size := range 140 {
		if size != 16 && size != 64 {
			sizes = append(sizes, size)
		}
	}
	for _, size := range sizes {
		// Behind the numbers the memory goes on, far enough for a block.
		l := slices.Repeat([]int{3}, size+64)[:size]
		if got := impl.Scanned(l); len(got) != 0 {
			t.Errorf("Scanned of %d numbers = %v, want none", size, got)
		}
		if got := impl.Placed(l); len(got) != 0 {
			t.Errorf("Placed of %d numbers = %v, want none", size, got)
		}
	}
	if got := append(impl.Scanned(nil), impl.Placed(nil)...); len(got) != 0 {
		t.Errorf("Scanned and Placed of nil = %v, want none", got)
	}
}

func TestScanOrderIsNewEachTime(t *testing.T) {
	for _, n := range blockSizes() {
		order := impl.ScanOrder(n)
		for i := range order {
			order[i] = -1
		}
		if got := impl.ScanOrder(n); !slices.Equal(got, zigzag(n)) {
			t.Errorf("ScanOrder(%d) has changed with an earlier result to %v", n, got)
		}
	}
}

func TestScanLeavesArgumentsAlone(t *testing.T) {
	for _, n := range blockSizes() {
		backing := make([]int, 3*n*n)
		for i := range backing {
			backing[i] = i + 1
		}
		before := slices.Clone(backing)
		for _, size := range []int{n*n - 1, n * n, n*n + 1} {
			for _, scan := range []func([]int) []int{impl.Scanned, impl.Placed} {
				// A result that shared memory would change the argument with it.
				result := scan(backing[:size])
				result = result[:cap(result)]
				for i := range result {
					result[i] = -1
				}
			}
		}
		if !slices.Equal(backing, before) {
			t.Errorf("the argument became %v", backing)
		}
	}
}
