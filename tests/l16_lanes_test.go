package tests

import (
	"math"
	"slices"
	"strconv"
	"strings"
	"testing"

	"loop.example/g01613/impl"
)

const (
	lanes    = 4
	fullLane = 32767
)

// laneNumbers are numbers of a lane: both sides of each limit that clipping knows, and the ends and the middle of the lane.
func laneNumbers() []int {
	return []int{0, 1, 255, 256, 1022, 1023, 1024, 1025, 1278, 1279, 1280, 16383, 16384, fullLane - 1, fullLane}
}

// notLanes are numbers beyond a lane, some of which look like one in fewer bits or by their absolute value.
func notLanes() []int {
	return []int{-1, -2, -255, -1024, -fullLane, -32768, -65535, -65536, 32768, 32769, 65535, 65536, 65536 + 5, -65536 + 5, 1 << 31, -1 << 31, 1 << 32, 1<<32 + 5, 1 << 48, 1<<62 + 5, 1 << 62, math.MaxInt, math.MaxInt - 1, math.MinInt, math.MinInt + 5}
}

// fours are all lists of four of these numbers.
func fours(numbers ...int) [][]int {
	all := [][]int{nil}
	for range lanes {
		var longer [][]int
		for _, l := range all {
			for _, v := range numbers {
				longer = append(longer, append(slices.Clone(l), v))
			}
		}
		all = longer
	}
	return all
}

// fourWith is a list of four numbers that has v at one place and is otherwise filled.
func fourWith(place, v, filled int) []int {
	l := slices.Repeat([]int{filled}, lanes)
	l[place] = v
	return l
}

// packedWanted is Pack4's definition for four numbers of a lane.
func packedWanted(l []int) int {
	return l[0] + 65536*l[1] + 65536*65536*l[2] + 65536*65536*65536*l[3]
}

// unpackedWanted is Unpack4's definition by hexadecimal digits: four for each number, the last number first.
func unpackedWanted(n int) []int {
	digits := strconv.FormatUint(uint64(n), 16)
	digits = strings.Repeat("0", 4*lanes-len(digits)) + digits
	var l []int
	for i := range lanes {
		v, _ := strconv.ParseInt(digits[4*i:4*i+4], 16, 0)
		if v > fullLane {
			return nil
		}
		l = append([]int{int(v)}, l...)
	}
	return l
}

// notPacked are numbers that Pack4 does not return: each choice of lanes that are too large by one bit, around full and empty ones, and ends of ranges.
func notPacked() []int {
	all := []int{-1, -2, -fullLane, -32768, -65536, -1 << 31, -1 << 32, -1 << 48, -1 << 62, math.MinInt, math.MinInt + 1, math.MaxInt, math.MaxInt - 1, 32768, 65535, 65536 + 65535, 1<<32 - 1, 1<<31 + 1, 1<<48 - 1, 1 << 47}
	for k := 1; k < 1<<lanes; k++ {
		for _, l := range fours(0, 1, fullLane) {
			n := uint64(packedWanted(l))
			for i := range lanes {
				n |= uint64(k>>i&1) << (16*i + 15)
			}
			all = append(all, int(n))
		}
	}
	return all
}

func checkPacked(t *testing.T, l []int, want int) {
	t.Helper()
	if got, ok := impl.Pack4(l); !ok || got != want {
		t.Fatalf("Pack4(%v) = %d, %t, want %d, true", l, got, ok, want)
	}
	if got := impl.Unpack4(want); !slices.Equal(got, l) {
		t.Fatalf("Unpack4(%d) = %v, want %v", want, got, l)
	}
}

func checkNotPacked(t *testing.T, l []int) {
	t.Helper()
	if got, ok := impl.Pack4(l); ok || got != 0 {
		t.Errorf("Pack4(%v) = %d, %t, want 0, false", l, got, ok)
	}
}

// checkSum adds the lanes in both orders.
func checkSum(t *testing.T, a, b []int) {
	t.Helper()
	want, wantOk := make([]int, lanes), true
	for i := range want {
		want[i] = a[i] + b[i]
		wantOk = wantOk && want[i] <= fullLane
	}
	if !wantOk {
		clear(want)
	}
	for _, pair := range [][2][]int{{a, b}, {b, a}} {
		got, ok := impl.AddLanes(packedWanted(pair[0]), packedWanted(pair[1]))
		if ok != wantOk || got != packedWanted(want) {
			t.Fatalf("AddLanes of %v = %d, %t, want %v, %t", pair, got, ok, want, wantOk)
		}
	}
}

func checkNoSum(t *testing.T, a, b int) {
	t.Helper()
	if got, ok := impl.AddLanes(a, b); ok || got != 0 {
		t.Errorf("AddLanes(%d, %d) = %d, %t, want 0, false", a, b, got, ok)
	}
}

func checkClipped(t *testing.T, l, want []int) {
	t.Helper()
	if got := impl.ClipLanes(packedWanted(l)); got != packedWanted(want) {
		t.Fatalf("ClipLanes of %v = %d, which is %v, want %v", l, got, unpackedWanted(got), want)
	}
}

// clippedWanted is what ClipLanes leaves of one number.
func clippedWanted(v int) int {
	return between(0, v-1024, mostSample)
}

func checkClipAdd(t *testing.T, p, r, want []int) {
	t.Helper()
	if got := impl.ClipAdd4(p, r); !slices.Equal(got, want) {
		t.Fatalf("ClipAdd4(%v, %v) = %v, want %v", p, r, got, want)
	}
}

func clipAddWanted(p, r []int) []int {
	want := make([]int, lanes)
	for i := range want {
		want[i] = between(0, p[i]+between(-1023, r[i], 1023), mostSample)
	}
	return want
}

func TestLaneConstants(t *testing.T) {
	if impl.Lane != 65536 || impl.LaneMost != fullLane || impl.Bias != 1024 {
		t.Errorf("Lane, LaneMost and Bias are %d, %d and %d", impl.Lane, impl.LaneMost, impl.Bias)
	}
}

func TestPackingByHand(t *testing.T) {
	checkPacked(t, []int{0, 0, 0, 0}, 0)
	checkPacked(t, []int{1, 0, 0, 0}, 1)
	checkPacked(t, []int{0, 1, 0, 0}, 65536)
	checkPacked(t, []int{0, 0, 1, 0}, 4294967296)
	checkPacked(t, []int{0, 0, 0, 1}, 281474976710656)
	checkPacked(t, []int{1, 2, 3, 4}, 1125912791875585)
	checkPacked(t, []int{4, 3, 2, 1}, 281483566841860)
	checkPacked(t, []int{fullLane, 0, 0, 0}, 32767)
	checkPacked(t, []int{0, 0, 0, fullLane}, 9223090561878065152)
	checkPacked(t, []int{fullLane, fullLane, fullLane, fullLane}, 9223231297218904063)
}

func TestPackingFollowsDefinition(t *testing.T) {
	for _, l := range fours(laneNumbers()...) {
		checkPacked(t, l, packedWanted(l))
	}
}

func TestEachNumberInEachLane(t *testing.T) {
	for v := range fullLane + 1 {
		for place := range lanes {
			for _, filled := range []int{0, 1, fullLane} {
				l := fourWith(place, v, filled)
				checkPacked(t, l, packedWanted(l))
			}
		}
	}
}

func TestPackingOfOtherCounts(t *testing.T) {
	checkOtherCounts(t, "Pack4", func(l []int) []int {
		n, ok := impl.Pack4(l)
		if !ok && n == 0 {
			return nil
		}
		return []int{n}
	}, lanes)
	for count := range 12 {
		if count != lanes {
			checkNotPacked(t, make([]int, count, 20))
			checkNotPacked(t, slices.Repeat([]int{fullLane}, count))
		}
	}
}

func TestPackingBeyondLanes(t *testing.T) {
	for _, v := range notLanes() {
		for place := range lanes {
			for _, filled := range []int{0, 1, 1024, fullLane, v} {
				checkNotPacked(t, fourWith(place, v, filled))
			}
		}
	}
	// Together with the next lane each of these would be a number that Pack4 returns.
	for place := range lanes - 1 {
		for _, pair := range [][2]int{{-1, 1}, {-65536, 2}, {65536, 0}, {65536, -1}, {-fullLane, fullLane}, {1 << 32, 0}} {
			l := fourWith(place, pair[0], 3)
			l[place+1] = pair[1]
			checkNotPacked(t, l)
		}
	}
}

func TestUnpackingOfOtherNumbers(t *testing.T) {
	for _, n := range notPacked() {
		if unpackedWanted(n) != nil {
			t.Fatalf("the test takes %d as not packed", n)
		}
		if got := impl.Unpack4(n); len(got) != 0 {
			t.Errorf("Unpack4(%d) = %v, want none", n, got)
		}
	}
}

// Around each power of two, and among numbers in no order, exactly the packed ones are unpacked.
func TestUnpackingInvertsPacking(t *testing.T) {
	var numbers []int
	for bit := range 64 {
		for d := -2; d <= 2; d++ {
			numbers = append(numbers, 1<<bit+d, -1<<bit+d)
		}
	}
	for _, block := range unevenBlocks(8, 200, 1<<30) {
		for pair := range slices.Chunk(block, 2) {
			n := pair[0]<<33 ^ pair[1]
			numbers = append(numbers, n, n&0x7fff7fff7fff7fff)
		}
	}
	for _, n := range numbers {
		got, want := impl.Unpack4(n), unpackedWanted(n)
		if !slices.Equal(got, want) {
			t.Errorf("Unpack4(%d) = %v, want %v", n, got, want)
		}
		if want != nil {
			checkPacked(t, want, n)
		}
	}
}

func TestSumsByHand(t *testing.T) {
	for _, c := range []struct {
		a, b, want int
		ok         bool
	}{
		{0, 0, 0, true},
		{1125912791875585, 281483566841860, 1407396358717445, true},
		{32767, 0, 32767, true},
		{16384, 16383, 32767, true},
		{16384, 16384, 0, false},
		{32767, 1, 0, false},
		{32767, 65536, 98303, true},
		{9223231297218904063, 0, 9223231297218904063, true},
		{9223231297218904063, 1, 0, false},
		{9223231297218904063, 65536, 0, false},
		{9223231297218904063, 4294967296, 0, false},
		{9223231297218904063, 281474976710656, 0, false},
		{9223231297218904063, 9223231297218904063, 0, false},
	} {
		if got, ok := impl.AddLanes(c.a, c.b); got != c.want || ok != c.ok {
			t.Errorf("AddLanes(%d, %d) = %d, %t, want %d, %t", c.a, c.b, got, ok, c.want, c.ok)
		}
	}
}

func TestSumsFollowDefinition(t *testing.T) {
	all := fours(0, 1, 16383, 16384, fullLane)
	for _, a := range all {
		for _, b := range all {
			checkSum(t, a, b)
		}
	}
}

// A lane that is just full is a sum, and one that is just too full is none; neither reaches the next lane.
func TestFullLanes(t *testing.T) {
	for place := range lanes {
		for v := range fullLane + 1 {
			for _, filled := range []int{0, 16383} {
				for more := range 3 {
					if rest := fullLane - v + more; rest <= fullLane {
						checkSum(t, fourWith(place, v, filled), fourWith(place, rest, filled))
						checkSum(t, fourWith(place, v, filled), fourWith(place, rest, fullLane-filled))
					}
				}
			}
		}
	}
}

func TestSumsOfOtherNumbers(t *testing.T) {
	for _, n := range notPacked() {
		for _, l := range fours(0, 1, fullLane) {
			m := packedWanted(l)
			checkNoSum(t, n, m)
			checkNoSum(t, m, n)
		}
		checkNoSum(t, n, n)
		// These would sum up to packed numbers.
		for _, sum := range []int{0, 1, fullLane, 65536, packedWanted([]int{1, 2, 3, 4}), packedWanted([]int{fullLane, fullLane, fullLane, fullLane})} {
			checkNoSum(t, n, sum-n)
			checkNoSum(t, sum-n, n)
		}
	}
}

func TestClippingByHand(t *testing.T) {
	checkClipped(t, []int{0, 0, 0, 0}, []int{0, 0, 0, 0})
	checkClipped(t, []int{1024, 1300, 0, 1025}, []int{0, 255, 0, 1})
	checkClipped(t, []int{1023, 1024, 1025, 1026}, []int{0, 0, 1, 2})
	checkClipped(t, []int{1278, 1279, 1280, 1281}, []int{254, 255, 255, 255})
	checkClipped(t, []int{fullLane, 1124, fullLane, 1}, []int{255, 100, 255, 0})
	checkClipped(t, []int{fullLane, fullLane, fullLane, fullLane}, []int{255, 255, 255, 255})
	if got := impl.ClipLanes(9223231297218904063); got != 71777214294589695 {
		t.Errorf("ClipLanes of full lanes = %d, want 71777214294589695", got)
	}
}

func TestClippingFollowsDefinition(t *testing.T) {
	for _, l := range fours(laneNumbers()...) {
		want := make([]int, lanes)
		for i, v := range l {
			want[i] = clippedWanted(v)
		}
		checkClipped(t, l, want)
	}
}

func TestClippingOfEachNumberInEachLane(t *testing.T) {
	for v := range fullLane + 1 {
		for place := range lanes {
			for _, filled := range []int{0, 1023, 1024, 1124, 1279, 1280, fullLane} {
				checkClipped(t, fourWith(place, v, filled), fourWith(place, clippedWanted(v), clippedWanted(filled)))
			}
		}
	}
}

func TestClippingOfOtherNumbers(t *testing.T) {
	for _, n := range notPacked() {
		if got := impl.ClipLanes(n); got != 0 {
			t.Errorf("ClipLanes(%d) = %d, want 0", n, got)
		}
	}
}

func TestClippedSumsByHand(t *testing.T) {
	checkClipAdd(t, []int{0, 0, 0, 0}, []int{0, 0, 0, 0}, []int{0, 0, 0, 0})
	checkClipAdd(t, []int{10, 250, 0, 255}, []int{-20, 10, 99999, -99999}, []int{0, 255, 255, 0})
	checkClipAdd(t, []int{1, 2, 3, 4}, []int{40, 30, 20, 10}, []int{41, 32, 23, 14})
	checkClipAdd(t, []int{100, 100, 100, 100}, []int{154, 155, 156, 157}, []int{254, 255, 255, 255})
	checkClipAdd(t, []int{100, 100, 100, 100}, []int{-98, -99, -100, -101}, []int{2, 1, 0, 0})
	checkClipAdd(t, []int{255, 0, 255, 0}, []int{-255, 255, -254, 254}, []int{0, 255, 1, 254})
	checkClipAdd(t, []int{7, 8, 9, 0}, []int{math.MinInt, math.MaxInt, math.MinInt, math.MaxInt}, []int{0, 255, 0, 255})
}

func TestClippedSumsFollowDefinition(t *testing.T) {
	for _, p := range fours(0, 1, 200, mostSample) {
		for _, r := range fours(-1024, -1, 0, 55, 1024) {
			checkClipAdd(t, p, r, clipAddWanted(p, r))
		}
	}
}

// Each sample with each summand around the limits of both ranges and the ends of int, at each place.
func TestEachClippedSum(t *testing.T) {
	summands := slices.Concat(bigNumbers(), notSamples(), notLanes(), notLevels())
	for v := range mostSample + 5 {
		summands = append(summands, v, -v)
	}
	for v := 1020; v <= 1028; v++ {
		summands = append(summands, v, -v)
	}
	for sample := range mostSample + 1 {
		for _, v := range summands {
			for place := range lanes {
				p, r := fourWith(place, sample, 100), fourWith(place, v, -3)
				checkClipAdd(t, p, r, clipAddWanted(p, r))
			}
		}
	}
}

func TestFourAdditionsAtOnce(t *testing.T) {
	for _, block := range unevenBlocks(8, 200, 1023) {
		for part := range slices.Chunk(block, 2*lanes) {
			p, r := make([]int, lanes), part[lanes:]
			biased := make([]int, lanes)
			for i := range lanes {
				p[i] = max(part[i], -part[i]) % (mostSample + 1)
				biased[i] = r[i] + impl.Bias
			}
			for i, want := range clipAddWanted(p, r) {
				alone := impl.ClipAdd4(only(lanes, i, p[i]), only(lanes, i, r[i]))
				if !slices.Equal(alone, only(lanes, i, want)) {
					t.Errorf("ClipAdd4 of %d and %d at %d = %v, want %d there", p[i], r[i], i, alone, want)
				}
			}
			a, _ := impl.Pack4(p)
			b, _ := impl.Pack4(biased)
			sums, ok := impl.AddLanes(a, b)
			if got := impl.Unpack4(impl.ClipLanes(sums)); !ok || !slices.Equal(got, clipAddWanted(p, r)) {
				t.Errorf("%v plus %v by lanes = %v, want %v", p, r, got, clipAddWanted(p, r))
			}
			checkClipAdd(t, p, r, clipAddWanted(p, r))
		}
	}
}

func checkNoClipAdd(t *testing.T, p, r []int) {
	t.Helper()
	if got := impl.ClipAdd4(p, r); len(got) != 0 {
		t.Errorf("ClipAdd4(%v, %v) = %v, want none", p, r, got)
	}
}

func TestClippedSumsOfOtherCounts(t *testing.T) {
	p, r := []int{1, 2, 3, 4}, []int{5, 6, 7, 8}
	checkOtherCounts(t, "ClipAdd4", func(l []int) []int { return impl.ClipAdd4(l, r) }, lanes)
	checkOtherCounts(t, "ClipAdd4", func(l []int) []int { return impl.ClipAdd4(p, l) }, lanes)
	checkOtherCounts(t, "ClipAdd4", func(l []int) []int { return impl.ClipAdd4(l, l) }, lanes)
	for count := range 9 {
		if count != lanes {
			checkNoClipAdd(t, make([]int, count, 9), make([]int, 8-count, 9))
		}
	}
}

func TestClippedSumsOfOtherSamples(t *testing.T) {
	for _, v := range notSamples() {
		for place := range lanes {
			for _, r := range []int{0, 9, -9, -v, 128 - v, math.MaxInt, math.MinInt} {
				checkNoClipAdd(t, fourWith(place, v, 0), fourWith(place, r, 0))
				checkNoClipAdd(t, fourWith(place, v, mostSample), fourWith(place, r, 1))
				checkNoClipAdd(t, slices.Repeat([]int{v}, lanes), slices.Repeat([]int{r}, lanes))
			}
		}
	}
}

// Both lists may be the same, or overlap, and behind them the memory goes on with other numbers.
func TestLanesFromOneList(t *testing.T) {
	backing := []int{200, 100, 0, 255, 30, 127, 128, 60, 1, 9}
	before := slices.Clone(backing)
	for i := range 4 {
		for k := range 4 {
			p, r := backing[i:i+lanes], backing[k:k+lanes:k+lanes]
			want := clipAddWanted(p, r)
			for range 2 {
				got := impl.ClipAdd4(p, r)
				if !slices.Equal(got, want) {
					t.Errorf("ClipAdd4(%v, %v) = %v, want %v", p, r, got, want)
				}
				// A result that shared memory would change an argument or the next result with it.
				got = got[:cap(got)]
				for i := range got {
					got[i] = -9
				}
			}
		}
		checkPacked(t, backing[i:i+lanes], packedWanted(backing[i:i+lanes]))
	}
	if !slices.Equal(backing, before) {
		t.Errorf("the arguments became %v", backing)
	}
}

func TestLanesAreNewEachTime(t *testing.T) {
	checkNewEachTime(t, "Unpack4", func(l []int) []int { return impl.Unpack4(1125912791875585) }, lanes)
	checkNewEachTime(t, "ClipAdd4", func(l []int) []int { return impl.ClipAdd4([]int{1, 2, 3, 4}, l) }, lanes)
}
