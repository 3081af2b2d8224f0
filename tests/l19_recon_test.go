package tests

import (
	"math"
	"slices"
	"testing"

	"loop.example/g01613/impl"
)

const mostResidual = 1000000

// A joining is one of the functions that join two lists to a block.
type joining struct {
	name string
	of   func([]int, []int) []int
}

// recons are both functions that add residuals; the same is wanted of them everywhere.
func recons() []joining {
	return []joining{{"Recon", impl.Recon}, {"FastRecon", impl.FastRecon}}
}

func joinings() []joining {
	return append(recons(), joining{"Residual", impl.Residual})
}

// residuals are numbers that may be added: both sides of each limit that adding knows, with one lane or without, and of ranges in which numbers wrap around.
func residuals() []int {
	var all []int
	for v := range 2*mostSample + 5 {
		all = append(all, v, -v)
	}
	for _, middle := range []int{1024, 1280, fullLane, 65536, mostResidual, 1 << 31, 1 << 32, 1 << 48} {
		for d := -3; d <= 3; d++ {
			all = append(all, middle+d, -middle+d)
		}
	}
	return slices.Concat(all, notLanes(), bigNumbers(), farResiduals())
}

// farResiduals are outside of all limits; some of them are small in fewer bits, and some overflow with a sample added or when their sign changes.
func farResiduals() []int {
	all := []int{mostResidual + 1, mostResidual + 2, 2 * mostResidual, 1<<31 - 1, 1 << 31, 1 << 32, 1<<32 + 5, 1<<32 - 5, 1<<48 + 5, 1 << 62, 1<<62 + 5}
	for d := range 3 {
		all = append(all, math.MaxInt-d, math.MaxInt-mostSample+1-d, math.MaxInt-mostResidual+1-d)
	}
	for _, v := range slices.Clone(all) {
		all = append(all, -v)
	}
	return append(all, math.MinInt, math.MinInt+5)
}

// reconWanted is the definition of Recon for a valid prediction and as many residuals.
func reconWanted(p, r []int) []int {
	var want []int
	for i := range p {
		want = append(want, between(0, p[i]+between(-mostResidual, r[i], mostResidual), mostSample))
	}
	return want
}

// residualWanted is the definition of Residual for two valid blocks of one size.
func residualWanted(f, p []int) []int {
	var want []int
	for i := range f {
		want = append(want, f[i]-p[i])
	}
	return want
}

// filledBlock has n*n elements v.
func filledBlock(n, v int) []int {
	return slices.Repeat([]int{v}, n*n)
}

// filledBut is a block of elements filled, but for v at one place.
func filledBut(n, place, v, filled int) []int {
	l := filledBlock(n, filled)
	l[place] = v
	return l
}

func checkRecon(t *testing.T, p, r, want []int) {
	t.Helper()
	for _, recon := range recons() {
		if got := recon.of(p, r); !slices.Equal(got, want) {
			t.Fatalf("%s(%v, %v) = %v, want %v", recon.name, p, r, got, want)
		}
	}
}

func checkResidual(t *testing.T, f, p, want []int) {
	t.Helper()
	if got := impl.Residual(f, p); !slices.Equal(got, want) {
		t.Fatalf("Residual(%v, %v) = %v, want %v", f, p, got, want)
	}
}

// checkRestored checks that a prediction and what Residual returns for it make the block.
func checkRestored(t *testing.T, f, p []int) {
	t.Helper()
	r := impl.Residual(f, p)
	for _, recon := range recons() {
		if got := recon.of(p, r); !slices.Equal(got, f) {
			t.Fatalf("%s of %v and the residual %v = %v, want %v", recon.name, p, r, got, f)
		}
	}
}

func checkNone(t *testing.T, j joining, a, b []int) {
	t.Helper()
	if got := j.of(a, b); len(got) != 0 {
		t.Fatalf("%s(%v, %v) = %v, want none", j.name, a, b, got)
	}
}

func TestReconByHand(t *testing.T) {
	p := []int{0, 255, 100, 100, 100, 100, 0, 255, 7, 0, 255, 128, 128, 128, 1, 254}
	r := []int{0, 0, 154, 155, 156, 3, -1, 1, -7, 255, -255, -128, -129, 127, -2, 2}
	checkRecon(t, p, r, []int{0, 255, 254, 255, 255, 103, 0, 255, 0, 255, 0, 0, 0, 255, 0, 255})
	checkRecon(t, filledBlock(4, 9), filledBlock(4, 0), filledBlock(4, 9))
	checkRecon(t, filledBlock(8, 9), filledBlock(8, 5), filledBlock(8, 14))
	checkRecon(t, filledBlock(8, 9), filledBlock(8, -5), filledBlock(8, 4))
	checkRecon(t, filledBlock(8, 200), filledBut(8, 63, -201, 56), filledBut(8, 63, 0, 255))
	var rising, falling []int
	for i := range 64 {
		rising, falling = append(rising, i), append(falling, 63-i)
	}
	checkRecon(t, rising, falling, filledBlock(8, 63))
	checkRecon(t, rising[:16], rising[16:32], []int{16, 18, 20, 22, 24, 26, 28, 30, 32, 34, 36, 38, 40, 42, 44, 46})
}

func TestEachSampleWithEachResidual(t *testing.T) {
	for _, n := range blockSizes() {
		for sample := range mostSample + 1 {
			p := filledBlock(n, sample)
			for _, r := range inBlocks(residuals(), n) {
				checkRecon(t, p, r, reconWanted(p, r))
			}
		}
	}
}

// Elements do not touch each other, whatever the others are.
func TestReconAtEachPlace(t *testing.T) {
	for _, n := range blockSizes() {
		for place := range n * n {
			for _, sample := range []int{0, 1, 128, mostSample} {
				for _, filled := range []int{0, 100, mostSample} {
					p := filledBut(n, place, sample, filled)
					for _, v := range []int{0, 1, -1, 255, -255, 1024, -1024, mostResidual, -mostResidual, math.MaxInt, math.MinInt} {
						checkRecon(t, p, only(n*n, place, v), filledBut(n, place, reconWanted([]int{sample}, []int{v})[0], filled))
						checkRecon(t, p, filledBut(n, place, v, -1), reconWanted(p, filledBut(n, place, v, -1)))
						checkRecon(t, p, filledBut(n, place, 1, v), reconWanted(p, filledBut(n, place, 1, v)))
					}
				}
			}
		}
	}
}

func TestReconOfUnevenBlocks(t *testing.T) {
	for _, n := range blockSizes() {
		for _, most := range []int{1, 30, mostSample, 300, 1023, 1024, 3000, fullLane, mostResidual, mostResidual + 1, 1 << 29} {
			for i, r := range unevenBlocks(n, 50, most) {
				p := unevenBlock(n, i)
				checkRecon(t, p, r, reconWanted(p, r))
			}
		}
	}
}

// A residual outside of all limits counts like the limit, which takes every sample to an end of its range.
func TestResidualsOutsideOfAllLimits(t *testing.T) {
	for _, n := range blockSizes() {
		for _, v := range append(farResiduals(), mostResidual, -mostResidual) {
			end := 0
			if v > 0 {
				end = mostSample
			}
			for _, sample := range []int{0, 1, 127, 128, 254, mostSample} {
				checkRecon(t, filledBlock(n, sample), filledBlock(n, v), filledBlock(n, end))
				for place := range n * n {
					checkRecon(t, filledBlock(n, sample), only(n*n, place, v), filledBut(n, place, end, sample))
				}
			}
		}
		p := unevenBlock(n, 0)
		for _, r := range inBlocks(farResiduals(), n) {
			checkRecon(t, p, r, reconWanted(p, r))
		}
	}
}

// FastRecon, Recon and ClipAdd4 agree on each four elements, alone and as a part of a block.
func TestFourSamplesAtATime(t *testing.T) {
	for _, n := range blockSizes() {
		for i, r := range slices.Concat(unevenBlocks(n, 50, 300), unevenBlocks(n, 50, 5000), inBlocks(residuals(), n)) {
			p := unevenBlock(n, i%50)
			var joined []int
			for k := 0; k < n*n; k += lanes {
				joined = append(joined, impl.ClipAdd4(p[k:k+lanes], r[k:k+lanes])...)
			}
			checkRecon(t, p, r, joined)
		}
	}
}

func TestResidualByHand(t *testing.T) {
	f := []int{0, 255, 0, 255, 1, 2, 3, 4, 100, 99, 101, 128, 127, 254, 17, 71}
	p := []int{0, 255, 255, 0, 4, 3, 2, 1, 100, 100, 100, 127, 128, 255, 71, 17}
	checkResidual(t, f, p, []int{0, 0, -255, 255, -3, -1, 1, 3, 0, -1, 1, 1, -1, -1, -54, 54})
	checkResidual(t, filledBlock(8, 9), filledBlock(8, 14), filledBlock(8, -5))
	checkResidual(t, filledBlock(8, 14), filledBut(8, 63, 15, 9), filledBut(8, 63, -1, 5))
	checkResidual(t, filledBlock(4, 255), filledBlock(4, 255), filledBlock(4, 0))
}

func TestResidualFollowsDefinition(t *testing.T) {
	for _, n := range blockSizes() {
		for i := range 50 {
			f, p := unevenBlock(n, i), unevenBlock(n, 49-i)
			checkResidual(t, f, p, residualWanted(f, p))
			checkResidual(t, p, f, residualWanted(p, f))
			checkResidual(t, f, f, filledBlock(n, 0))
		}
		for place := range n * n {
			for _, pair := range [][2]int{{0, 255}, {255, 0}, {128, 128}, {1, 0}, {0, 1}} {
				for _, filled := range []int{0, 77, mostSample} {
					f, p := filledBut(n, place, pair[0], filled), filledBut(n, place, pair[1], filled)
					checkResidual(t, f, p, only(n*n, place, pair[0]-pair[1]))
				}
			}
		}
	}
}

// Each sample is restored from each other one.
func TestPredictionPlusResidualOfEachSample(t *testing.T) {
	var samples []int
	for v := range mostSample + 1 {
		samples = append(samples, v)
	}
	for _, n := range blockSizes() {
		for _, f := range inBlocks(samples, n) {
			for v := range mostSample + 1 {
				p := filledBlock(n, v)
				checkResidual(t, f, p, residualWanted(f, p))
				checkRestored(t, f, p)
				checkRestored(t, p, f)
			}
		}
	}
}

func TestPredictionPlusResidualIsBlock(t *testing.T) {
	for _, n := range blockSizes() {
		for i := range 50 {
			f := unevenBlock(n, i)
			checkRestored(t, f, unevenBlock(n, 49-i))
			checkRestored(t, f, f)
			for place := range n * n {
				checkRestored(t, f, filledBut(n, place, mostSample, 0))
				checkRestored(t, filledBut(n, place, 0, mostSample), f)
			}
		}
	}
}

// A frame is restored block by block, each mode predicting from what is restored already.
func TestFramesFromResiduals(t *testing.T) {
	for _, whole := range unevenFrames() {
		for _, n := range blockSizes() {
			for _, mode := range allModes() {
				f := impl.FrameNew(whole.W, whole.H)
				for _, place := range placesIn(whole.W, whole.H, n) {
					p := impl.Pred(mode, impl.NbAt(f, place.x, place.y, n), n)
					block := blockWanted(whole, place)
					checkRestored(t, block, p)
					f, _ = impl.SetBlock(f, place.x, place.y, impl.FastRecon(p, impl.Residual(block, p)))
				}
				if !equalFrames(f, whole) {
					t.Fatalf("mode %d restores %v, want %v", mode, f, whole)
				}
			}
		}
	}
}

// Both lists need the elements of a block, and of the same one; the memory behind them goes on.
func TestJoiningOfOtherCounts(t *testing.T) {
	for _, j := range joinings() {
		for count := range 140 {
			for other := range 140 {
				if count != other || count != 16 && count != 64 {
					checkNone(t, j, inFrontOf(count), inFrontOf(other))
				}
			}
		}
		for _, n := range blockSizes() {
			fitting := filledBlock(n, 3)
			checkOtherCounts(t, j.name, func(l []int) []int { return j.of(fitting, l) }, n*n)
			checkOtherCounts(t, j.name, func(l []int) []int { return j.of(l, fitting) }, n*n)
		}
		checkOtherCounts(t, j.name, func(l []int) []int { return j.of(l, l) }, levelCounts()...)
		checkNone(t, j, nil, nil)
		checkNone(t, j, []int{}, nil)
		checkNone(t, j, nil, []int{})
	}
}

// A sum that would be a sample does not make up for a number that is none.
func TestReconOfOtherSamples(t *testing.T) {
	for _, n := range blockSizes() {
		for _, v := range notSamples() {
			for _, recon := range recons() {
				for place := range n * n {
					for _, r := range []int{0, 9, 128 - v, -v, math.MaxInt, math.MinInt} {
						checkNone(t, recon, filledBut(n, place, v, 0), only(n*n, place, r))
						checkNone(t, recon, filledBut(n, place, v, mostSample), filledBut(n, place, r, -1))
					}
				}
				checkNone(t, recon, filledBlock(n, v), filledBlock(n, 0))
			}
		}
	}
}

func TestResidualOfOtherSamples(t *testing.T) {
	residual := joining{"Residual", impl.Residual}
	for _, n := range blockSizes() {
		for _, v := range notSamples() {
			for place := range n * n {
				for _, filled := range []int{0, 128, mostSample} {
					checkNone(t, residual, filledBut(n, place, v, filled), filledBlock(n, filled))
					checkNone(t, residual, filledBlock(n, filled), filledBut(n, place, v, filled))
					checkNone(t, residual, filledBut(n, place, v, filled), filledBut(n, place, v, filled))
				}
			}
			checkNone(t, residual, filledBlock(n, v), filledBlock(n, v))
		}
	}
}

// Both lists may be the same, or overlap, and behind them the memory goes on with other numbers.
func TestJoiningOfOneList(t *testing.T) {
	backing := slices.Concat(unevenBlock(8, 0), unevenBlock(8, 1), []int{9})
	before := slices.Clone(backing)
	for _, j := range joinings() {
		for _, count := range levelCounts() {
			for i := range 5 {
				for _, k := range []int{0, 1, count - 1, count} {
					a, b := backing[i:i+count], backing[k:k+count]
					want := reconWanted(a, b)
					if j.name == "Residual" {
						want = residualWanted(a, b)
					}
					// A result that shared memory would change an argument or the next result with it.
					for range 2 {
						got := j.of(a, b)
						if !slices.Equal(got, want) {
							t.Fatalf("%s(%v, %v) = %v, want %v", j.name, a, b, got, want)
						}
						spoil(got)
					}
				}
			}
			spoil(j.of(backing[:count], backing[:count-1]))
			spoil(j.of(backing[:count-1], backing[:count-1]))
		}
		spoil(j.of(nil, backing[:64]))
	}
	if !slices.Equal(backing, before) {
		t.Errorf("the arguments became %v", backing)
	}
}

// Invalid elements are left as they are too.
func TestJoiningLeavesArguments(t *testing.T) {
	for _, j := range joinings() {
		for _, n := range blockSizes() {
			samples := filledBlock(n, 100)
			checkArgumentLeft(t, j.name, func(l []int) []int { return j.of(samples, l) }, n*n)
			checkArgumentLeft(t, j.name, func(l []int) []int { return j.of(l, samples) }, n*n)
			checkArgumentLeft(t, j.name, func(l []int) []int { return j.of(l, l) }, n*n)
			if !slices.Equal(samples, filledBlock(n, 100)) {
				t.Errorf("the other argument of %s became %v", j.name, samples)
			}
		}
	}
}
