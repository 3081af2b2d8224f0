package tests

import (
	"math"
	"slices"
	"testing"

	"loop.example/g01613/impl"
)

const (
	mostSide = 32
	// A frame consists of squares of this side, which are decoded row by row.
	squareSide = 8
)

func frameSides() []int {
	return []int{8, 16, 24, 32}
}

// notSides are no sides of a frame, some of which look like one in fewer bits or by their absolute value.
func notSides() []int {
	return []int{-1, -4, -8, -12, -16, -24, -32, 0, 1, 2, 4, 7, 9, 12, 15, 17, 20, 23, 25, 28, 31, 33, 36, 40, 48, 56, 64, 128, 256, 256 + 8, 65536 + 16, 1 << 31, -1 << 31, 1 << 32, 1<<32 + 8, -1<<32 + 8, 1<<61 + 8, 1<<62 + 8, math.MaxInt, math.MaxInt - 7, math.MinInt, math.MinInt + 8, math.MinInt + 16}
}

// frameFrom has this sample in each column x and row y.
func frameFrom(w, h int, sample func(x, y int) int) impl.Frame {
	f := impl.Frame{W: w, H: h}
	for y := range h {
		for x := range w {
			f.Pix = append(f.Pix, sample(x, y))
		}
	}
	return f
}

// countedFrame has 16 by 16 samples, each of which tells its place: 16 times its row plus its column.
func countedFrame() impl.Frame {
	return frameFrom(16, 16, func(x, y int) int { return 16*y + x })
}

// unevenFrame has samples in no order, different ones for each choice.
func unevenFrame(w, h, choice int) impl.Frame {
	l := unevenBlocks(mostSide, choice+1, mostSample)[choice]
	return frameFrom(w, h, func(x, y int) int { return max(l[y*w+x], -l[y*w+x]) })
}

func unevenFrames() []impl.Frame {
	var all []impl.Frame
	for _, w := range frameSides() {
		for _, h := range frameSides() {
			all = append(all, unevenFrame(w, h, len(all)%3))
		}
	}
	return all
}

// unevenBlock has n*n samples in no order, different ones for each choice.
func unevenBlock(n, choice int) []int {
	l := unevenBlocks(n, choice+1, mostSample)[choice]
	for i, v := range l {
		l[i] = max(v, -v)
	}
	return l
}

// copied is the frame with samples of its own.
func copied(f impl.Frame) impl.Frame {
	f.Pix = slices.Clone(f.Pix)
	return f
}

// inMoreMemory is the frame with samples behind which the memory goes on.
func inMoreMemory(f impl.Frame) impl.Frame {
	f.Pix = slices.Concat(f.Pix, slices.Repeat([]int{77}, 100))[:len(f.Pix)]
	return f
}

// A blockPlace is where a block of size n may lie.
type blockPlace struct {
	x, y, n int
}

// fitsWanted is the definition of a block that fits into a frame of w by h samples.
func fitsWanted(w, h int, p blockPlace) bool {
	if p.n != 4 && p.n != 8 {
		return false
	}
	for x := 0; x < w; x += p.n {
		for y := 0; y < h; y += p.n {
			if p.x == x && p.y == y {
				return true
			}
		}
	}
	return false
}

// placesIn are all places of blocks of size n, in the order in which they are decoded.
func placesIn(w, h, n int) []blockPlace {
	var all []blockPlace
	for top := 0; top < h; top += squareSide {
		for left := 0; left < w; left += squareSide {
			for y := top; y < top+squareSide; y += n {
				for x := left; x < left+squareSide; x += n {
					all = append(all, blockPlace{x, y, n})
				}
			}
		}
	}
	return all
}

func allPlaces(w, h int) []blockPlace {
	return append(placesIn(w, h, 4), placesIn(w, h, 8)...)
}

// farStarts are no columns and no rows where a block begins, some of which look like one in fewer bits or after a size is added.
func farStarts() []int {
	return []int{-4, -8, -16, -32, 40, 64, 128, 256, 256 + 8, 65536, 65536 + 8, 1 << 31, -1 << 31, 1 << 32, 1<<32 + 8, -1 << 32, -1<<32 + 8, 1 << 61, 1 << 62, -1 << 62, math.MaxInt, math.MaxInt - 3, math.MaxInt - 7, math.MinInt, math.MinInt + 4, math.MinInt + 8}
}

// notFrames are no frames: wrong sides with as many samples as they ask for, wrong counts of samples, and wrong samples.
func notFrames() []impl.Frame {
	all := []impl.Frame{
		{},
		{W: 8, H: 8},
		{W: -8, H: -8, Pix: make([]int, 64)},
		{W: -16, H: -32, Pix: make([]int, 512)},
		{W: 1 << 32, H: 1 << 32},
		{W: 1<<61 + 8, H: 8, Pix: make([]int, 64)},
		{W: 8, H: 1<<61 + 8, Pix: make([]int, 64)},
		{W: 1<<32 + 8, H: 8, Pix: make([]int, 64)},
		{W: math.MinInt, H: 8},
		{W: 8, H: math.MinInt},
	}
	for _, sides := range [][2]int{{4, 16}, {16, 4}, {12, 8}, {8, 12}, {40, 8}, {8, 40}, {2, 32}, {32, 2}, {64, 8}, {8, 64}, {64, 1}, {1, 64}, {0, 8}, {8, 0}, {9, 8}, {8, 9}, {36, 16}, {16, 31}} {
		all = append(all, impl.Frame{W: sides[0], H: sides[1], Pix: make([]int, sides[0]*sides[1])})
	}
	for _, f := range []impl.Frame{unevenFrame(8, 8, 0), unevenFrame(16, 8, 1), unevenFrame(8, 24, 2), unevenFrame(32, 32, 0)} {
		count := f.W * f.H
		for _, other := range []int{0, 1, f.W, count - f.W, count - 8, count - 1, count + 1, count + 8, count + f.W, 2 * count, 65536 + count} {
			all = append(all, impl.Frame{W: f.W, H: f.H, Pix: inFrontOf(other)})
		}
		for _, i := range []int{0, 1, 7, 8, count / 2, count - 9, count - 1} {
			for _, v := range []int{-1, mostSample + 1, 65536 + 5, 1<<32 + 5, math.MaxInt, math.MinInt} {
				wrong := copied(f)
				wrong.Pix[i] = v
				all = append(all, wrong)
			}
		}
	}
	return all
}

func sampleIn(f impl.Frame, x, y int) int {
	return f.Pix[y*f.W+x]
}

// blockWanted is BlockAt's definition for a block that fits.
func blockWanted(f impl.Frame, p blockPlace) []int {
	var block []int
	for i := range p.n * p.n {
		block = append(block, sampleIn(f, p.x+i%p.n, p.y+i/p.n))
	}
	return block
}

// setWanted is SetBlock's definition for a block that fits.
func setWanted(f impl.Frame, p blockPlace, l []int) impl.Frame {
	return frameFrom(f.W, f.H, func(x, y int) int {
		column, row := x-p.x, y-p.y
		if column >= 0 && column < p.n && row >= 0 && row < p.n {
			return l[row*p.n+column]
		}
		return sampleIn(f, x, y)
	})
}

// nbWanted is NbAt's definition for a block that fits, sample by sample.
func nbWanted(f impl.Frame, p blockPlace) impl.Nb {
	b := impl.Nb{Corner: meanOfNone, HasTop: p.y > 0, HasLeft: p.x > 0}
	for i := range 2 * p.n {
		v := meanOfNone
		switch {
		case p.y == 0:
		case i < p.n, p.y%8 == 0 && p.x+i < f.W:
			v = sampleIn(f, p.x+i, p.y-1)
		default:
			v = b.Top[i-1]
		}
		b.Top = append(b.Top, v)
	}
	for i := range p.n {
		v := meanOfNone
		if p.x > 0 {
			v = sampleIn(f, p.x-1, p.y+i)
		}
		b.Left = append(b.Left, v)
	}
	if p.x > 0 && p.y > 0 {
		b.Corner = sampleIn(f, p.x-1, p.y-1)
	}
	return b
}

// earlierWanted reports whether the sample in column x and row y is decoded before the block.
func earlierWanted(p blockPlace, x, y int) bool {
	rows, columns := y/8-p.y/8, x/8-p.x/8
	if rows != 0 {
		return rows < 0
	}
	if columns != 0 || p.n == 8 {
		return columns < 0
	}
	rows, columns = y/4-p.y/4, x/4-p.x/4
	return rows < 0 || rows == 0 && columns < 0
}

// equalFrames does not rely on SameFrame.
func equalFrames(f, g impl.Frame) bool {
	return f.W == g.W && f.H == g.H && slices.Equal(f.Pix, g.Pix)
}

func equalNbs(a, b impl.Nb) bool {
	return a.Corner == b.Corner && a.HasTop == b.HasTop && a.HasLeft == b.HasLeft && slices.Equal(a.Top, b.Top) && slices.Equal(a.Left, b.Left)
}

// spoil changes all the memory of the list, also behind its end.
func spoil(l []int) {
	l = l[:cap(l)]
	for i := range l {
		l[i] = -9
	}
}

// checkLeftAlone checks the memory of a list, also behind its end.
func checkLeftAlone(t *testing.T, l, before []int) {
	t.Helper()
	for i, v := range l[:cap(l)] {
		if v != before[i] {
			t.Fatalf("element %d of the argument became %d, was %d", i, v, before[i])
		}
	}
}

func checkBlock(t *testing.T, f impl.Frame, p blockPlace, want []int) {
	t.Helper()
	if got := impl.BlockAt(f, p.x, p.y, p.n); !slices.Equal(got, want) {
		t.Fatalf("BlockAt %v of %d by %d samples = %v, want %v", p, f.W, f.H, got, want)
	}
}

func checkNb(t *testing.T, f impl.Frame, p blockPlace, want impl.Nb) {
	t.Helper()
	if got := impl.NbAt(f, p.x, p.y, p.n); !equalNbs(got, want) {
		t.Fatalf("NbAt %v of %d by %d samples = %v, want %v", p, f.W, f.H, got, want)
	}
}

// checkSet checks the frame with the block, that it has memory of its own, and that the arguments stay as they are.
func checkSet(t *testing.T, f impl.Frame, p blockPlace, l []int) {
	t.Helper()
	want := setWanted(f, p, l)
	pix, block := slices.Clone(f.Pix[:cap(f.Pix)]), slices.Clone(l[:cap(l)])
	got, ok := impl.SetBlock(f, p.x, p.y, l)
	if !ok || !equalFrames(got, want) {
		t.Fatalf("SetBlock %v of %v = %v, %t, want %v, true", p, l, got, ok, want)
	}
	spoil(got.Pix)
	checkLeftAlone(t, f.Pix, pix)
	checkLeftAlone(t, l, block)
}

// checkNotSet checks that the frame is returned as it is, in memory of its own.
func checkNotSet(t *testing.T, f impl.Frame, x, y int, l []int) {
	t.Helper()
	pix, block := slices.Clone(f.Pix[:cap(f.Pix)]), slices.Clone(l[:cap(l)])
	got, ok := impl.SetBlock(f, x, y, l)
	if ok || !equalFrames(got, f) {
		t.Fatalf("SetBlock at %d and %d of %v = %v, %t, want %v, false", x, y, l, got, ok, f)
	}
	spoil(got.Pix)
	checkLeftAlone(t, f.Pix, pix)
	checkLeftAlone(t, l, block)
}

// checkNoBlock checks that all functions refuse the place.
func checkNoBlock(t *testing.T, f impl.Frame, p blockPlace) {
	t.Helper()
	checkBlock(t, f, p, nil)
	checkNb(t, f, p, impl.Nb{})
	if p.n >= 0 && p.n < 100 {
		checkNotSet(t, f, p.x, p.y, inFrontOf(p.n*p.n))
	}
}

func checkSame(t *testing.T, a, b impl.Frame, want bool) {
	t.Helper()
	if got := impl.SameFrame(a, b); got != want {
		t.Fatalf("SameFrame(%v, %v) = %t", a, b, got)
	}
	if got := impl.SameFrame(b, a); got != want {
		t.Fatalf("SameFrame(%v, %v) = %t", b, a, got)
	}
}

func TestSidesOk(t *testing.T) {
	if impl.MaxSide != mostSide {
		t.Errorf("MaxSide = %d", impl.MaxSide)
	}
	all := append(notSides(), frameSides()...)
	for v := range 300 {
		all = append(all, v, -v)
	}
	for _, w := range all {
		for _, h := range all {
			want := slices.Contains(frameSides(), w) && slices.Contains(frameSides(), h)
			if got := impl.SidesOk(w, h); got != want {
				t.Errorf("SidesOk(%d, %d) = %t", w, h, got)
			}
		}
	}
}

func TestFrameNew(t *testing.T) {
	for _, w := range frameSides() {
		for _, h := range frameSides() {
			for range 2 {
				f := impl.FrameNew(w, h)
				if !equalFrames(f, impl.Frame{W: w, H: h, Pix: make([]int, w*h)}) || !impl.FrameOk(f) {
					t.Errorf("FrameNew(%d, %d) = %v", w, h, f)
				}
				spoil(f.Pix)
			}
		}
	}
}

func TestFrameNewOfOtherSides(t *testing.T) {
	for _, side := range notSides() {
		for _, other := range append(notSides(), frameSides()...) {
			for _, f := range []impl.Frame{impl.FrameNew(side, other), impl.FrameNew(other, side)} {
				if !equalFrames(f, impl.Frame{}) {
					t.Errorf("FrameNew of %d and %d = %v", side, other, f)
				}
			}
		}
	}
}

func TestFrameOk(t *testing.T) {
	for _, f := range unevenFrames() {
		full, empty := copied(f), copied(f)
		for i := range f.Pix {
			full.Pix[i], empty.Pix[i] = mostSample, 0
		}
		for _, f := range []impl.Frame{f, full, empty, inMoreMemory(f)} {
			if !impl.FrameOk(f) {
				t.Errorf("FrameOk(%v) = false", f)
			}
		}
	}
	for _, f := range notFrames() {
		if impl.FrameOk(f) {
			t.Errorf("FrameOk(%v) = true", f)
		}
	}
}

func TestEachSampleOfAFrame(t *testing.T) {
	for _, f := range unevenFrames() {
		for i, sample := range f.Pix {
			for _, v := range notSamples() {
				f.Pix[i] = v
				if impl.FrameOk(f) {
					t.Errorf("FrameOk of %d by %d samples with %d at %d = true", f.W, f.H, v, i)
				}
			}
			f.Pix[i] = sample
		}
	}
	f := impl.FrameNew(8, 8)
	for v := range mostSample + 1 {
		for i := range f.Pix {
			f.Pix[i] = v
			if !impl.FrameOk(f) {
				t.Errorf("FrameOk of 8 by 8 samples with %d at %d = false", v, i)
			}
		}
	}
}

func TestBlockByHand(t *testing.T) {
	f := countedFrame()
	checkBlock(t, f, blockPlace{0, 0, 4}, []int{0, 1, 2, 3, 16, 17, 18, 19, 32, 33, 34, 35, 48, 49, 50, 51})
	checkBlock(t, f, blockPlace{12, 4, 4}, []int{76, 77, 78, 79, 92, 93, 94, 95, 108, 109, 110, 111, 124, 125, 126, 127})
	checkBlock(t, f, blockPlace{12, 12, 4}, []int{204, 205, 206, 207, 220, 221, 222, 223, 236, 237, 238, 239, 252, 253, 254, 255})
	checkBlock(t, f, blockPlace{8, 0, 8}, []int{
		8, 9, 10, 11, 12, 13, 14, 15,
		24, 25, 26, 27, 28, 29, 30, 31,
		40, 41, 42, 43, 44, 45, 46, 47,
		56, 57, 58, 59, 60, 61, 62, 63,
		72, 73, 74, 75, 76, 77, 78, 79,
		88, 89, 90, 91, 92, 93, 94, 95,
		104, 105, 106, 107, 108, 109, 110, 111,
		120, 121, 122, 123, 124, 125, 126, 127,
	})
}

func TestBlocksAtEachPlace(t *testing.T) {
	for _, f := range unevenFrames() {
		for _, p := range allPlaces(f.W, f.H) {
			want := blockWanted(f, p)
			for range 2 {
				checkBlock(t, f, p, want)
				spoil(impl.BlockAt(f, p.x, p.y, p.n))
			}
		}
	}
}

// Every start near the frame, at a multiple of the size and between two of them, inside and on each side.
func TestStartsOfBlocks(t *testing.T) {
	for _, f := range unevenFrames() {
		for _, n := range blockSizes() {
			block := unevenBlock(n, 0)
			for x := -9; x <= f.W+8; x++ {
				for y := -9; y <= f.H+8; y++ {
					p := blockPlace{x, y, n}
					if !fitsWanted(f.W, f.H, p) {
						checkNoBlock(t, f, p)
						continue
					}
					checkBlock(t, f, p, blockWanted(f, p))
					checkNb(t, f, p, nbWanted(f, p))
					checkSet(t, f, p, block)
				}
			}
		}
	}
}

func TestStartsFarAway(t *testing.T) {
	for _, f := range []impl.Frame{unevenFrame(8, 8, 0), unevenFrame(32, 8, 1), unevenFrame(16, 24, 2), unevenFrame(32, 32, 0)} {
		for _, n := range blockSizes() {
			for _, far := range farStarts() {
				for _, near := range append(farStarts(), 0, 4, 8, 16) {
					checkNoBlock(t, f, blockPlace{far, near, n})
					checkNoBlock(t, f, blockPlace{near, far, n})
				}
			}
		}
	}
}

func TestBlocksOfOtherSizes(t *testing.T) {
	for _, f := range unevenFrames() {
		for _, n := range notSizes() {
			for _, start := range []int{0, 4, 8, 16, n, -n} {
				checkNoBlock(t, f, blockPlace{start, 0, n})
				checkNoBlock(t, f, blockPlace{0, start, n})
			}
		}
	}
}

func TestBlocksOfNoFrame(t *testing.T) {
	for _, f := range notFrames() {
		for _, p := range []blockPlace{{0, 0, 4}, {0, 0, 8}, {4, 0, 4}, {0, 4, 4}, {4, 4, 4}, {8, 0, 8}, {0, 8, 8}, {8, 8, 8}, {28, 28, 4}, {24, 24, 8}, {-8, -8, 8}, {0, 0, 16}, {math.MaxInt, math.MinInt, 8}} {
			checkNoBlock(t, f, p)
		}
	}
}

func TestSetByHand(t *testing.T) {
	f := impl.FrameNew(16, 8)
	l := []int{1, 2, 3, 4, 5, 6, 7, 8, 9, 10, 11, 12, 13, 14, 15, 16}
	want := make([]int, 128)
	copy(want[4:], l[:4])
	copy(want[20:], l[4:8])
	copy(want[36:], l[8:12])
	copy(want[52:], l[12:])
	got, ok := impl.SetBlock(f, 4, 0, l)
	if !ok || got.W != 16 || got.H != 8 || !slices.Equal(got.Pix, want) {
		t.Errorf("SetBlock at 4 and 0 of %v = %v, %t", l, got, ok)
	}
	if !equalFrames(f, impl.FrameNew(16, 8)) {
		t.Errorf("the frame became %v", f)
	}
}

func TestSetAtEachPlace(t *testing.T) {
	for _, f := range unevenFrames() {
		for _, n := range blockSizes() {
			blocks := [][]int{unevenBlock(n, 0), unevenBlock(n, 1), make([]int, n*n), slices.Repeat([]int{mostSample}, n*n), only(n*n, n, 1), inFrontOf(n * n)}
			for _, p := range placesIn(f.W, f.H, n) {
				for _, l := range append(blocks, blockWanted(f, p)) {
					checkSet(t, f, p, l)
					checkSet(t, inMoreMemory(f), p, l)
				}
			}
		}
	}
}

// A block is read back as it was stored, and no block beside it has changed, of either size.
func TestStoredBlockIsRead(t *testing.T) {
	for _, f := range unevenFrames() {
		for k, p := range allPlaces(f.W, f.H) {
			l := unevenBlock(p.n, k%7)
			set, _ := impl.SetBlock(f, p.x, p.y, l)
			checkBlock(t, set, p, l)
			for _, other := range allPlaces(f.W, f.H) {
				if other.x >= p.x+p.n || other.y >= p.y+p.n || other.x+other.n <= p.x || other.y+other.n <= p.y {
					checkBlock(t, set, other, blockWanted(f, other))
				}
			}
			again, ok := impl.SetBlock(set, p.x, p.y, blockWanted(f, p))
			if !ok || !equalFrames(again, f) {
				t.Errorf("after SetBlock %v twice, the second time as it was, the frame is %v", p, again)
			}
		}
	}
}

// Each sample of the block counts, alone among others, and lands at its own place in the frame.
func TestEachSampleOfABlock(t *testing.T) {
	f := unevenFrame(16, 16, 1)
	for _, p := range []blockPlace{{0, 0, 4}, {12, 8, 4}, {4, 12, 4}, {8, 0, 8}, {8, 8, 8}} {
		for i := range p.n * p.n {
			for _, v := range []int{0, 1, 127, 128, 254, mostSample} {
				l := slices.Repeat([]int{60}, p.n*p.n)
				l[i] = v
				checkSet(t, f, p, l)
			}
			for _, v := range notSamples() {
				l := slices.Repeat([]int{60}, p.n*p.n)
				l[i] = v
				checkNotSet(t, f, p.x, p.y, l)
			}
		}
	}
}

// The number of elements decides the size, also where there is memory for more of them.
func TestSetOfOtherCounts(t *testing.T) {
	for _, f := range []impl.Frame{unevenFrame(8, 8, 0), unevenFrame(32, 32, 1)} {
		checkNotSet(t, f, 0, 0, nil)
		checkNotSet(t, f, 0, 0, []int{})
		for count := range 300 {
			if count != 16 && count != 64 {
				checkNotSet(t, f, 0, 0, inFrontOf(count))
			}
		}
		for _, count := range []int{512, 1024, 65536, 65536 + 16, 65536 + 64} {
			checkNotSet(t, f, 0, 0, inFrontOf(count))
		}
	}
}

// At a place for blocks of size 4 only, a block of size 8 does not fit, although the frame goes on.
func TestSizeFollowsFromCount(t *testing.T) {
	for _, f := range unevenFrames() {
		for _, p := range placesIn(f.W, f.H, 4) {
			eight := blockPlace{p.x, p.y, 8}
			l := unevenBlock(8, 2)
			checkSet(t, f, p, l[:16])
			if p.x%8 == 0 && p.y%8 == 0 {
				checkSet(t, f, eight, l)
			} else {
				checkNoBlock(t, f, eight)
				checkNotSet(t, f, p.x, p.y, l)
			}
		}
	}
}

func TestSetOfAllBlocksInAnyOrder(t *testing.T) {
	for _, want := range unevenFrames() {
		for _, n := range blockSizes() {
			places := placesIn(want.W, want.H, n)
			for step := range 3 {
				if step == 1 {
					slices.Reverse(places)
				} else if step == 2 {
					slices.SortFunc(places, func(a, b blockPlace) int { return (a.x*5+a.y*3)%11 - (b.x*5+b.y*3)%11 })
				}
				f := impl.FrameNew(want.W, want.H)
				for _, p := range places {
					f, _ = impl.SetBlock(f, p.x, p.y, blockWanted(want, p))
				}
				if !equalFrames(f, want) {
					t.Errorf("the blocks of size %d make %v, want %v", n, f, want)
				}
			}
		}
	}
}

// The block may be a part of the frame's own memory.
func TestSetFromTheFrameItself(t *testing.T) {
	for _, f := range unevenFrames() {
		for _, p := range allPlaces(f.W, f.H) {
			for _, start := range []int{0, 1, 8, f.W*f.H - p.n*p.n} {
				if start+p.n*p.n <= len(f.Pix) {
					checkSet(t, f, p, f.Pix[start:start+p.n*p.n])
				}
			}
		}
	}
}

func TestNeighborhoodsByHand(t *testing.T) {
	f := countedFrame()
	none4, none8 := slices.Repeat([]int{128}, 4), slices.Repeat([]int{128}, 8)
	none16 := slices.Repeat([]int{128}, 16)
	for p, want := range map[blockPlace]impl.Nb{
		{0, 0, 4}:   {Top: none8, Left: none4, Corner: 128},
		{4, 0, 4}:   {Top: none8, Left: []int{3, 19, 35, 51}, Corner: 128, HasLeft: true},
		{12, 0, 4}:  {Top: none8, Left: []int{11, 27, 43, 59}, Corner: 128, HasLeft: true},
		{0, 4, 4}:   {Top: []int{48, 49, 50, 51, 51, 51, 51, 51}, Left: none4, Corner: 128, HasTop: true},
		{4, 4, 4}:   {Top: []int{52, 53, 54, 55, 55, 55, 55, 55}, Left: []int{67, 83, 99, 115}, Corner: 51, HasTop: true, HasLeft: true},
		{8, 4, 4}:   {Top: []int{56, 57, 58, 59, 59, 59, 59, 59}, Left: []int{71, 87, 103, 119}, Corner: 55, HasTop: true, HasLeft: true},
		{0, 8, 4}:   {Top: []int{112, 113, 114, 115, 116, 117, 118, 119}, Left: none4, Corner: 128, HasTop: true},
		{4, 8, 4}:   {Top: []int{116, 117, 118, 119, 120, 121, 122, 123}, Left: []int{131, 147, 163, 179}, Corner: 115, HasTop: true, HasLeft: true},
		{12, 8, 4}:  {Top: []int{124, 125, 126, 127, 127, 127, 127, 127}, Left: []int{139, 155, 171, 187}, Corner: 123, HasTop: true, HasLeft: true},
		{0, 12, 4}:  {Top: []int{176, 177, 178, 179, 179, 179, 179, 179}, Left: none4, Corner: 128, HasTop: true},
		{12, 12, 4}: {Top: []int{188, 189, 190, 191, 191, 191, 191, 191}, Left: []int{203, 219, 235, 251}, Corner: 187, HasTop: true, HasLeft: true},
		{0, 0, 8}:   {Top: none16, Left: none8, Corner: 128},
		{8, 0, 8}:   {Top: none16, Left: []int{7, 23, 39, 55, 71, 87, 103, 119}, Corner: 128, HasLeft: true},
		{0, 8, 8}:   {Top: []int{112, 113, 114, 115, 116, 117, 118, 119, 120, 121, 122, 123, 124, 125, 126, 127}, Left: none8, Corner: 128, HasTop: true},
		{8, 8, 8}: {
			Top:    []int{120, 121, 122, 123, 124, 125, 126, 127, 127, 127, 127, 127, 127, 127, 127, 127},
			Left:   []int{135, 151, 167, 183, 199, 215, 231, 247},
			Corner: 119, HasTop: true, HasLeft: true,
		},
	} {
		checkNb(t, f, p, want)
		if got := nbWanted(f, p); !equalNbs(got, want) {
			t.Errorf("the definition has %v at %v", got, p)
		}
	}
}

// In the right corners the top row goes on beyond the frame, and next to each corner there is no further block.
func TestBlocksInTheCorners(t *testing.T) {
	for _, f := range unevenFrames() {
		for _, n := range blockSizes() {
			block := unevenBlock(n, 3)
			for _, p := range []blockPlace{{0, 0, n}, {f.W - n, 0, n}, {0, f.H - n, n}, {f.W - n, f.H - n, n}} {
				checkBlock(t, f, p, blockWanted(f, p))
				checkSet(t, f, p, block)
				checkNb(t, f, p, nbWanted(f, p))
				if p.x+n == f.W {
					checkNoBlock(t, f, blockPlace{p.x + n, p.y, n})
					b := impl.NbAt(f, p.x, p.y, n)
					if !slices.Equal(b.Top[n:], slices.Repeat(b.Top[n-1:n], n)) {
						t.Errorf("NbAt %v of %d by %d samples = %v goes on beyond the frame", p, f.W, f.H, b)
					}
				}
				if p.y+n == f.H {
					checkNoBlock(t, f, blockPlace{p.x, p.y + n, n})
				}
			}
			// Without any neighbors the frame does not matter.
			first := impl.Nb{Top: slices.Repeat([]int{128}, 2*n), Left: slices.Repeat([]int{128}, n), Corner: 128}
			checkNb(t, f, blockPlace{0, 0, n}, first)
			checkNoBlock(t, f, blockPlace{-n, -n, n})
			checkNoBlock(t, f, blockPlace{f.W, f.H, n})
		}
	}
}

func TestNeighborhoodsAtEachPlace(t *testing.T) {
	for _, f := range unevenFrames() {
		for _, p := range allPlaces(f.W, f.H) {
			pix := slices.Clone(f.Pix[:cap(f.Pix)])
			want := nbWanted(f, p)
			for range 2 {
				got := impl.NbAt(f, p.x, p.y, p.n)
				if !equalNbs(got, want) || !impl.NbOk(got, p.n) {
					t.Errorf("NbAt %v of %d by %d samples = %v, want %v", p, f.W, f.H, got, want)
				}
				spoil(got.Top)
				if !slices.Equal(got.Left, want.Left) {
					t.Errorf("Top and Left of NbAt %v share memory", p)
				}
				spoil(got.Left)
				checkLeftAlone(t, f.Pix, pix)
			}
		}
	}
}

// The neighbors are the edges of the blocks around, wherever there are such blocks.
func TestNeighborsAreEdgesOfBlocks(t *testing.T) {
	for _, f := range unevenFrames() {
		for _, p := range allPlaces(f.W, f.H) {
			n := p.n
			b := impl.NbAt(f, p.x, p.y, n)
			above, beside := impl.BlockAt(f, p.x, p.y-n, n), impl.BlockAt(f, p.x-n, p.y, n)
			if b.HasTop != (len(above) != 0) || b.HasLeft != (len(beside) != 0) {
				t.Fatalf("NbAt %v of %d by %d samples has the flags %t and %t", p, f.W, f.H, b.HasTop, b.HasLeft)
			}
			if b.HasTop && !slices.Equal(b.Top[:n], above[n*n-n:]) {
				t.Errorf("NbAt %v has %v below %v", p, b.Top, above)
			}
			for i := range n {
				if b.HasLeft && b.Left[i] != beside[i*n+n-1] {
					t.Errorf("NbAt %v has %v beside %v", p, b.Left, beside)
				}
			}
			if corner := impl.BlockAt(f, p.x-n, p.y-n, n); len(corner) != 0 && b.Corner != corner[n*n-1] {
				t.Errorf("NbAt %v has the corner %d behind %v", p, b.Corner, corner)
			}
		}
	}
}

// Neither all samples that are decoded later, those of the block itself among them, nor any one of them makes a difference.
func TestNeighborsAreDecodedEarlier(t *testing.T) {
	for _, f := range unevenFrames() {
		for _, p := range allPlaces(f.W, f.H) {
			want := impl.NbAt(f, p.x, p.y, p.n)
			for _, v := range []int{0, 100, mostSample} {
				later := frameFrom(f.W, f.H, func(x, y int) int {
					if earlierWanted(p, x, y) {
						return sampleIn(f, x, y)
					}
					return v
				})
				checkNb(t, later, p, want)
			}
			for i, sample := range f.Pix {
				if !earlierWanted(p, i%f.W, i/f.W) {
					f.Pix[i] = mostSample - sample
					checkNb(t, f, p, want)
					f.Pix[i] = sample
				}
			}
		}
	}
}

// The order in earlierWanted is the one in which the blocks come.
func TestOrderOfBlocks(t *testing.T) {
	for _, f := range unevenFrames() {
		for _, n := range blockSizes() {
			places := placesIn(f.W, f.H, n)
			for i, p := range places {
				for k, other := range places {
					for _, inside := range []int{0, n - 1} {
						if got := earlierWanted(p, other.x+inside, other.y+inside); got != (k < i) {
							t.Fatalf("block %d at %v is earlier than block %d at %v: %t", k, other, i, p, got)
						}
					}
				}
			}
		}
	}
}

// Each block finds the neighborhood that it will have in the whole frame, whichever sizes the squares are cut into.
func TestNeighborhoodsWhileDecoding(t *testing.T) {
	for _, whole := range unevenFrames() {
		for choice := range 8 {
			f := frameFrom(whole.W, whole.H, func(x, y int) int { return choice * 36 })
			for k, square := range placesIn(whole.W, whole.H, 8) {
				n := 4 + 4*(choice>>(k%3)&1)
				for _, inner := range placesIn(8, 8, n) {
					p := blockPlace{square.x + inner.x, square.y + inner.y, n}
					checkNb(t, f, p, impl.NbAt(whole, p.x, p.y, n))
					f, _ = impl.SetBlock(f, p.x, p.y, blockWanted(whole, p))
				}
			}
			if !equalFrames(f, whole) {
				t.Errorf("the blocks make %v, want %v", f, whole)
			}
		}
	}
}

func TestSameFrame(t *testing.T) {
	all := unevenFrames()
	for i, f := range all {
		for k, g := range all {
			checkSame(t, f, copied(g), i == k)
		}
		checkSame(t, f, inMoreMemory(f), true)
		for k, sample := range f.Pix {
			g := copied(f)
			for _, v := range []int{sample + 1, sample - 1, sample + 256, sample + 1<<32, mostSample - sample, -sample - 1} {
				g.Pix[k] = v
				checkSame(t, f, g, false)
			}
		}
	}
}

// The same samples make different frames with other sides, and more samples too, as far as both have any.
func TestOtherSidesAndCounts(t *testing.T) {
	f := unevenFrame(16, 16, 0)
	for _, sides := range [][2]int{{8, 32}, {32, 8}, {16, 8}, {8, 16}, {16, 24}, {24, 16}, {-16, 16}, {16, -16}, {1<<32 + 16, 16}, {16, 1<<32 + 16}, {0, 0}} {
		checkSame(t, f, impl.Frame{W: sides[0], H: sides[1], Pix: f.Pix}, false)
	}
	for count := range f.Pix {
		checkSame(t, f, impl.Frame{W: 16, H: 16, Pix: f.Pix[:count]}, false)
	}
	checkSame(t, f, impl.Frame{W: 16, H: 16}, false)
}

// SameFrame asks for no validity.
func TestSameFrameOfNoFrames(t *testing.T) {
	all := notFrames()
	for _, f := range all {
		checkSame(t, f, copied(f), true)
		wider, higher, longer := f, f, f
		wider.W++
		higher.H++
		longer.Pix = append(slices.Clone(f.Pix), 0)
		for _, g := range []impl.Frame{wider, higher, longer} {
			checkSame(t, f, g, false)
		}
	}
	checkSame(t, impl.Frame{}, impl.Frame{Pix: []int{}}, true)
	checkSame(t, impl.Frame{W: 8, H: 8}, impl.Frame{W: 8, H: 8, Pix: []int{}}, true)
}
