package tests

import (
	"math"
	"slices"
	"testing"

	"loop.example/bargeman/impl"
)

// outOfRange is numbers that neither x nor blocks nor num may be; the great ones would overflow if they were multiplied.
var outOfRange = []int{-1, -2, -1000, -65536, 65536, 65537, 1 << 20, math.MinInt32, math.MaxInt32, math.MinInt, math.MinInt + 1, math.MaxInt, math.MaxInt - 1}

func TestRandNextValues(t *testing.T) {
	for _, c := range []struct{ x, want int }{
		{0, 13849}, {1, 39022}, {2, 64195}, {3, 23832}, {32767, 21444}, {32768, 46617}, {65534, 29039}, {impl.RandMax - 1, 54212},
	} {
		if got := impl.RandNext(c.x); got != c.want {
			t.Errorf("RandNext(%d) is %d, want %d", c.x, got, c.want)
		}
	}
}

// P1
func TestRandNextReachesEachNumberOnce(t *testing.T) {
	var times [impl.RandMax]int
	for x := range impl.RandMax {
		got := impl.RandNext(x)
		if got < 0 || got >= impl.RandMax {
			t.Fatalf("RandNext(%d) is %d, out of range", x, got)
		}
		times[got]++
	}
	for y, n := range times {
		if n != 1 {
			t.Errorf("%d is RandNext of %d numbers, want 1", y, n)
		}
	}
}

func TestRandNextOutOfRange(t *testing.T) {
	for _, x := range outOfRange {
		if got := impl.RandNext(x); got != 0 {
			t.Errorf("RandNext(%d) is %d, want 0", x, got)
		}
	}
}

// The values were worked out apart from the program.
func TestMixDegreeValues(t *testing.T) {
	for _, c := range []struct{ blocks, num, want int }{
		{1, 0, 1}, {1, 1, 1}, {1, 2, 1}, {1, 999, 1},
		{2, 1, 1}, {2, 2, 2}, {2, 3, 1}, {2, 998, 2}, {2, 999, 1},
		{3, 2, 1}, {3, 3, 1}, {3, 4, 1}, {3, 21, 3}, {3, 999, 2},
		{4, 3, 1}, {4, 4, 1}, {4, 5, 2}, {4, 386, 4}, {4, 999, 1},
		{5, 4, 1}, {5, 5, 2}, {5, 6, 1}, {5, 123, 5}, {5, 999, 1},
		{6, 5, 1}, {6, 6, 2}, {6, 7, 4}, {6, 160, 6}, {6, 998, 2}, {6, 999, 1},
	} {
		if got := impl.MixDegree(c.blocks, c.num); got != c.want {
			t.Errorf("MixDegree(%d, %d) is %d, want %d", c.blocks, c.num, got, c.want)
		}
	}
}

// How often each degree comes among the encoded blocks from the number of source blocks to MixMaxNum, worked out apart from the program.
func TestMixDegreeSpread(t *testing.T) {
	want := [impl.MixBlocks + 1][]int{
		1: {999},
		2: {573, 425},
		3: {429, 422, 146},
		4: {358, 427, 141, 70},
		5: {321, 422, 141, 70, 41},
		6: {283, 426, 145, 67, 46, 27},
	}
	for blocks := 1; blocks <= impl.MixBlocks; blocks++ {
		got := make([]int, blocks)
		for num := blocks; num <= impl.MixMaxNum; num++ {
			if d := impl.MixDegree(blocks, num); d >= 1 && d <= blocks {
				got[d-1]++
			}
		}
		if !slices.Equal(got, want[blocks]) {
			t.Errorf("degrees of %d blocks come %v times, want %v", blocks, got, want[blocks])
		}
	}
}

// P2
func TestMixDegreeIsInRange(t *testing.T) {
	for blocks := 1; blocks <= impl.MixBlocks; blocks++ {
		for num := 0; num <= impl.MixMaxNum; num++ {
			if d := impl.MixDegree(blocks, num); d < 1 || d > blocks {
				t.Errorf("MixDegree(%d, %d) is %d", blocks, num, d)
			}
		}
	}
}

// invalidPairs has each argument out of range, beside one that is in range and beside one that is not.
func invalidPairs() [][2]int {
	var pairs [][2]int
	for _, bad := range append([]int{0, impl.MixBlocks + 1}, outOfRange...) {
		for _, num := range []int{0, 1, 7, impl.MixMaxNum, -1, impl.MixMaxNum + 1, bad} {
			pairs = append(pairs, [2]int{bad, num})
		}
	}
	for _, bad := range append([]int{impl.MixMaxNum + 1}, outOfRange...) {
		for blocks := 1; blocks <= impl.MixBlocks; blocks++ {
			pairs = append(pairs, [2]int{blocks, bad})
		}
	}
	return pairs
}

func TestMixOutOfRange(t *testing.T) {
	for _, p := range invalidPairs() {
		if d := impl.MixDegree(p[0], p[1]); d != 0 {
			t.Errorf("MixDegree(%d, %d) is %d, want 0", p[0], p[1], d)
		}
		if of := impl.MixOf(p[0], p[1]); len(of) != 0 {
			t.Errorf("MixOf(%d, %d) is %v, want none", p[0], p[1], of)
		}
	}
}

// P3
func TestMixOfIsAscendingAndAsManyAsItsDegree(t *testing.T) {
	for blocks := 1; blocks <= impl.MixBlocks; blocks++ {
		for num := 0; num <= impl.MixMaxNum; num++ {
			of := impl.MixOf(blocks, num)
			if d := impl.MixDegree(blocks, num); len(of) != d {
				t.Errorf("MixOf(%d, %d) is %v, want %d blocks", blocks, num, of, d)
			}
			last := -1
			for _, block := range of {
				if block <= last || block >= blocks {
					t.Errorf("MixOf(%d, %d) is %v", blocks, num, of)
				}
				last = block
			}
		}
	}
}

// P4
func TestFirstEncodedBlocksAreTheSourceBlocks(t *testing.T) {
	for blocks := 1; blocks <= impl.MixBlocks; blocks++ {
		for num := range blocks {
			if of := impl.MixOf(blocks, num); !slices.Equal(of, []int{num}) {
				t.Errorf("MixOf(%d, %d) is %v, want [%d]", blocks, num, of, num)
			}
			if d := impl.MixDegree(blocks, num); d != 1 {
				t.Errorf("MixDegree(%d, %d) is %d, want 1", blocks, num, d)
			}
		}
	}
}

// The values were worked out apart from the program; the comment of a line tells which blocks are drawn there, in order.
func TestMixOfValues(t *testing.T) {
	for _, c := range []struct {
		blocks, num int
		want        []int
	}{
		{1, 1, []int{0}},
		{1, 999, []int{0}},
		{3, 3, []int{0}},
		{3, 4, []int{2}},
		{4, 5, []int{0, 2}},
		{6, 6, []int{4, 5}},
		{6, 7, []int{0, 2, 3, 4}},
		{6, 998, []int{2, 5}},
		{6, 999, []int{4}},
		{3, 9, []int{1, 2}},               // 1 1: the next one
		{4, 58, []int{0, 1, 2}},           // 0 0 0: the next but one
		{5, 238, []int{1, 2, 3, 4}},       // 2 1 2 1
		{6, 238, []int{1, 2, 3, 4, 5}},    // 1 1 2 1 1
		{2, 2, []int{0, 1}},               // 1 1: past the last one
		{3, 14, []int{0, 2}},              // 2 2: past the last one
		{4, 26, []int{0, 2, 3}},           // 2 2 2: both
		{5, 127, []int{0, 4}},             // 4 4: past the last one
		{5, 35, []int{0, 2, 3, 4}},        // 3 2 4 2
		{6, 48, []int{0, 1, 5}},           // 0 5 5: past the last one, and 0 is selected too
		{6, 58, []int{0, 1, 2, 3, 5}},     // 0 2 0 5 5
		{6, 160, []int{0, 1, 2, 3, 4, 5}}, // 3 0 2 4 2 2: all
		{6, 109, []int{0, 2, 3, 4, 5}},    // 2 4 3 3 3
		{5, 123, []int{0, 1, 2, 3, 4}},    // 0 1 4 0 4: all
		{4, 386, []int{0, 1, 2, 3}},       // 3 1 3 3: all
	} {
		if got := impl.MixOf(c.blocks, c.num); !slices.Equal(got, c.want) {
			t.Errorf("MixOf(%d, %d) is %v, want %v", c.blocks, c.num, got, c.want)
		}
	}
}

// selectByHand does what the document says, one block after the other; it also tells how many draws met a selected block, and how many of these went past the last one.
func selectByHand(blocks int, num int) (list []int, met int, past int) {
	x := impl.RandNext(7*num + 1)
	for range impl.MixDegree(blocks, num) {
		x = impl.RandNext(x)
		drawn := x / 16 % blocks
		block := drawn
		for slices.Contains(list, block) {
			block++
			if block == blocks {
				block = 0
			}
		}
		if block != drawn {
			met++
		}
		if block < drawn {
			past++
		}
		list = append(list, block)
	}
	slices.Sort(list)
	return list, met, past
}

func TestMixOfTakesTheNextBlockThatIsNotSelected(t *testing.T) {
	for blocks := 1; blocks <= impl.MixBlocks; blocks++ {
		allMet, allPast := 0, 0
		for num := blocks; num <= impl.MixMaxNum; num++ {
			want, met, past := selectByHand(blocks, num)
			allMet += met
			allPast += past
			if got := impl.MixOf(blocks, num); !slices.Equal(got, want) {
				t.Errorf("MixOf(%d, %d) is %v, want %v", blocks, num, got, want)
			}
		}
		if blocks > 1 && (allMet == allPast || allPast == 0) {
			t.Errorf("%d blocks: %d draws meet a selected block and %d go past the last one: both kinds must be tested", blocks, allMet, allPast)
		}
	}
}

func TestMixOfAnswersNewMemory(t *testing.T) {
	for _, num := range []int{0, 7, 160} {
		first := impl.MixOf(6, num)
		want := slices.Clone(first)
		second := impl.MixOf(6, num)
		for i := range first[:cap(first)] {
			first[:cap(first)][i] = -5
		}
		if !slices.Equal(second, want) || !slices.Equal(impl.MixOf(6, num), want) {
			t.Errorf("MixOf(6, %d) hangs on an earlier answer", num)
		}
	}
}
