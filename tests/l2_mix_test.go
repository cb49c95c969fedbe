package tests

import (
	"bytes"
	"math/rand/v2"
	"slices"
	"strings"
	"testing"

	"loop.example/bargeman/impl"
)

const alphabet = "abcdefghijklmnopqrstuvwx"

// sampleTexts has texts of each length, with all kinds of bytes.
func sampleTexts() []string {
	r := rand.New(rand.NewPCG(1, 2))
	texts := []string{"hello world", "ab\x00", "\x00ab", "abcd\x00", "\xff", "\x80\x00\x7f\xfe\x00", "\u00e4\u4e16\U0001f600"}
	for size := 1; size <= impl.MixMaxText; size++ {
		mixture := make([]byte, size)
		for i := range mixture {
			mixture[i] = byte(r.IntN(256))
		}
		texts = append(texts, alphabet[:size], strings.Repeat("\x00", size), strings.Repeat("\xff", size), string(mixture))
	}
	return texts
}

func blocksOf(text string) int {
	return (len(text) + impl.MixBlock - 1) / impl.MixBlock
}

func sourceBlock(text string, block int) string {
	padded := text + strings.Repeat("\x00", impl.MixBlock)
	return padded[block*impl.MixBlock : (block+1)*impl.MixBlock]
}

func xorOf(a string, b string) string {
	out := []byte(a)
	for i := range out {
		out[i] ^= b[i]
	}
	return string(out)
}

func encode(text string, nums ...int) []impl.Mixed {
	var list []impl.Mixed
	for _, num := range nums {
		list = append(list, impl.Mixed{Num: num, Data: impl.MixMake(text, num)})
	}
	return list
}

// firstNums is the numbers of the encoded blocks that are source blocks, without some of them.
func firstNums(blocks int, without ...int) []int {
	var nums []int
	for num := range blocks {
		if !slices.Contains(without, num) {
			nums = append(nums, num)
		}
	}
	return nums
}

func someNums(r *rand.Rand, count int) []int {
	var nums []int
	for range count {
		nums = append(nums, r.IntN(impl.MixMaxNum+1))
	}
	return nums
}

func countKnown(peeled []string) int {
	known := 0
	for _, block := range peeled {
		if block != "" {
			known++
		}
	}
	return known
}

func TestMixCutValues(t *testing.T) {
	for _, c := range []struct {
		text string
		want []string
	}{
		{"a", []string{"a\x00\x00\x00"}},
		{"\x00", []string{"\x00\x00\x00\x00"}},
		{"abc", []string{"abc\x00"}},
		{"abcd", []string{"abcd"}},
		{"abcde", []string{"abcd", "e\x00\x00\x00"}},
		{"hello world", []string{"hell", "o wo", "rld\x00"}},
		{"\x00\xff\x80\x00\x00\x01\xfe\x7f\xc8", []string{"\x00\xff\x80\x00", "\x00\x01\xfe\x7f", "\xc8\x00\x00\x00"}},
		{alphabet[:23], []string{"abcd", "efgh", "ijkl", "mnop", "qrst", "uvw\x00"}},
		{alphabet, []string{"abcd", "efgh", "ijkl", "mnop", "qrst", "uvwx"}},
	} {
		if got := impl.MixCut(c.text); !slices.Equal(got, c.want) {
			t.Errorf("MixCut(%q) is %q, want %q", c.text, got, c.want)
		}
	}
}

// P5
func TestCutBlocksRestoreTheText(t *testing.T) {
	for _, text := range sampleTexts() {
		blocks := impl.MixCut(text)
		if len(blocks) != blocksOf(text) {
			t.Fatalf("MixCut(%q) is %q, want %d blocks", text, blocks, blocksOf(text))
		}
		for _, block := range blocks {
			if len(block) != impl.MixBlock {
				t.Errorf("MixCut(%q) has the block %q", text, block)
			}
		}
		all := strings.Join(blocks, "")
		if !strings.HasPrefix(all, text) || strings.Trim(all[len(text):], "\x00") != "" {
			t.Errorf("the blocks of %q are %q together", text, all)
		}
	}
}

// invalidTexts has the lengths next to the limit, and lengths that a number of one byte would take for others.
func invalidTexts() []string {
	texts := []string{""}
	for _, size := range []int{25, 26, 27, 28, 29, 48, 255, 256, 257, 280, 65536, 65540} {
		texts = append(texts, strings.Repeat("a", size), strings.Repeat("\x00", size))
	}
	return texts
}

func TestInvalidTextsHaveNoBlocks(t *testing.T) {
	for _, text := range invalidTexts() {
		if got := impl.MixCut(text); len(got) != 0 {
			t.Errorf("MixCut of %d bytes is %q, want none", len(text), got)
		}
		for _, num := range append([]int{0, 1, 6, 999, 1000}, outOfRange...) {
			if got := impl.MixMake(text, num); got != "" {
				t.Errorf("MixMake of %d bytes and %d is %q, want none", len(text), num, got)
			}
		}
	}
}

func TestMixMakeOfNumbersOutOfRange(t *testing.T) {
	for _, text := range sampleTexts() {
		for _, num := range append([]int{impl.MixMaxNum + 1}, outOfRange...) {
			if got := impl.MixMake(text, num); got != "" {
				t.Errorf("MixMake(%q, %d) is %q, want none", text, num, got)
			}
		}
	}
}

// The values were worked out apart from the program; the comment of a line tells which blocks are combined there.
func TestMixMakeValues(t *testing.T) {
	for _, c := range []struct {
		text string
		num  int
		want string
	}{
		{"a", 0, "a\x00\x00\x00"},                                       // 0
		{"a", 1, "a\x00\x00\x00"},                                       // 0
		{"a", 999, "a\x00\x00\x00"},                                     // 0
		{"abcd", 0, "abcd"},                                             // 0
		{"abcd", 1, "abcd"},                                             // 0
		{"abcd", 999, "abcd"},                                           // 0
		{"abcde", 0, "abcd"},                                            // 0
		{"abcde", 1, "e\x00\x00\x00"},                                   // 1
		{"abcde", 2, "\x04bcd"},                                         // 0 1
		{"abcde", 3, "abcd"},                                            // 0
		{"abcde", 998, "\x04bcd"},                                       // 0 1
		{"abcde", 999, "abcd"},                                          // 0
		{"hello world", 2, "rld\x00"},                                   // 2
		{"hello world", 3, "hell"},                                      // 0
		{"hello world", 4, "rld\x00"},                                   // 2
		{"hello world", 5, "\x1a\x09\x08l"},                             // 0 2
		{"hello world", 7, "\x1dL\x13o"},                                // 1 2
		{"hello world", 8, "\x07E\x1b\x03"},                             // 0 1
		{"hello world", 13, "u)\x7f\x03"},                               // 0 1 2
		{"hello world", 999, "\x07E\x1b\x03"},                           // 0 1
		{alphabet, 5, "uvwx"},                                           // 5
		{alphabet, 6, "\x04\x04\x04\x0c"},                               // 4 5
		{alphabet, 7, "\x14\x14\x14\x0c"},                               // 0 2 3 4
		{alphabet, 8, "\x08\x08\x08\x18"},                               // 1 3
		{alphabet, 10, "yz{l"},                                          // 0 3 5
		{alphabet, 160, "\x04\x04\x04\x1c"},                             // all
		{alphabet, 998, "\x1c\x1c\x1c\x14"},                             // 2 5
		{alphabet, 999, "qrst"},                                         // 4
		{"\x00\xff\x80\x00\xc8", 1, "\xc8\x00\x00\x00"},                 // 1
		{"\x00\xff\x80\x00\xc8", 2, "\xc8\xff\x80\x00"},                 // 0 1
		{"\x00\xff\x80\x00\x00\x01\xfe\x7f\xc8", 8, "\x00\xfe~\x7f"},    // 0 1
		{"\x00\xff\x80\x00\x00\x01\xfe\x7f\xc8", 13, "\xc8\xfe~\x7f"},   // 0 1 2
		{"\x00\xff\x80\x00\x00\x01\xfe\x7f\xc8", 7, "\xc8\x01\xfe\x7f"}, // 1 2
	} {
		if got := impl.MixMake(c.text, c.num); got != c.want {
			t.Errorf("MixMake(%q, %d) is %q, want %q", c.text, c.num, got, c.want)
		}
	}
}

// P6
func TestEncodedBlockIsTheExclusiveOrOfItsSourceBlocks(t *testing.T) {
	for _, text := range sampleTexts() {
		for num := 0; num <= impl.MixMaxNum; num++ {
			want := "\x00\x00\x00\x00"
			for _, block := range impl.MixOf(blocksOf(text), num) {
				want = xorOf(want, sourceBlock(text, block))
			}
			if got := impl.MixMake(text, num); got != want {
				t.Fatalf("MixMake(%q, %d) is %q, want %q", text, num, got, want)
			}
		}
	}
}

// P7
func TestEncodedBlockCancelsItself(t *testing.T) {
	const zero = "\x00\x00\x00\x00"
	for _, text := range sampleTexts() {
		blocks := impl.MixCut(text)
		for num := 0; num <= impl.MixMaxNum; num++ {
			data := impl.MixMake(text, num)
			if len(data) != impl.MixBlock {
				t.Fatalf("MixMake(%q, %d) is %q", text, num, data)
			}
			if rest := xorOf(data, impl.MixMake(text, num)); rest != zero {
				t.Fatalf("MixMake(%q, %d) with itself leaves %q", text, num, rest)
			}
			rest := data
			for _, block := range impl.MixOf(len(blocks), num) {
				rest = xorOf(rest, blocks[block])
			}
			if rest != zero {
				t.Fatalf("MixMake(%q, %d) with its source blocks leaves %q", text, num, rest)
			}
		}
	}
}

// P8
func TestChangedByteChangesTheBlocksThatCombineIt(t *testing.T) {
	for _, text := range []string{"a", "\x00\x00\x00", "abcd", "abcde", "hello world", "\xff\x80\x00\x7f\xff\x80\x00\x7f", alphabet[:17], alphabet} {
		for at := range len(text) {
			for _, flip := range []byte{1, 128, 255} {
				changed := []byte(text)
				changed[at] ^= flip
				for num := 0; num <= impl.MixMaxNum; num++ {
					want := impl.MixMake(text, num)
					if slices.Contains(impl.MixOf(blocksOf(text), num), at/impl.MixBlock) {
						delta := make([]byte, impl.MixBlock)
						delta[at%impl.MixBlock] = flip
						want = xorOf(want, string(delta))
					}
					if got := impl.MixMake(string(changed), num); got != want {
						t.Fatalf("MixMake(%q, %d) is %q, want %q", changed, num, got, want)
					}
				}
			}
		}
	}
}

// wrongBlock is a block that is known and is not that of the text, or -1.
func wrongBlock(text string, peeled []string) int {
	if len(peeled) != blocksOf(text) {
		return 0
	}
	for block, data := range peeled {
		if data != "" && data != sourceBlock(text, block) {
			return block
		}
	}
	return -1
}

// P9
func TestPeeledBlocksAreThoseOfTheText(t *testing.T) {
	r := rand.New(rand.NewPCG(3, 4))
	some := 0
	for _, text := range sampleTexts() {
		for range 60 {
			list := encode(text, someNums(r, r.IntN(10))...)
			peeled := impl.MixPeel(blocksOf(text), list)
			if block := wrongBlock(text, peeled); block >= 0 {
				t.Fatalf("MixPeel of %q by %#v is %q, wrong in block %d", text, list, peeled, block)
			}
			if known := countKnown(peeled); known > 0 && known < len(peeled) {
				some++
			}
		}
	}
	if some == 0 {
		t.Error("some but not all blocks must be known in some case")
	}
}

// What is known is as much as peeling can tell: that is compared with passes over the list, done by hand.
func TestPeelingOfEachSubset(t *testing.T) {
	for _, text := range []string{"abcd", "abcdefg", "hello world", alphabet[:16], alphabet[:17], alphabet} {
		nums := firstNums(blocksOf(text) + 5)
		for subset := range 1 << len(nums) {
			var chosen []int
			for i, num := range nums {
				if subset>>i&1 == 1 {
					chosen = append(chosen, num)
				}
			}
			list := encode(text, chosen...)
			got := impl.MixPeel(blocksOf(text), list)
			if want := peelByHand(blocksOf(text), list); !slices.Equal(got, want) || wrongBlock(text, got) >= 0 {
				t.Fatalf("MixPeel of %q by %v is %q, want %q", text, chosen, got, want)
			}
		}
	}
}

// P10
func TestPeelingDoesNotHangOnOrderOrRepetition(t *testing.T) {
	r := rand.New(rand.NewPCG(5, 6))
	for _, text := range sampleTexts() {
		for range 20 {
			list := encode(text, someNums(r, 1+r.IntN(9))...)
			want := impl.MixPeel(blocksOf(text), list)
			again := slices.Clone(list)
			for range r.IntN(12) {
				again = append(again, list[r.IntN(len(list))])
			}
			r.Shuffle(len(again), func(i, j int) { again[i], again[j] = again[j], again[i] })
			if got := impl.MixPeel(blocksOf(text), again); !slices.Equal(got, want) {
				t.Fatalf("MixPeel of %q is %q by %#v, and %q by %#v", text, want, list, got, again)
			}
			slices.Reverse(again)
			if got := impl.MixPeel(blocksOf(text), again); !slices.Equal(got, want) {
				t.Fatalf("MixPeel of %q is %q by %#v, and %q by %#v", text, want, list, got, again)
			}
		}
	}
}

func permutations[E any](list []E) [][]E {
	if len(list) == 0 {
		return [][]E{nil}
	}
	var all [][]E
	for i := range list {
		for _, rest := range permutations(slices.Delete(slices.Clone(list), i, i+1)) {
			all = append(all, append(rest, list[i]))
		}
	}
	return all
}

// P10, for a chain in which each block needs the one before it.
func TestPeelingInEachOrder(t *testing.T) {
	for _, list := range permutations(encode(alphabet, chain...)) {
		if got, ok := impl.MixText(len(alphabet), list); !ok || got != alphabet {
			t.Fatalf("MixText by %#v is %q, %v", list, got, ok)
		}
	}
}

// P11
func TestMoreEncodedBlocksTellNoLess(t *testing.T) {
	r := rand.New(rand.NewPCG(7, 8))
	for _, text := range sampleTexts() {
		for range 10 {
			list := encode(text, someNums(r, 14)...)
			before := make([]string, blocksOf(text))
			for n := range len(list) + 1 {
				now := impl.MixPeel(blocksOf(text), list[:n])
				for block := range before {
					if before[block] != "" && now[block] != before[block] {
						t.Fatalf("MixPeel of %q is %q with one less, and %q by %#v", text, before, now, list[:n])
					}
				}
				before = now
			}
		}
	}
}

// P12
func TestFirstEncodedBlocksSufficeAndAllAreNeeded(t *testing.T) {
	for _, text := range sampleTexts() {
		blocks := blocksOf(text)
		all := encode(text, firstNums(blocks)...)
		if got, ok := impl.MixText(len(text), all); !ok || got != text {
			t.Errorf("MixText of the first blocks of %q is %q, %v", text, got, ok)
		}
		for missing := range blocks {
			list := encode(text, firstNums(blocks, missing)...)
			if got, ok := impl.MixText(len(text), list); ok || got != "" {
				t.Errorf("MixText of %q without block %d is %q, %v", text, missing, got, ok)
			}
			for block, data := range impl.MixPeel(blocks, list) {
				if (data == "") != (block == missing) {
					t.Errorf("without block %d of %q, block %d is %q", missing, text, block, data)
				}
			}
		}
	}
}

// P13
func TestTextIsDecodedFromItsEncodedBlocks(t *testing.T) {
	r := rand.New(rand.NewPCG(9, 10))
	decoded, not := 0, 0
	for _, text := range sampleTexts() {
		for range 40 {
			list := encode(text, someNums(r, 1+r.IntN(16))...)
			got, ok := impl.MixText(len(text), list)
			if enough := countKnown(impl.MixPeel(blocksOf(text), list)) == blocksOf(text); ok != enough {
				t.Fatalf("MixText of %q by %#v is %v", text, list, ok)
			}
			if ok && got != text || !ok && got != "" {
				t.Fatalf("MixText of %q by %#v is %q, %v", text, list, got, ok)
			}
			if ok {
				decoded++
			} else {
				not++
			}
		}
	}
	if decoded == 0 || not == 0 {
		t.Errorf("%d texts are decoded and %d are not: both must be tested", decoded, not)
	}
}

// P14
func TestSingleMissingBlockIsDecoded(t *testing.T) {
	for _, text := range []string{"a", "abcd", "abcde", "\x00\xff\x80\x00\x00\x01\xfe", "hello world", alphabet[:13], alphabet[:20], alphabet} {
		blocks := blocksOf(text)
		for missing := range blocks {
			others := encode(text, firstNums(blocks, missing)...)
			for num := 0; num <= impl.MixMaxNum; num++ {
				has := slices.Contains(impl.MixOf(blocks, num), missing)
				more := encode(text, num)
				for _, list := range [][]impl.Mixed{slices.Concat(others, more), slices.Concat(more, others)} {
					got, ok := impl.MixText(len(text), list)
					if ok != has || ok && got != text {
						t.Fatalf("without block %d and with %d, %q is %q, %v", missing, num, text, got, ok)
					}
				}
			}
		}
	}
}

// peelByHand does what the document says: passes over the whole list, until one determines nothing.
func peelByHand(blocks int, list []impl.Mixed) []string {
	known := make([]string, blocks)
	for more := true; more; {
		more = false
		for _, m := range list {
			if m.Num < 0 || m.Num > impl.MixMaxNum || len(m.Data) != impl.MixBlock {
				continue
			}
			unknown := -1
			count := 0
			data := m.Data
			for _, block := range impl.MixOf(blocks, m.Num) {
				if known[block] == "" {
					unknown = block
					count++
				} else {
					data = xorOf(data, known[block])
				}
			}
			if count == 1 {
				known[unknown] = data
				more = true
			}
		}
	}
	return known
}

// chain is encoded blocks of six source blocks: 4 5, 3 4, 2 3, 1 2, 0 1, and 0.
var chain = []int{6, 17, 49, 23, 25, 0}

func repeated(value int) string {
	if value < 0 {
		return ""
	}
	return string(bytes.Repeat([]byte{byte(value)}, impl.MixBlock))
}

// Each encoded block is a number and the byte that its data repeats; -1 is a block that stays unknown.
// Of three source blocks, 0 and 3 combine 0; 1 and 23 combine 1; 2 and 4 combine 2; 8 combines 0 1; 5, 0 2; 7, 1 2; 13, all.
var contradictions = []struct {
	name   string
	blocks int
	list   [][2]int
	want   []int
}{
	{"same number, first", 3, [][2]int{{1, 5}, {1, 9}}, []int{-1, 5, -1}},
	{"same number, turned round", 3, [][2]int{{1, 9}, {1, 5}}, []int{-1, 9, -1}},
	{"same number, zero first", 3, [][2]int{{1, 0}, {1, 5}}, []int{-1, 0, -1}},
	{"same number in the second pass", 3, [][2]int{{8, 7}, {8, 1}, {0, 2}}, []int{2, 5, -1}},
	{"other numbers of one block", 3, [][2]int{{3, 5}, {0, 9}}, []int{5, -1, -1}},
	{"other numbers of one block, turned round", 3, [][2]int{{0, 9}, {3, 5}}, []int{9, -1, -1}},
	{"a block gets ready ahead of one that was ready", 3, [][2]int{{0, 1}, {8, 2}, {1, 4}}, []int{1, 3, -1}},
	{"a block gets ready behind its turn", 3, [][2]int{{8, 2}, {0, 1}, {1, 4}}, []int{1, 4, -1}},
	{"the rest of a pass is first", 3, [][2]int{{7, 16}, {8, 2}, {0, 1}, {5, 4}}, []int{1, 21, 5}},
	{"a circle of pairs", 3, [][2]int{{5, 4}, {8, 2}, {7, 16}, {2, 8}}, []int{12, 14, 8}},
	{"a circle of pairs, turned round", 3, [][2]int{{7, 16}, {8, 2}, {5, 4}, {2, 8}}, []int{26, 24, 8}},
	{"all in one pass", 3, [][2]int{{0, 4}, {8, 2}, {13, 1}, {2, 16}}, []int{4, 6, 3}},
	{"all three, too late", 3, [][2]int{{13, 1}, {8, 2}, {0, 4}, {1, 8}, {2, 16}}, []int{4, 8, 16}},
	{"all three, twice", 3, [][2]int{{13, 1}, {13, 2}, {0, 4}, {1, 8}}, []int{4, 8, 13}},
	{"six passes", 6, [][2]int{{6, 1}, {17, 2}, {49, 4}, {23, 8}, {25, 16}, {0, 32}, {25, 7}}, []int{32, 39, 47, 43, 41, 40}},
	{"six passes, other data first", 6, [][2]int{{6, 1}, {6, 9}, {17, 2}, {17, 3}, {49, 4}, {23, 8}, {25, 16}, {0, 32}}, []int{32, 48, 56, 60, 62, 63}},
}

func contradictionList(pairs [][2]int) []impl.Mixed {
	var list []impl.Mixed
	for _, p := range pairs {
		list = append(list, impl.Mixed{Num: p[0], Data: repeated(p[1])})
	}
	return list
}

func TestContradictionsAreDecidedByThePasses(t *testing.T) {
	for _, c := range contradictions {
		var want []string
		for _, value := range c.want {
			want = append(want, repeated(value))
		}
		list := contradictionList(c.list)
		if got := impl.MixPeel(c.blocks, list); !slices.Equal(got, want) {
			t.Errorf("%s: MixPeel is %q, want %q", c.name, got, want)
		}
		text, ok := impl.MixText(c.blocks*impl.MixBlock, list)
		if wantOk := !slices.Contains(want, ""); ok != wantOk || ok && text != strings.Join(want, "") || !ok && text != "" {
			t.Errorf("%s: MixText is %q, %v", c.name, text, ok)
		}
	}
}

// anyList has encoded blocks of no text, some of which are to be ignored.
func anyList(r *rand.Rand) []impl.Mixed {
	lengths := []int{4, 4, 4, 4, 4, 4, 4, 4, 4, 0, 3, 5, 8}
	var list []impl.Mixed
	for range r.IntN(14) {
		data := make([]byte, lengths[r.IntN(len(lengths))])
		for i := range data {
			data[i] = byte(r.IntN(256))
		}
		num := r.IntN(40)
		switch r.IntN(10) {
		case 0:
			num = r.IntN(impl.MixMaxNum + 1)
		case 1:
			num = outOfRange[r.IntN(len(outOfRange))]
		}
		list = append(list, impl.Mixed{Num: num, Data: string(data)})
	}
	return list
}

func TestPeelingOfAnyList(t *testing.T) {
	r := rand.New(rand.NewPCG(11, 12))
	for range 40000 {
		blocks := 1 + r.IntN(impl.MixBlocks)
		list := anyList(r)
		if got, want := impl.MixPeel(blocks, list), peelByHand(blocks, list); !slices.Equal(got, want) {
			t.Fatalf("MixPeel(%d, %#v) is %q, want %q", blocks, list, got, want)
		}
	}
}

func TestPeelingInSeveralPasses(t *testing.T) {
	list := encode(alphabet, chain...)
	for n := range len(chain) {
		if known := countKnown(impl.MixPeel(6, list[:n])); known != 0 {
			t.Errorf("%d blocks are known without a start", known)
		}
		if known := countKnown(impl.MixPeel(6, list[n:])); known != len(chain)-n {
			t.Errorf("%d blocks are known by the last %d", known, len(chain)-n)
		}
	}
}

func TestPeelingIgnoresWhatIsInvalid(t *testing.T) {
	bad := []impl.Mixed{{Num: 0}, {Num: 0, Data: "x"}, {Num: 0, Data: "xyz"}, {Num: 0, Data: "vwxyz"}, {Num: 0, Data: "stuvwxyz"}, {Num: 0, Data: strings.Repeat("x", 260)}, {Num: impl.MixMaxNum + 1, Data: "abcd"}}
	for _, num := range outOfRange {
		bad = append(bad, impl.Mixed{Num: num, Data: "abcd"}, impl.Mixed{Num: num})
	}
	for blocks := 1; blocks <= impl.MixBlocks; blocks++ {
		if got := impl.MixPeel(blocks, bad); !slices.Equal(got, make([]string, blocks)) {
			t.Errorf("MixPeel(%d, %#v) is %q", blocks, bad, got)
		}
		text := alphabet[:blocks*impl.MixBlock]
		list := slices.Concat(bad, encode(text, firstNums(blocks)...), bad)
		if got := impl.MixPeel(blocks, list); !slices.Equal(got, impl.MixCut(text)) {
			t.Errorf("MixPeel(%d) among what is invalid is %q", blocks, got)
		}
		if got, ok := impl.MixText(len(text), list); !ok || got != text {
			t.Errorf("MixText(%d) among what is invalid is %q, %v", len(text), got, ok)
		}
		if got, ok := impl.MixText(len(text), bad); ok || got != "" {
			t.Errorf("MixText(%d) of what is invalid is %q, %v", len(text), got, ok)
		}
	}
}

func TestPeelingOfAnEmptyList(t *testing.T) {
	for blocks := 1; blocks <= impl.MixBlocks; blocks++ {
		for _, list := range [][]impl.Mixed{nil, {}} {
			if got := impl.MixPeel(blocks, list); !slices.Equal(got, make([]string, blocks)) {
				t.Errorf("MixPeel(%d) of an empty list is %q", blocks, got)
			}
			if got, ok := impl.MixText(blocks*impl.MixBlock, list); ok || got != "" {
				t.Errorf("MixText(%d) of an empty list is %q, %v", blocks*impl.MixBlock, got, ok)
			}
		}
	}
}

func TestBlocksAndSizeOutOfRange(t *testing.T) {
	list := encode(alphabet, firstNums(6)...)
	for _, blocks := range append([]int{0, impl.MixBlocks + 1, 8, 256, 257}, outOfRange...) {
		if got := impl.MixPeel(blocks, list); len(got) != 0 {
			t.Errorf("MixPeel(%d) is %q, want none", blocks, got)
		}
		if got := impl.MixPeel(blocks, nil); len(got) != 0 {
			t.Errorf("MixPeel(%d) is %q, want none", blocks, got)
		}
	}
	zeros := encode(strings.Repeat("\x00", 24), firstNums(6)...)
	for _, size := range append([]int{0, -3, -4, impl.MixMaxText + 1, 28, 29, 257, 280}, outOfRange...) {
		for _, l := range [][]impl.Mixed{list, zeros, nil} {
			if got, ok := impl.MixText(size, l); ok || got != "" {
				t.Errorf("MixText(%d) is %q, %v, want none", size, got, ok)
			}
		}
	}
}

func TestMixTextSizes(t *testing.T) {
	for _, c := range []struct {
		size   int
		blocks []string
		want   string
		ok     bool
	}{
		{4, []string{"abcd"}, "abcd", true},
		{3, []string{"abcd"}, "", false},
		{3, []string{"abc\x00"}, "abc", true},
		{4, []string{"abc\x00"}, "abc\x00", true},
		{2, []string{"abc\x00"}, "", false},
		{2, []string{"ab\x00d"}, "", false},
		{2, []string{"ab\x00\x00"}, "ab", true},
		{2, []string{"ab\x00\x80"}, "", false},
		{1, []string{"\x00\x00\x00\x00"}, "\x00", true},
		{1, []string{"\xff\x00\x00\x00"}, "\xff", true},
		{1, []string{"ab\x00\x00"}, "", false},
		{5, []string{"abcd"}, "", false},
		{5, []string{"abcd", "e\x00\x00\x00"}, "abcde", true},
		{5, []string{"abcd", "e\x00\x00\x01"}, "", false},
		{5, []string{"abcd", "e\x01\x00\x00"}, "", false},
		{8, []string{"abcd", "efg\x00"}, "abcdefg\x00", true},
		{7, []string{"\x00\x00\x00\x00", "\x00\x00\x00\x00"}, "\x00\x00\x00\x00\x00\x00\x00", true},
		{9, []string{"abcd", "efgh"}, "", false},
		{9, []string{"ab\x00\x00", "\x00\x00\x00\x00", "\xc8\x00\x00\x00"}, "ab\x00\x00\x00\x00\x00\x00\xc8", true},
		{10, []string{"hell", "o wo", "rld\x00"}, "", false},
		{11, []string{"hell", "o wo", "rld\x00"}, "hello world", true},
		{12, []string{"hell", "o wo", "rld\x00"}, "hello world\x00", true},
		{13, []string{"hell", "o wo", "rld\x00"}, "", false},
	} {
		var list []impl.Mixed
		for num, data := range c.blocks {
			list = append(list, impl.Mixed{Num: num, Data: data})
		}
		if got, ok := impl.MixText(c.size, list); got != c.want || ok != c.ok {
			t.Errorf("MixText(%d, %q) is %q, %v, want %q, %v", c.size, c.blocks, got, ok, c.want, c.ok)
		}
	}
}

func TestBytesAfterTheSizeMustBeZero(t *testing.T) {
	for size := 1; size <= impl.MixMaxText; size++ {
		blocks := blocksOf(alphabet[:size])
		for at := size; at < blocks*impl.MixBlock; at++ {
			for _, value := range []byte{1, 127, 128, 255} {
				padded := make([]byte, blocks*impl.MixBlock)
				copy(padded, alphabet[:size])
				list := encode(string(padded), firstNums(blocks)...)
				if got, ok := impl.MixText(size, list); !ok || got != alphabet[:size] {
					t.Errorf("MixText(%d) with zeros after it is %q, %v", size, got, ok)
				}
				padded[at] = value
				list = encode(string(padded), firstNums(blocks)...)
				if got, ok := impl.MixText(size, list); ok || got != "" {
					t.Errorf("MixText(%d) with %d at %d is %q, %v", size, value, at, got, ok)
				}
			}
		}
	}
}

func TestMixAnswersNewMemory(t *testing.T) {
	list := encode(alphabet, 160, 6, 7, 8, 0, 1, 2, 3, 4)
	given := slices.Clone(list)
	cut := impl.MixCut(alphabet)
	peeled := impl.MixPeel(6, list)
	if !slices.Equal(cut, peeled) {
		t.Fatalf("%q is not %q", peeled, cut)
	}
	want := slices.Clone(cut)
	for _, answer := range [][]string{impl.MixCut(alphabet), impl.MixPeel(6, list)} {
		for i := range answer[:cap(answer)] {
			answer[:cap(answer)][i] = "spoilt"
		}
	}
	if !slices.Equal(cut, want) || !slices.Equal(peeled, want) || !slices.Equal(impl.MixPeel(6, list), want) {
		t.Error("an answer hangs on another one")
	}
	impl.MixText(24, list)
	if !slices.Equal(list, given) {
		t.Errorf("the list became %#v", list)
	}
}
