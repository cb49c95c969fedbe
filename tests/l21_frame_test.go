package tests

import (
	"math"
	"math/rand/v2"
	"slices"
	"strings"
	"testing"

	"loop.example/bargeman/impl"
)

// frameFaults is what is wrong with a frame, each condition of the document apart from the program.
func frameFaults(f impl.Frame) []string {
	var faults []string
	add := func(wrong bool, fault string) {
		if wrong {
			faults = append(faults, fault)
		}
	}
	add(f.Kind < 1 || f.Kind > 3, "kind")
	add(f.Src < 0 || f.Src > 3, "src")
	add(f.Dst < 0 || f.Dst > 3, "dst")
	add(f.From < 0 || f.From > 3, "from")
	add(f.To < 0 || f.To > 3, "to")
	add(f.Num < 1 || f.Num > 99, "num")
	add(f.Until < 1 || f.Until > 999, "until")
	if f.Kind == 1 {
		add(f.Size < 1 || f.Size > 24, "size")
		add(f.Mix < 0 || f.Mix > 999, "mix")
		add(len(f.Data) != 4, "data")
		add(!isHop(f.Src, f.Dst, f.To), "direction")
	} else {
		add(f.Size != 0, "size")
		add(f.Mix != 0, "mix")
		add(f.Data != "", "data")
		add(!isHop(f.Dst, f.Src, f.To), "direction")
	}
	return faults
}

// isHop tells whether one node is a neighbor of another, and closer to the end of the way.
// It works in floats: there, the differences of great numbers do not overflow.
func isHop(from int, next int, to int) bool {
	a, b, end := float64(from), float64(next), float64(to)
	return math.Abs(a-b) == 1 && math.Abs(b-end) == math.Abs(a-end)-1
}

// sumByHand is FrameSum, apart from the program: the modulus is taken once, of all.
func sumByHand(b []byte) int {
	var sum int64
	for i := range b {
		sum += int64(b[i]) * int64(i%1000+1)
	}
	return int(sum % 65521)
}

// withSum appends the right sum to bytes.
func withSum(b []byte) []byte {
	sum := sumByHand(b)
	return append(slices.Clone(b), byte(sum/256), byte(sum%256))
}

// framePayload is what the encoding of a frame has ahead of its sum, apart from the program.
// Numbers that do not fit come round: so invalid frames have bytes too.
func framePayload(f impl.Frame) []byte {
	b := []byte{byte(f.Kind), byte(f.Src), byte(f.Dst), byte(f.From), byte(f.Num), byte(f.To), byte(f.Until >> 8), byte(f.Until)}
	if f.Kind == 1 {
		b = append(b, byte(f.Size), byte(f.Mix>>8), byte(f.Mix))
		b = append(b, f.Data...)
	}
	return b
}

func packByHand(f impl.Frame) []byte {
	return withSum(framePayload(f))
}

// unpackByHand is FrameUnpack, apart from the program.
func unpackByHand(b []byte) (impl.Frame, bool) {
	if len(b) != 10 && len(b) != 17 {
		return impl.Frame{}, false
	}
	if !slices.Equal(withSum(b[:len(b)-2]), b) || (b[0] == 1) != (len(b) == 17) {
		return impl.Frame{}, false
	}
	f := impl.Frame{Kind: int(b[0]), Src: int(b[1]), Dst: int(b[2]), From: int(b[3]), Num: int(b[4]), To: int(b[5]), Until: int(b[6])*256 + int(b[7])}
	if len(b) == 17 {
		f.Size, f.Mix, f.Data = int(b[8]), int(b[9])*256+int(b[10]), string(b[11:15])
	}
	if len(frameFaults(f)) > 0 {
		return impl.Frame{}, false
	}
	return f, true
}

var plainPiece = impl.Frame{Kind: 1, Src: 1, Dst: 2, From: 0, Num: 3, To: 3, Until: 300, Size: 5, Mix: 258, Data: "abcd"}

// plainHave answers the plain piece, and plainLate another one that goes the other way.
var plainHave = impl.Frame{Kind: 2, Src: 2, Dst: 1, From: 0, Num: 3, To: 3, Until: 300}
var plainLate = impl.Frame{Kind: 3, Src: 1, Dst: 2, From: 3, Num: 4, To: 0, Until: 20}

var plainFrames = []impl.Frame{plainPiece, plainHave, plainLate}

func changedFrame(f impl.Frame, change func(f *impl.Frame)) impl.Frame {
	change(&f)
	return f
}

// hop is one of the ways of a piece: from a node to a neighbor, toward the end of a message's way.
type hop struct{ from, next, to int }

// hops was written by hand, so that no calculation decides which direction is right.
var hops = []hop{
	{0, 1, 1}, {0, 1, 2}, {0, 1, 3}, {1, 2, 2}, {1, 2, 3}, {2, 3, 3},
	{3, 2, 2}, {3, 2, 1}, {3, 2, 0}, {2, 1, 1}, {2, 1, 0}, {1, 0, 0},
}

// hopFrames has a piece and each kind of answer for each hop and each source.
func hopFrames() []impl.Frame {
	var frames []impl.Frame
	for _, h := range hops {
		for from := range impl.NoteKeepers {
			frames = append(frames,
				impl.Frame{Kind: 1, Src: h.from, Dst: h.next, From: from, Num: 3, To: h.to, Until: 300, Size: 5, Mix: 258, Data: "abcd"},
				impl.Frame{Kind: 2, Src: h.next, Dst: h.from, From: from, Num: 3, To: h.to, Until: 300},
				impl.Frame{Kind: 3, Src: h.next, Dst: h.from, From: from, Num: 3, To: h.to, Until: 300})
		}
	}
	return frames
}

// edgeFrames has, for each hop frame, the first and last numbers that each field may have, and those around a byte.
func edgeFrames() []impl.Frame {
	var frames []impl.Frame
	for _, f := range hopFrames() {
		for _, num := range []int{1, 2, impl.NoteMaxNum} {
			for _, until := range []int{1, 255, 256, 257, impl.NoteMaxTime} {
				f.Num, f.Until = num, until
				if f.Kind != impl.FramePiece {
					frames = append(frames, f)
					continue
				}
				for _, size := range []int{1, impl.MixMaxText} {
					for _, mix := range []int{0, 255, 256, impl.MixMaxNum} {
						f.Size, f.Mix = size, mix
						frames = append(frames, f)
					}
				}
			}
		}
	}
	return frames
}

// fieldFrames has each number that each field may have, and each byte of Data.
func fieldFrames() []impl.Frame {
	var frames []impl.Frame
	for _, f := range plainFrames {
		for num := 1; num <= impl.NoteMaxNum; num++ {
			frames = append(frames, changedFrame(f, func(f *impl.Frame) { f.Num = num }))
		}
		for until := 1; until <= impl.NoteMaxTime; until++ {
			frames = append(frames, changedFrame(f, func(f *impl.Frame) { f.Until = until }))
		}
	}
	for size := 1; size <= impl.MixMaxText; size++ {
		frames = append(frames, changedFrame(plainPiece, func(f *impl.Frame) { f.Size = size }))
	}
	for mix := range impl.MixMaxNum + 1 {
		frames = append(frames, changedFrame(plainPiece, func(f *impl.Frame) { f.Mix = mix }))
	}
	for b := range 256 {
		one := string([]byte{byte(b)})
		for _, data := range []string{one + "bcd", "a" + one + "cd", "ab" + one + "d", "abc" + one, strings.Repeat(one, 4), one + "\x00\xff" + one} {
			frames = append(frames, changedFrame(plainPiece, func(f *impl.Frame) { f.Data = data }))
		}
	}
	return frames
}

// sampleFrames has no frame twice.
func sampleFrames() []impl.Frame {
	var frames []impl.Frame
	seen := map[impl.Frame]int{}
	for _, f := range slices.Concat(plainFrames, hopFrames(), edgeFrames(), fieldFrames()) {
		seen[f]++
		if seen[f] == 1 {
			frames = append(frames, f)
		}
	}
	return frames
}

// anyFrame has any valid fields.
func anyFrame(r *rand.Rand) impl.Frame {
	h := hops[r.IntN(len(hops))]
	f := impl.Frame{Kind: 1 + r.IntN(3), Src: h.next, Dst: h.from, From: r.IntN(4), Num: 1 + r.IntN(99), To: h.to, Until: 1 + r.IntN(999)}
	if f.Kind == impl.FramePiece {
		f.Src, f.Dst = h.from, h.next
		f.Size, f.Mix = 1+r.IntN(24), r.IntN(1000)
		f.Data = string([]byte{byte(r.IntN(256)), byte(r.IntN(256)), byte(r.IntN(256)), byte(r.IntN(256))})
	}
	return f
}

// wrapped is what comes round to a number in so many values, in two bytes, or in four.
func wrapped(number int, values int) []int {
	return []int{number + values, number - values, number + 65536, number - 65536, number + 1<<32, number - 1<<32}
}

// brokenFrame is a frame of which one condition is broken, or one by which others are broken too.
type brokenFrame struct {
	frame impl.Frame
	fault string
}

// brokenFields has, for a valid frame, each field out of its range alone.
func brokenFields(valid impl.Frame) []brokenFrame {
	var broken []brokenFrame
	put := func(fault string, values int, field func(f *impl.Frame) *int, bad ...int) {
		for _, number := range slices.Concat(bad, outOfRange, wrapped(*field(&valid), values)) {
			broken = append(broken, brokenFrame{changedFrame(valid, func(f *impl.Frame) { *field(f) = number }), fault})
		}
	}
	put("kind", 256, func(f *impl.Frame) *int { return &f.Kind }, 0, 4, 5, 255)
	put("src", 256, func(f *impl.Frame) *int { return &f.Src }, 4, 5, 255)
	put("dst", 256, func(f *impl.Frame) *int { return &f.Dst }, 4, 5, 255)
	put("from", 256, func(f *impl.Frame) *int { return &f.From }, 4, 5, 255)
	put("to", 256, func(f *impl.Frame) *int { return &f.To }, 4, 5, 255)
	put("num", 256, func(f *impl.Frame) *int { return &f.Num }, 0, 100, 101, 255)
	put("until", 65536, func(f *impl.Frame) *int { return &f.Until }, 0, 1000, 1001, 65535)
	if valid.Kind == impl.FramePiece {
		put("size", 256, func(f *impl.Frame) *int { return &f.Size }, 0, 25, 26, 255)
		put("mix", 65536, func(f *impl.Frame) *int { return &f.Mix }, 1000, 1001, 65535)
	} else {
		put("size", 256, func(f *impl.Frame) *int { return &f.Size }, 1, 5, 24, 25)
		put("mix", 65536, func(f *impl.Frame) *int { return &f.Mix }, 1, 258, 999, 1000)
	}
	return append(broken, brokenData(valid)...)
}

func brokenData(valid impl.Frame) []brokenFrame {
	texts := []string{"a", "abc", "abcde", "\x00", "\x00\x00\x00", "\x00\x00\x00\x00\x00", "\u00e4\u00e4\u00e4\u00e4", strings.Repeat("x", 256), strings.Repeat("x", 260), strings.Repeat("x", 65540)}
	if valid.Kind == impl.FramePiece {
		texts = append(texts, "")
	} else {
		texts = append(texts, "abcd", "\x00\x00\x00\x00")
	}
	var broken []brokenFrame
	for _, data := range texts {
		broken = append(broken, brokenFrame{changedFrame(valid, func(f *impl.Frame) { f.Data = data }), "data"})
	}
	return broken
}

// misdirectedFrames has each frame between nodes that is not one of the hop frames: to the node itself, past a neighbor, and the wrong way.
func misdirectedFrames() []brokenFrame {
	var broken []brokenFrame
	for _, f := range plainFrames {
		for src := range impl.NoteKeepers {
			for dst := range impl.NoteKeepers {
				for to := range impl.NoteKeepers {
					there := hop{src, dst, to}
					if f.Kind != impl.FramePiece {
						there = hop{dst, src, to}
					}
					if !slices.Contains(hops, there) {
						broken = append(broken, brokenFrame{changedFrame(f, func(f *impl.Frame) { f.Src, f.Dst, f.To = src, dst, to }), "direction"})
					}
				}
			}
		}
	}
	return broken
}

func brokenFrames() []brokenFrame {
	broken := misdirectedFrames()
	for _, f := range slices.Concat(plainFrames, hopFrames()) {
		broken = append(broken, brokenFields(f)...)
	}
	return broken
}

func wantNoFrame(t *testing.T, b []byte, why string) {
	t.Helper()
	if f, ok := impl.FrameUnpack(b); ok || f != (impl.Frame{}) {
		t.Errorf("FrameUnpack(%v) is %#v, %v, want the zero value and false: %s", b, f, ok, why)
	}
}

func wantInvalidFrame(t *testing.T, f impl.Frame, why string) {
	t.Helper()
	if impl.FrameOk(f) {
		t.Errorf("FrameOk(%#v) is true: %s", f, why)
	}
	if b := impl.FramePack(f); len(b) != 0 {
		t.Errorf("FramePack(%#v) is %v, want an empty slice: %s", f, b, why)
	}
}

// wantFrameAsByHand holds FrameUnpack of bytes, and FramePack of what it accepts, against the answers apart from the program.
func wantFrameAsByHand(t *testing.T, b []byte) bool {
	t.Helper()
	want, wantOk := unpackByHand(b)
	got, ok := impl.FrameUnpack(b)
	if got != want || ok != wantOk {
		t.Errorf("FrameUnpack(%v) is %#v, %v, want %#v, %v", b, got, ok, want, wantOk)
	}
	if ok && !impl.FrameOk(got) {
		t.Errorf("FrameUnpack(%v) is %#v, which is invalid", b, got)
	}
	if packed := impl.FramePack(got); ok && !slices.Equal(packed, b) {
		t.Errorf("FrameUnpack accepts %v, but FramePack of that is %v", b, packed)
	}
	return ok
}

func TestFrameConstants(t *testing.T) {
	if impl.FramePiece != 1 || impl.FrameHave != 2 || impl.FrameLate != 3 {
		t.Errorf("the kinds are %d, %d and %d", impl.FramePiece, impl.FrameHave, impl.FrameLate)
	}
}

func TestFrameOkHoldsForValidFrames(t *testing.T) {
	for _, f := range sampleFrames() {
		if faults := frameFaults(f); len(faults) > 0 {
			t.Fatalf("%#v is no sample of a valid frame: %v", f, faults)
		}
		if !impl.FrameOk(f) {
			t.Errorf("FrameOk(%#v) is false", f)
		}
	}
}

func TestInvalidFrames(t *testing.T) {
	wantInvalidFrame(t, impl.Frame{}, "the zero value")
	alone := map[string]int{}
	for _, b := range brokenFrames() {
		faults := frameFaults(b.frame)
		if !slices.Contains(faults, b.fault) {
			t.Fatalf("%#v has the faults %v, not the fault %s", b.frame, faults, b.fault)
		}
		if len(faults) == 1 {
			alone[b.fault]++
		}
		wantInvalidFrame(t, b.frame, b.fault)
	}
	// No frame with a bad Src, Dst or To can be between neighbors, so these faults never come alone.
	for _, fault := range []string{"kind", "from", "num", "until", "size", "mix", "data", "direction"} {
		if alone[fault] < 10 {
			t.Errorf("the fault %s is alone in %d frames", fault, alone[fault])
		}
	}
}

func TestKindIsOneOfThree(t *testing.T) {
	for kind := -300; kind <= 300; kind++ {
		for _, f := range plainFrames {
			f.Kind = kind
			if got, want := impl.FrameOk(f), len(frameFaults(f)) == 0; got != want {
				t.Errorf("FrameOk(%#v) is %v, want %v", f, got, want)
			}
		}
	}
}

func TestAnyFrameIsAsByHand(t *testing.T) {
	r := rand.New(rand.NewPCG(21, 1))
	valid := 0
	for range 200000 {
		f := impl.Frame{
			Kind: r.IntN(5), Src: r.IntN(6) - 1, Dst: r.IntN(6) - 1, From: r.IntN(6) - 1, Num: r.IntN(103) - 1, To: r.IntN(6) - 1, Until: r.IntN(1010) - 1,
		}
		if r.IntN(8) > 0 {
			f.Dst = f.Src + 1 - 2*r.IntN(2)
		}
		if f.Kind == 1 || r.IntN(8) == 0 {
			f.Size, f.Mix, f.Data = r.IntN(27)-1, r.IntN(1010)-1, alphabet[:r.IntN(2)+4-r.IntN(2)]
		}
		faults := frameFaults(f)
		if len(faults) == 0 {
			valid++
		}
		if got := impl.FrameOk(f); got != (len(faults) == 0) {
			t.Errorf("FrameOk(%#v) is %v, its faults are %v", f, got, faults)
		}
		if got := impl.FramePack(f); len(faults) > 0 && len(got) != 0 || len(faults) == 0 && !slices.Equal(got, packByHand(f)) {
			t.Errorf("FramePack(%#v) is %v, its faults are %v", f, got, faults)
		}
	}
	if valid < 5000 || valid > 195000 {
		t.Errorf("%d frames are valid: both kinds must be tested", valid)
	}
}

// P39
func TestFramesAreBetweenNeighbors(t *testing.T) {
	counts := map[int]int{}
	for kind := 1; kind <= 3; kind++ {
		for src := -1; src <= impl.NoteKeepers; src++ {
			for dst := -1; dst <= impl.NoteKeepers; dst++ {
				for to := -1; to <= impl.NoteKeepers; to++ {
					f := impl.Frame{Kind: kind, Src: src, Dst: dst, From: 2, Num: 1, To: to, Until: 1}
					there := hop{src, dst, to}
					if kind == impl.FramePiece {
						f.Size, f.Data = 1, "a\x00\x00\x00"
					} else {
						there = hop{dst, src, to}
					}
					if got, want := impl.FrameOk(f), slices.Contains(hops, there); got != want {
						t.Errorf("FrameOk(%#v) is %v, want %v", f, got, want)
					} else if got {
						counts[kind]++
					}
				}
			}
		}
	}
	for kind := 1; kind <= 3; kind++ {
		if counts[kind] != len(hops) {
			t.Errorf("%d frames of kind %d are valid, want one for each of %d hops", counts[kind], kind, len(hops))
		}
	}
}

// P39
func TestPiecesGoTowardTheDestinationAndAnswersBack(t *testing.T) {
	for _, h := range hops {
		piece := impl.Frame{Kind: impl.FramePiece, Src: h.from, Dst: h.next, From: 0, Num: 1, To: h.to, Until: 1, Size: 1, Data: "abcd"}
		if !impl.FrameOk(piece) || piece.Dst != impl.NoteNext(piece.Src, piece.To) || distance(h.next, h.to) != distance(h.from, h.to)-1 {
			t.Errorf("%#v is no valid piece toward %d", piece, h.to)
		}
		wantInvalidFrame(t, changedFrame(piece, func(f *impl.Frame) { f.Src, f.Dst = f.Dst, f.Src }), "a piece that goes back")
		for _, kind := range []int{impl.FrameHave, impl.FrameLate} {
			answer := impl.Frame{Kind: kind, Src: h.next, Dst: h.from, From: 0, Num: 1, To: h.to, Until: 1}
			if !impl.FrameOk(answer) || answer.Src != impl.NoteNext(answer.Dst, answer.To) {
				t.Errorf("%#v is no valid answer back from %d", answer, h.to)
			}
			wantInvalidFrame(t, changedFrame(answer, func(f *impl.Frame) { f.Src, f.Dst = f.Dst, f.Src }), "an answer that goes the way of a piece")
		}
	}
}

// At the end of a message's way, its destination receives pieces and sends answers, and does nothing else.
func TestFramesAtTheEndOfTheWay(t *testing.T) {
	for to := range impl.NoteKeepers {
		for near := range impl.NoteKeepers {
			neighbors := distance(near, to) == 1
			piece := impl.Frame{Kind: impl.FramePiece, Src: near, Dst: to, From: 1, Num: 1, To: to, Until: 1, Size: 1, Data: "abcd"}
			if got := impl.FrameOk(piece); got != neighbors {
				t.Errorf("FrameOk(%#v) is %v, want %v", piece, got, neighbors)
			}
			piece.Src, piece.Dst = to, near
			wantInvalidFrame(t, piece, "a piece from the end of the way")
			for _, kind := range []int{impl.FrameHave, impl.FrameLate} {
				answer := impl.Frame{Kind: kind, Src: to, Dst: near, From: 1, Num: 1, To: to, Until: 1}
				if got := impl.FrameOk(answer); got != neighbors {
					t.Errorf("FrameOk(%#v) is %v, want %v", answer, got, neighbors)
				}
				answer.Src, answer.Dst = near, to
				wantInvalidFrame(t, answer, "an answer to the end of the way")
			}
		}
	}
}

// Only Src, Dst and To have a direction: From may be any node, also one past the end of the way.
func TestSourceMayBeAnyNode(t *testing.T) {
	for _, f := range hopFrames() {
		for from := -2; from <= impl.NoteKeepers+1; from++ {
			f.From = from
			if got, want := impl.FrameOk(f), from >= 0 && from < impl.NoteKeepers; got != want {
				t.Errorf("FrameOk(%#v) is %v, want %v", f, got, want)
			}
		}
	}
}

// atEach is that many bytes, all zero but for those given by their index.
func atEach(length int, values map[int]byte) []byte {
	b := make([]byte, length)
	for index, value := range values {
		b[index] = value
	}
	return b
}

func filled(length int, value byte) []byte {
	return slices.Repeat([]byte{value}, length)
}

// The values were worked out apart from the program.
func TestFrameSumValues(t *testing.T) {
	for i, c := range []struct {
		b    []byte
		want int
	}{
		{nil, 0}, {[]byte{}, 0}, {[]byte{0}, 0}, {[]byte{1}, 1}, {[]byte{255}, 255}, {[]byte{0, 1}, 2}, {[]byte{1, 2, 3}, 14}, {[]byte{3, 2, 1}, 10},
		{framePayload(plainPiece), 5802},
		// The last multiplier is 1000, and behind it stands 1 again.
		{atEach(999, map[int]byte{998: 1}), 999}, {atEach(1000, map[int]byte{999: 1}), 1000}, {atEach(1001, map[int]byte{1000: 1}), 1}, {atEach(1002, map[int]byte{1001: 1}), 2},
		{atEach(2000, map[int]byte{1999: 1}), 1000}, {atEach(2001, map[int]byte{2000: 1}), 1}, {atEach(2002, map[int]byte{2001: 1}), 2}, {atEach(3001, map[int]byte{3000: 7}), 7},
		{filled(1000, 1), 41853}, {filled(1001, 1), 41854}, {filled(999, 255), 65197}, {filled(1000, 255), 58113}, {filled(1001, 255), 58368}, {filled(2000, 255), 50705}, {filled(2001, 255), 50960},
		{filled(1<<20, 255), 16208},
		// 65*1000 + 521 is the modulus.
		{atEach(1000, map[int]byte{999: 65, 519: 1}), 65520}, {atEach(1000, map[int]byte{999: 65, 520: 1}), 0}, {atEach(1000, map[int]byte{999: 65, 521: 1}), 1},
		{atEach(1000, map[int]byte{999: 65, 535: 1}), 15}, {atEach(1000, map[int]byte{999: 65, 536: 1}), 16},
		// 131*1000 + 42 is twice the modulus.
		{atEach(1000, map[int]byte{999: 131, 40: 1}), 65520}, {atEach(1000, map[int]byte{999: 131, 41: 1}), 0}, {atEach(1000, map[int]byte{999: 131, 42: 1}), 1},
		{filled(21, 255), 58905}, {filled(22, 255), 64515}, {filled(23, 255), 4859},
	} {
		if got := impl.FrameSum(c.b); got != c.want {
			t.Errorf("sum %d, of %d bytes, is %d, want %d", i, len(c.b), got, c.want)
		}
	}
}

func TestFrameSumIsAsByHand(t *testing.T) {
	r := rand.New(rand.NewPCG(21, 2))
	most := 0
	for length := range 3100 {
		b := make([]byte, length)
		for i := range b {
			b[i] = byte(r.IntN(256))
		}
		got := impl.FrameSum(b)
		if got != sumByHand(b) {
			t.Errorf("the sum of %d bytes is %d, want %d", length, got, sumByHand(b))
		}
		most = max(most, got)
	}
	if most < 65000 || most >= 65521 {
		t.Errorf("the greatest sum is %d", most)
	}
}

// P40
func TestSumChangesIfAByteDoes(t *testing.T) {
	r := rand.New(rand.NewPCG(21, 3))
	for _, length := range []int{1, 2, 3, 8, 15, 100, 256, 257, 999, 1000} {
		b := make([]byte, length)
		for i := range b {
			b[i] = byte(r.IntN(256))
		}
		was := impl.FrameSum(b)
		for i, value := range b {
			for difference := 1; difference < 256; difference++ {
				b[i] = value + byte(difference)
				if got := impl.FrameSum(b); got == was {
					t.Errorf("the sum of %d bytes stays %d if the one at %d changes from %d to %d", length, was, i, value, b[i])
				}
			}
			b[i] = value
		}
	}
}

// P40: one byte among zeros has a sum of its own for each value, so that no two values at one place have the same.
func TestSumTellsAllValuesOfAByte(t *testing.T) {
	for _, index := range []int{0, 1, 254, 255, 256, 257, 511, 512, 998, 999} {
		values := map[int]int{}
		for value := range 256 {
			sum := impl.FrameSum(atEach(1000, map[int]byte{index: byte(value)}))
			if other, found := values[sum]; found {
				t.Errorf("the values %d and %d at %d have the sum %d", other, value, index, sum)
			}
			values[sum] = value
		}
	}
}

// The values were worked out apart from the program.
func TestFramePackValues(t *testing.T) {
	for _, c := range []struct {
		f    impl.Frame
		want []byte
	}{
		{plainPiece, []byte{1, 1, 2, 0, 3, 3, 1, 44, 5, 1, 2, 'a', 'b', 'c', 'd', 22, 170}},
		{impl.Frame{Kind: 1, Src: 0, Dst: 1, From: 0, Num: 1, To: 3, Until: 1, Size: 1, Mix: 0, Data: "\x00\x00\x00\x00"}, []byte{1, 0, 1, 0, 1, 3, 0, 1, 1, 0, 0, 0, 0, 0, 0, 0, 44}},
		{impl.Frame{Kind: 1, Src: 3, Dst: 2, From: 1, Num: 99, To: 0, Until: 999, Size: 24, Mix: 999, Data: "\xff\x80\x7f\x00"}, []byte{1, 3, 2, 1, 99, 0, 3, 231, 24, 3, 231, 255, 128, 127, 0, 45, 150}},
		{impl.Frame{Kind: 1, Src: 2, Dst: 3, From: 3, Num: 50, To: 3, Until: 256, Size: 12, Mix: 256, Data: "\x01,;\n"}, []byte{1, 2, 3, 3, 50, 3, 1, 0, 12, 1, 0, 1, 44, 59, 10, 7, 187}},
		{impl.Frame{Kind: 2, Src: 1, Dst: 0, From: 0, Num: 1, To: 1, Until: 1}, []byte{2, 1, 0, 0, 1, 1, 0, 1, 0, 23}},
		{impl.Frame{Kind: 3, Src: 0, Dst: 1, From: 3, Num: 99, To: 0, Until: 999}, []byte{3, 0, 1, 3, 99, 0, 3, 231, 9, 78}},
		{impl.Frame{Kind: 2, Src: 2, Dst: 3, From: 2, Num: 7, To: 1, Until: 255}, []byte{2, 2, 3, 2, 7, 1, 0, 255, 8, 56}},
		{impl.Frame{Kind: 3, Src: 3, Dst: 2, From: 0, Num: 7, To: 3, Until: 256}, []byte{3, 3, 2, 0, 7, 3, 1, 0, 0, 75}},
	} {
		if got := impl.FramePack(c.f); !slices.Equal(got, c.want) {
			t.Errorf("FramePack(%#v) is %v, want %v", c.f, got, c.want)
		}
		if got, ok := impl.FrameUnpack(c.want); !ok || got != c.f {
			t.Errorf("FrameUnpack(%v) is %#v, %v, want %#v", c.want, got, ok, c.f)
		}
	}
}

func wantFrameReadBack(t *testing.T, f impl.Frame) {
	t.Helper()
	b := impl.FramePack(f)
	if !slices.Equal(b, packByHand(f)) {
		t.Errorf("FramePack(%#v) is %v, want %v", f, b, packByHand(f))
	}
	if got, ok := impl.FrameUnpack(b); !ok || got != f {
		t.Errorf("FrameUnpack(%v) is %#v, %v, want %#v", b, got, ok, f)
	}
}

// P41
func TestFrameIsReadBack(t *testing.T) {
	for _, f := range sampleFrames() {
		wantFrameReadBack(t, f)
	}
	r := rand.New(rand.NewPCG(21, 4))
	for range 50000 {
		wantFrameReadBack(t, anyFrame(r))
	}
}

// P42
func TestDifferentFramesHaveDifferentEncodings(t *testing.T) {
	frames := map[string]impl.Frame{}
	for _, f := range sampleFrames() {
		b := string(impl.FramePack(f))
		if other, found := frames[b]; found {
			t.Errorf("%#v and %#v have the encoding %q", f, other, b)
		}
		frames[b] = f
	}
}

// P42: all encodings with the right sum that differ by one byte, so that the sum alone does not keep them off.
func TestFrameHasOneEncoding(t *testing.T) {
	accepted, refused := 0, 0
	for _, f := range slices.Concat(plainFrames, hopFrames()) {
		b := framePayload(f)
		for i, value := range b {
			for other := range 256 {
				b[i] = byte(other)
				if wantFrameAsByHand(t, withSum(b)) {
					accepted++
				} else {
					refused++
				}
			}
			b[i] = value
		}
	}
	if accepted < 10000 || refused < 10000 {
		t.Errorf("%d encodings are accepted and %d refused: both kinds must be tested", accepted, refused)
	}
}

// P42
func TestAnyBytesAreAsByHand(t *testing.T) {
	r := rand.New(rand.NewPCG(21, 5))
	accepted := 0
	for range 300000 {
		b := make([]byte, r.IntN(20))
		if r.IntN(4) > 0 {
			b = make([]byte, 8+7*r.IntN(2))
		}
		for i := range b {
			b[i] = byte(r.IntN(256))
			if r.IntN(16) > 0 {
				b[i] = byte(r.IntN(4))
			}
		}
		if r.IntN(8) > 0 {
			b = withSum(b)
		}
		if wantFrameAsByHand(t, b) {
			accepted++
		}
	}
	if accepted < 1000 {
		t.Errorf("%d encodings are accepted: too few of them are tested", accepted)
	}
}

// Right sums over invalid frames: what comes round to the bytes of a valid one is left out.
func TestRightSumOverAnInvalidFrame(t *testing.T) {
	held := map[string]int{}
	for _, broken := range brokenFrames() {
		b := packByHand(broken.frame)
		if _, ok := unpackByHand(b); ok {
			continue
		}
		held[broken.fault]++
		wantNoFrame(t, b, broken.fault)
	}
	for _, fault := range []string{"kind", "src", "dst", "from", "to", "num", "until", "size", "mix", "data", "direction"} {
		if held[fault] == 0 {
			t.Errorf("no bytes with the fault %s are tested", fault)
		}
	}
}

// The sum is over all bytes ahead of it, and its higher byte comes first.
func TestSumOfAnEncoding(t *testing.T) {
	for _, f := range slices.Concat(plainFrames, hopFrames()) {
		payload := framePayload(f)
		right := sumByHand(payload)
		for sum := range 65536 {
			b := append(slices.Clone(payload), byte(sum/256), byte(sum%256))
			if _, ok := impl.FrameUnpack(b); ok != (sum == right) {
				t.Fatalf("FrameUnpack(%v) is %v, the right sum is %d", b, ok, right)
			}
		}
	}
}

// P43
func TestEncodingWithAChangedByteIsNotAccepted(t *testing.T) {
	r := rand.New(rand.NewPCG(21, 6))
	frames := slices.Concat(plainFrames, hopFrames())
	for range 100 {
		frames = append(frames, anyFrame(r))
	}
	for _, f := range frames {
		b := impl.FramePack(f)
		for i, value := range b {
			for difference := 1; difference < 256; difference++ {
				b[i] = value ^ byte(difference)
				wantNoFrame(t, b, "one byte is changed")
			}
			b[i] = value
		}
	}
}

// P43: an exclusive or with one bit or with all of them, for each sample.
func TestEncodingWithAChangedBitIsNotAccepted(t *testing.T) {
	for _, f := range sampleFrames() {
		b := impl.FramePack(f)
		for i, value := range b {
			for _, change := range []byte{1, 2, 3, 4, 8, 16, 32, 64, 128, 255} {
				b[i] = value ^ change
				wantNoFrame(t, b, "one byte is changed")
			}
			b[i] = value
		}
	}
}

// P44
func TestPrefixOfAnEncodingIsNotAccepted(t *testing.T) {
	for _, f := range sampleFrames() {
		b := impl.FramePack(f)
		for length := range b {
			// The first has the rest of the encoding in its capacity, the second has nothing there.
			wantNoFrame(t, b[:length], "a proper prefix")
			wantNoFrame(t, slices.Clip(slices.Clone(b[:length])), "a proper prefix alone")
		}
		payload := framePayload(f)
		for length := range payload {
			wantNoFrame(t, withSum(payload[:length]), "a proper prefix with its right sum")
		}
	}
}

// P44
func TestEncodingWithFurtherBytesIsNotAccepted(t *testing.T) {
	for _, f := range slices.Concat(plainFrames, hopFrames()) {
		b := impl.FramePack(f)
		payload := framePayload(f)
		for further := range 256 {
			wantNoFrame(t, append(slices.Clone(b), byte(further)), "a further byte")
			wantNoFrame(t, append([]byte{byte(further)}, b...), "a byte ahead of it")
			wantNoFrame(t, withSum(append(slices.Clone(payload), byte(further))), "a further byte, with the right sum")
		}
		for _, other := range plainFrames {
			wantNoFrame(t, slices.Concat(b, impl.FramePack(other)), "two frames")
		}
		wantNoFrame(t, withSum(b), "a second sum")
		wantNoFrame(t, append(slices.Clone(b), make([]byte, 100000)...), "many further bytes")
	}
}

// A piece without its own bytes, and answers with those of a piece, have the right sum here but the wrong length for their kind.
func TestLengthBelongsToTheKind(t *testing.T) {
	for _, f := range slices.Concat(plainFrames, hopFrames()) {
		payload := framePayload(f)
		for kind := range 256 {
			payload[0] = byte(kind)
			wantFrameAsByHand(t, withSum(payload))
			wantFrameAsByHand(t, withSum(payload[:8]))
			wantFrameAsByHand(t, withSum(append(slices.Clone(payload[:8]), 5, 1, 2, 'a', 'b', 'c', 'd')))
			wantFrameAsByHand(t, withSum(append(slices.Clone(payload[:8]), make([]byte, 7)...)))
		}
	}
}

func TestBytesThatAreNoFrame(t *testing.T) {
	wantNoFrame(t, nil, "no bytes")
	wantNoFrame(t, []byte{}, "no bytes")
	wantNoFrame(t, impl.FramePack(impl.Frame{}), "the encoding of an invalid frame")
	for length := range 40 {
		for value := range 256 {
			wantNoFrame(t, filled(length, byte(value)), "equal bytes")
		}
	}
	for _, length := range []int{255, 256, 257, 1000, 65535, 65536, 65546, 1 << 20} {
		wantNoFrame(t, filled(length, 1), "too many bytes")
		wantNoFrame(t, filled(length, 2), "too many bytes")
		wantNoFrame(t, make([]byte, length), "too many bytes")
	}
}

// P45
func TestLengthOfAnEncoding(t *testing.T) {
	for _, f := range sampleFrames() {
		want := 10
		if f.Kind == impl.FramePiece {
			want = 17
		}
		if got := len(impl.FramePack(f)); got != want {
			t.Errorf("FramePack(%#v) has %d bytes, want %d", f, got, want)
		}
	}
}

func TestFrameAnswersNewMemory(t *testing.T) {
	for _, f := range plainFrames {
		first, second := impl.FramePack(f), impl.FramePack(f)
		for i := range first {
			first[i] = 0xff
		}
		_ = append(first[:1], filled(cap(first)-1, 0xff)...)
		if !slices.Equal(second, packByHand(f)) || !slices.Equal(impl.FramePack(f), packByHand(f)) {
			t.Errorf("two encodings of %#v share their bytes: %v", f, second)
		}
		got, _ := impl.FrameUnpack(second)
		for i := range second {
			second[i] = 0xff
		}
		if got != f {
			t.Errorf("the frame shares its memory with its bytes: %#v, want %#v", got, f)
		}
	}
}

// The bytes stand in the middle of others, which belong to their capacity.
func TestFrameArgumentsAreNotChanged(t *testing.T) {
	for _, f := range plainFrames {
		for length := range len(packByHand(f)) + 4 {
			all := slices.Concat([]byte{7, 8}, packByHand(f), filled(20, 9))
			was := slices.Clone(all)
			part := all[2 : 2+length]
			wantFrameAsByHand(t, part)
			if got := impl.FrameSum(part); got != sumByHand(part) {
				t.Errorf("FrameSum(%v) is %d, want %d", part, got, sumByHand(part))
			}
			if !slices.Equal(all, was) {
				t.Errorf("the bytes were changed from %v to %v", was, all)
			}
		}
	}
}
