package tests

import (
	"fmt"
	"math/rand/v2"
	"slices"
	"testing"

	"loop.example/bargeman/impl"
)

// piecesOf is pieces of a message that come from a node.
func piecesOf(n impl.Note, src int, nums []int) []impl.Frame {
	var frames []impl.Frame
	for _, num := range nums {
		frames = append(frames, pieceByHand(n, src, num))
	}
	return frames
}

// firstPieces is as many pieces of a message as it has source blocks.
func firstPieces(n impl.Note, src int) []impl.Frame {
	return piecesOf(n, src, firstNums(blocksOf(n.Text)))
}

// hearAll is a node behind frames.
func hearAll(t *testing.T, k impl.Keeper, frames []impl.Frame) impl.Keeper {
	t.Helper()
	for _, f := range frames {
		k, _ = run(t, k, hearing(f))
	}
	return k
}

// answerTo is what a frame is answered by.
func answerTo(f impl.Frame, kind int) impl.Frame {
	return impl.Frame{Kind: kind, Src: f.Dst, Dst: f.Src, From: f.From, Num: f.Num, To: f.To, Until: f.Until}
}

// wantAnswer wants a frame to be answered by one of a kind, or by none if that is 0.
func wantAnswer(t *testing.T, k impl.Keeper, f impl.Frame, kind int) impl.Keeper {
	t.Helper()
	after, o := run(t, k, hearing(f))
	var want []impl.Frame
	if kind > 0 {
		want = append(want, answerTo(f, kind))
	}
	if !slices.Equal(o.frames, want) {
		t.Errorf("KeeperHear(%+v, %+v) answers %+v, want %+v", k, f, o.frames, want)
	}
	return after
}

// framesTo is valid frames to a node: some of each hop, and as many that often mean something to it.
func framesTo(r *rand.Rand, k impl.Keep, count int) []impl.Frame {
	var frames []impl.Frame
	for _, f := range hopFrames() {
		if f.Dst == k.Id && r.IntN(4) == 0 {
			frames = append(frames, f)
		}
	}
	for want := len(frames) + count; len(frames) < want; {
		if f := anyFrameFor(r, k); impl.FrameOk(f) && f.Dst == k.Id {
			frames = append(frames, f)
		}
	}
	return frames
}

// sampleHearings calls what it is given with valid nodes that are running, and valid frames to them.
func sampleHearings(t *testing.T, hold func(k impl.Keeper, f impl.Frame)) {
	t.Helper()
	r := rand.New(rand.NewPCG(45, 46))
	for _, k := range sampleNodes() {
		has := impl.KeeperHas(k)
		if !k.Up {
			continue
		}
		for _, f := range framesTo(r, has, 30) {
			hold(k, f)
		}
		for _, n := range has.Held {
			src := impl.NoteNext(k.Id, n.From)
			if n.From == k.Id {
				src = impl.NoteNext(k.Id, 3-n.To)
			}
			if impl.NoteNext(src, n.To) == k.Id {
				hold(k, pieceByHand(n, src, 0))
			}
			for kind := 2; kind <= 3; kind++ {
				hold(k, impl.Frame{Kind: kind, Src: impl.NoteNext(k.Id, n.To), Dst: k.Id, From: n.From, Num: n.Num, To: n.To, Until: n.Until})
			}
		}
	}
}

// P54
func TestAnyFrameKeepsANodeValid(t *testing.T) {
	kinds := map[int]int{}
	sampleHearings(t, func(k impl.Keeper, f impl.Frame) {
		was := impl.KeeperHas(k)
		after, o := run(t, k, hearing(f))
		has := impl.KeeperHas(after)
		if !impl.KeeperOk(after) || !after.Up || has.Time != was.Time || has.Next != was.Next {
			t.Errorf("KeeperHear(%+v, %+v) is %+v", k, f, after)
		}
		if len(o.frames) > 1 || len(o.frames) > 0 && f.Kind != impl.FramePiece {
			t.Errorf("KeeperHear(%+v, %+v) answers %+v", k, f, o.frames)
		}
		for _, answer := range o.frames {
			kinds[answer.Kind]++
			if !impl.FrameOk(answer) || answer != answerTo(f, answer.Kind) || answer.Kind == impl.FramePiece {
				t.Errorf("KeeperHear(%+v, %+v) answers %+v", k, f, answer)
			}
		}
	})
	if kinds[impl.FrameHave] < 50 || kinds[impl.FrameLate] < 50 {
		t.Errorf("only some kinds of answers were seen: %v", kinds)
	}
}

// P54: frames to other nodes, and what is no frame.
func TestFrameThatIsNotForANode(t *testing.T) {
	fit := impl.Frame{Kind: 1, Src: 0, Dst: 1, From: 0, Num: 40, To: 3, Until: 9, Size: 2, Data: "ab\x00\x00"}
	release := impl.Frame{Kind: 2, Src: 2, Dst: 1, From: 0, Num: 1, To: 3, Until: 9}
	confirmed := impl.Frame{Kind: 1, Src: 0, Dst: 1, From: 0, Num: 1, To: 3, Until: 9, Size: 6, Data: "thei"}
	for _, f := range []impl.Frame{fit, release, confirmed} {
		if after, _ := run(t, plainNode(), hearing(f)); sameKeeper(after, plainNode()) {
			t.Errorf("%+v changes nothing", f)
		}
		for _, b := range brokenFields(f) {
			wantUnchanged(t, plainNode(), hearing(b.frame))
		}
	}
	wantUnchanged(t, plainNode(), hearing(impl.Frame{}))
	for _, f := range hopFrames() {
		for id := range impl.NoteKeepers {
			k := durableNode(id, "time 1")
			if id != f.Dst {
				wantUnchanged(t, k, hearing(f))
			}
			k.Up = false
			wantUnchanged(t, k, hearing(f))
		}
	}
	for _, b := range misdirectedFrames() {
		wantUnchanged(t, plainNode(), hearing(b.frame))
		wantUnchanged(t, impl.KeeperStart(b.frame.Dst), hearing(b.frame))
	}
}

// P55: a message that decodes but cannot be taken starts anew by its second frame; what the node has is the same.
func TestFrameThatArrivesTwice(t *testing.T) {
	sampleHearings(t, func(k impl.Keeper, f impl.Frame) {
		once, _ := run(t, k, hearing(f))
		twice, o := run(t, once, hearing(f))
		if !sameKeep(impl.KeeperHas(once), impl.KeeperHas(twice)) || once.Shelf != twice.Shelf {
			t.Errorf("KeeperHear(%+v, %+v) is %+v, and then %+v", k, f, once, twice)
		}
		dropped := len(once.Halves) < len(k.Halves) && once.Shelf == k.Shelf
		if !sameKeeper(once, twice) && !dropped {
			t.Errorf("KeeperHear(%+v, %+v) is %+v, and then %+v", k, f, once, twice)
		}
		if third, again := run(t, twice, hearing(f)); !sameOutcome(o, again) && !dropped || third.Shelf != twice.Shelf {
			t.Errorf("KeeperHear(%+v, %+v) answers %+v, and then %+v", k, f, o.frames, again.frames)
		}
	})
}

// P55, P56: the answer comes each time, whether it was lost or not.
func TestConfirmationIsRepeated(t *testing.T) {
	for _, to := range []int{1, 2, 3} {
		n := impl.Note{From: 0, Num: 7, To: to, Until: 9, Text: "hello world"}
		k := hearAll(t, impl.KeeperStart(1), firstPieces(n, 0))
		for _, num := range []int{0, 1, 2, 2, 3, 500, 999} {
			if after := wantAnswer(t, k, pieceByHand(n, 0, num), impl.FrameHave); !sameKeeper(after, k) {
				t.Errorf("number %d again makes %+v of %+v", num, after, k)
			}
		}
	}
}

// P56
func TestConfirmedMessageIsDurable(t *testing.T) {
	confirmed := 0
	sampleHearings(t, func(k impl.Keeper, f impl.Frame) {
		after, o := run(t, k, hearing(f))
		if len(o.frames) == 0 || o.frames[0].Kind != impl.FrameHave {
			return
		}
		confirmed++
		if after.Shelf.Forced != len(after.Shelf.Log) {
			t.Errorf("KeeperHear(%+v, %+v) confirms what is not durable: %+v", k, f, after)
		}
		for _, keep := range []int{-1, 0, 1, 20, 2400} {
			m := modelOf(impl.KeeperHas(impl.KeeperFall(after, keep)))
			at := name{f.From, f.Num}
			if _, held := m.held[at]; !held && m.marks[at] == 0 {
				t.Errorf("KeeperHear(%+v, %+v) confirms what a crash loses: %+v", k, f, after)
			}
		}
	})
	if confirmed < 100 {
		t.Errorf("only %d messages were confirmed", confirmed)
	}
}

// P56: what is held or marked becomes durable before it is confirmed, with all other records.
func TestConfirmationMakesTheLogDurable(t *testing.T) {
	recs := []string{"take 0 1 3 9 held", "take 0 2 3 9 marked", "let 0 2 9", "take 0 3 1 9 arrived", "own 1 1 3 9 own", "mark 3 3 9", "take 0 4 1 9 eaten", "eat 0 4 9", "next 9"}
	for durable := range len(recs) + 1 {
		k := nodeOf(1, durable, recs...)
		want := durableNode(1, recs...)
		for _, at := range []name{{0, 1}, {0, 2}, {0, 3}, {1, 1}, {3, 3}, {0, 4}} {
			for _, h := range hops {
				if h.next != 1 {
					continue
				}
				// Neither To nor Until nor the block are asked for.
				for _, until := range []int{1, 9, 999} {
					f := impl.Frame{Kind: 1, Src: h.from, Dst: 1, From: at.from, Num: at.num, To: h.to, Until: until, Size: 5, Mix: 1, Data: "xxxx"}
					if after := wantAnswer(t, k, f, impl.FrameHave); !sameKeeper(after, want) {
						t.Errorf("KeeperHear(%+v, %+v) is %+v, want %+v", k, f, after, want)
					}
				}
			}
		}
	}
}

// P57: messages that expire around the time, unknown, partial, held, marked, arrived and own ones.
func TestLateMessageIsReported(t *testing.T) {
	for _, time := range []int{0, 1, 2, 500, 998, 999} {
		recs := []string{"own 1 1 3 999 own", "take 0 1 3 999 held", "take 0 2 1 999 arrived", "mark 0 3 999"}
		if time > 0 {
			recs = append(recs, fmt.Sprintf("time %d", time))
		}
		k := nodeOf(1, 1, recs...)
		k.Halves = []impl.Half{halfOf(impl.Note{From: 0, Num: 4, To: 3, Until: max(1, time), Text: "hello world"}, 0, 1)}
		for _, at := range []name{{0, 1}, {0, 2}, {0, 3}, {0, 4}, {0, 5}, {3, 5}, {1, 1}, {1, 2}} {
			for to := range impl.NoteKeepers {
				for _, until := range []int{1, time - 1, time} {
					n := impl.Note{From: at.from, Num: at.num, To: to, Until: until, Text: "hello world"}
					src := 0
					if to == 0 {
						src = 2
					}
					if f := pieceByHand(n, src, 2); until >= 1 && until <= time {
						if after := wantAnswer(t, k, f, impl.FrameLate); !sameKeeper(after, k) {
							t.Errorf("at time %d, %+v makes %+v of %+v", time, f, after, k)
						}
					}
				}
			}
		}
	}
}

// P57: until the time before, a message is accepted.
func TestMessageThatIsNotLateYet(t *testing.T) {
	for _, time := range []int{0, 1, 500, 998} {
		k := impl.KeeperStart(1)
		if time > 0 {
			k = durableNode(1, fmt.Sprintf("time %d", time))
		}
		for to := 1; to <= 3; to++ {
			n := impl.Note{From: 0, Num: 1, To: to, Until: time + 1, Text: "x"}
			after := wantAnswer(t, k, pieceByHand(n, 0, 0), impl.FrameHave)
			wantThere(t, after, n)
			after, _ = run(t, after, ticking())
			if has := impl.KeeperHas(after); len(has.Held)+len(has.Marks) > 0 {
				t.Errorf("a message until %d is there at time %d: %+v", n.Until, has.Time, has)
			}
			wantAnswer(t, after, pieceByHand(n, 0, 0), impl.FrameLate)
		}
	}
}

// P58
func TestMessageIsReleasedWhenItIsConfirmed(t *testing.T) {
	for _, k := range sampleNodes() {
		for _, n := range impl.KeeperHas(k).Held {
			if !k.Up || len(impl.KeeperHas(k).Marks) == impl.KeepMaxMarks {
				continue
			}
			have := impl.Frame{Kind: 2, Src: impl.NoteNext(k.Id, n.To), Dst: k.Id, From: n.From, Num: n.Num, To: n.To, Until: n.Until}
			after := wantAnswer(t, k, have, 0)
			has, was := impl.KeeperHas(after), impl.KeeperHas(k)
			if slices.Contains(has.Held, n) || !slices.Contains(has.Marks, markOf(n)) || len(has.Held) != len(was.Held)-1 || len(has.Marks) != len(was.Marks)+1 {
				t.Errorf("KeeperHear(%+v, %+v) is %+v", k, have, has)
			}
			if recs := recordsOf(after); recs[len(recs)-1] != "let "+markWords(markOf(n)) || after.Shelf.Forced == len(after.Shelf.Log) {
				t.Errorf("KeeperHear(%+v, %+v) has the log %+v", k, have, after.Shelf)
			}
			if back := impl.KeeperHas(impl.KeeperFall(after, 0)); k.Shelf.Forced == len(k.Shelf.Log) && !sameKeep(back, was) {
				t.Errorf("a crash behind KeeperHear(%+v, %+v) leaves %+v", k, have, back)
			}
			wantUnchanged(t, after, hearing(have))
		}
	}
}

// P58: no other confirmation releases a message: with another To or Until, from elsewhere, or of another message.
func TestConfirmationOfAnotherMessage(t *testing.T) {
	k := durableNode(1, "take 0 1 3 9 held", "own 1 1 0 8 own", "take 3 2 0 7 back", "take 0 3 1 9 arrived", "take 0 4 2 9 marked", "let 0 4 9")
	k.Halves = []impl.Half{halfOf(impl.Note{From: 0, Num: 5, To: 2, Until: 9, Text: "hello world"}, 0)}
	right := map[impl.Frame]int{
		{Kind: 2, Src: 2, Dst: 1, From: 0, Num: 1, To: 3, Until: 9}: 1,
		{Kind: 2, Src: 0, Dst: 1, From: 1, Num: 1, To: 0, Until: 8}: 1,
		{Kind: 2, Src: 0, Dst: 1, From: 3, Num: 2, To: 0, Until: 7}: 1,
	}
	released := 0
	for from := range impl.NoteKeepers {
		for num := 1; num <= 6; num++ {
			for to := range impl.NoteKeepers {
				for src := range impl.NoteKeepers {
					for _, until := range []int{1, 6, 7, 8, 9, 10, 999} {
						have := impl.Frame{Kind: 2, Src: src, Dst: 1, From: from, Num: num, To: to, Until: until}
						if right[have] == 0 {
							wantUnchanged(t, k, hearing(have))
							continue
						}
						released++
						if after, _ := run(t, k, hearing(have)); len(impl.KeeperHas(after).Held) != 2 {
							t.Errorf("%+v leaves %+v", have, after)
						}
					}
				}
			}
		}
	}
	if released != len(right) {
		t.Errorf("%d confirmations release a message", released)
	}
}

// P58: without space for its mark, a message is not released; no function leads there, but records do.
func TestReleaseNeedsSpaceForAMark(t *testing.T) {
	for marks := 10; marks <= 12; marks++ {
		k := packedNode(impl.Keep{Id: 1, Next: 1, Held: notesFor(1, 0, 3, 9), Marks: marksFor(marks, 3, 9)})
		have := impl.Frame{Kind: 2, Src: 2, Dst: 1, From: 0, Num: 1, To: 3, Until: 9}
		if marks == 12 {
			wantUnchanged(t, k, hearing(have))
			continue
		}
		if after, _ := run(t, k, hearing(have)); len(impl.KeeperHas(after).Marks) != marks+1 {
			t.Errorf("behind %d marks, %+v leaves %+v", marks, have, after)
		}
	}
}

// P59
func TestReportOfALateMessageChangesNothing(t *testing.T) {
	for _, k := range sampleNodes() {
		for _, f := range hopFrames() {
			if f.Kind == impl.FrameLate && f.Dst == k.Id {
				wantUnchanged(t, k, hearing(f))
			}
		}
		for _, n := range impl.KeeperHas(k).Held {
			wantUnchanged(t, k, hearing(impl.Frame{Kind: 3, Src: impl.NoteNext(k.Id, n.To), Dst: k.Id, From: n.From, Num: n.Num, To: n.To, Until: n.Until}))
		}
	}
}

// isOnWayByHand tells whether a node is between the ends of a way, or one of them.
func isOnWayByHand(id int, from int, to int) bool {
	return from <= id && id <= to || to <= id && id <= from
}

// P60: a valid frame may bring a message of which this node is not on the way; its blocks are collected, but it is not taken.
func TestMessageThatIsNotOnItsWayHere(t *testing.T) {
	count := 0
	for _, h := range hops {
		for from := range impl.NoteKeepers {
			if isOnWayByHand(h.next, from, h.to) {
				continue
			}
			count++
			for size := 1; size <= impl.MixMaxText; size++ {
				n := impl.Note{From: from, Num: 1, To: h.to, Until: 9, Text: alphabet[:size]}
				k := nodeOf(h.next, 0, "time 1")
				after := k
				for _, f := range firstPieces(n, h.from) {
					after = wantAnswer(t, after, f, 0)
				}
				if !sameKeeper(after, k) {
					t.Errorf("%+v makes %+v of node %d", n, after, k.Id)
				}
			}
		}
	}
	if count != 10 {
		t.Errorf("%d ways pass by a node", count)
	}
}

// P60: what comes back to its source has no effect, unless it is there still.
func TestMessageThatComesBackToItsSource(t *testing.T) {
	k := durableNode(1, "own 1 1 3 9 held", "own 1 2 1 9 arrived")
	for _, h := range hops {
		for _, num := range []int{1, 2, 3, 99} {
			n := impl.Note{From: 1, Num: num, To: h.to, Until: 9, Text: "hello"}
			if h.next != 1 {
				continue
			}
			for _, f := range piecesOf(n, h.from, []int{0, 1, 2, 3}) {
				kind := 0
				if num <= 2 {
					kind = impl.FrameHave
				}
				if after := wantAnswer(t, k, f, kind); !sameKeeper(after, k) {
					t.Errorf("%+v makes %+v of its source", f, after)
				}
			}
		}
	}
}

// notesOnTheirWay has messages that come to a node over a hop, from a source from which they come that way.
func notesOnTheirWay(h hop, text string) []impl.Note {
	var notes []impl.Note
	for from := range impl.NoteKeepers {
		if from != h.next && isOnWayByHand(h.from, from, h.to) && isOnWayByHand(h.next, from, h.to) {
			notes = append(notes, impl.Note{From: from, Num: 99, To: h.to, Until: 999, Text: text})
		}
	}
	return notes
}

// P61
func TestFirstBlocksOfAMessageAreEnough(t *testing.T) {
	for _, h := range hops {
		for size := 1; size <= impl.MixMaxText; size++ {
			for _, n := range notesOnTheirWay(h, alphabet[:size]) {
				k := impl.KeeperStart(h.next)
				frames := firstPieces(n, h.from)
				for i, f := range frames {
					if i < len(frames)-1 {
						k = wantAnswer(t, k, f, 0)
						if want := halfOf(n, firstNums(i+1)...); len(k.Halves) != 1 || !sameHalf(k.Halves[0], want) || k.Shelf.Log != "" {
							t.Errorf("behind %d blocks of %+v is %+v", i+1, n, k)
						}
					} else {
						k = wantAnswer(t, k, f, impl.FrameHave)
					}
				}
				if log := logOf("take " + wantText(n)); len(k.Halves) != 0 || k.Shelf != (impl.Shelf{Log: log, Forced: len(log)}) {
					t.Errorf("behind all blocks of %+v is %+v", n, k)
				}
				wantThere(t, k, n)
				wantThere(t, impl.KeeperFall(k, 0), n)
			}
		}
	}
}

// P62
func TestOrderOfTheFirstBlocksDoesNotMatter(t *testing.T) {
	for _, to := range []int{1, 3} {
		for size := 1; size <= impl.MixMaxText; size++ {
			n := impl.Note{From: 0, Num: 1, To: to, Until: 9, Text: alphabet[:size]}
			want := durableNode(1, "take "+wantText(n))
			for _, order := range permutations(encode(n.Text, firstNums(blocksOf(n.Text))...)) {
				k := impl.KeeperStart(1)
				var answers []impl.Frame
				for i, block := range order {
					if len(answers) > 0 {
						t.Errorf("%d blocks are answered by %+v", i, answers)
					}
					k, answers = impl.KeeperHear(k, pieceByHand(n, 0, block.Num))
				}
				if !sameKeeper(k, want) || len(answers) != 1 || answers[0].Kind != impl.FrameHave {
					t.Fatalf("in the order %+v the blocks make %+v, %+v", order, k, answers)
				}
			}
		}
	}
}

// P62: blocks that combine others decode a message too, among them some that come twice.
func TestOtherBlocksOfAMessage(t *testing.T) {
	n := impl.Note{From: 0, Num: 1, To: 3, Until: 9, Text: alphabet}
	want := durableNode(1, "take "+wantText(n))
	for _, order := range permutations(encode(alphabet, chain...)) {
		k := impl.KeeperStart(1)
		for i, block := range order {
			k, _ = impl.KeeperHear(k, pieceByHand(n, 0, block.Num))
			if i%2 == 0 && i < 5 {
				k, _ = impl.KeeperHear(k, pieceByHand(n, 0, order[0].Num))
			}
		}
		if !sameKeeper(k, want) {
			t.Fatalf("in the order %+v the blocks make %+v", order, k)
		}
	}
}

// P63
func TestNodeWithoutSpaceDoesNotAnswer(t *testing.T) {
	for list, state := range fullStates() {
		for _, forced := range []bool{true, false} {
			k := packedNode(state)
			if !forced {
				k.Shelf.Forced = 0
			}
			for to, possible := range map[int]bool{
				0: list == "inbox" || list == "old inbox",
				2: list == "held",
				3: list == "inbox" || list == "old inbox",
			} {
				n := impl.Note{From: 1, Num: 50, To: to, Until: 9, Text: "hello world"}
				src := 1
				if to == 0 {
					n.From, src = 3, 3
				}
				frames := firstPieces(n, src)
				last := hearAll(t, k, frames[:2])
				if possible {
					wantThere(t, wantAnswer(t, last, frames[2], impl.FrameHave), n)
				} else if after := wantAnswer(t, last, frames[2], 0); !sameKeeper(after, k) {
					t.Errorf("without space (%s), %+v makes %+v of %+v", list, n, after, k)
				}
			}
		}
	}
}

// P63: once there is space, a message that was not taken is, if it is offered again.
func TestMessageIsTakenOnceThereIsSpace(t *testing.T) {
	k := packedNode(fullStates()["inbox"])
	n := impl.Note{From: 1, Num: 50, To: 2, Until: 99, Text: "hello world"}
	k = hearAll(t, k, firstPieces(n, 1))
	if len(impl.KeeperHas(k).Inbox) != 6 || len(k.Halves) != 0 {
		t.Errorf("without space is %+v", k)
	}
	k, _ = run(t, k, eating(0, 3))
	k = hearAll(t, k, firstPieces(n, 1))
	wantThere(t, k, n)
	held := packedNode(fullStates()["held"])
	n = impl.Note{From: 1, Num: 50, To: 3, Until: 99, Text: "hello world"}
	held = hearAll(t, held, firstPieces(n, 1))
	held, _ = run(t, held, hearing(impl.Frame{Kind: 2, Src: 3, Dst: 2, From: 0, Num: 6, To: 3, Until: 9}))
	held = hearAll(t, held, firstPieces(n, 1))
	wantThere(t, held, n)
}

// An expired message of the inbox has no mark any more; one of the same name is not taken until it is gone.
func TestMessageOfTheSameNameAsAnExpiredOne(t *testing.T) {
	k := durableNode(1, "take 0 1 1 5 a", "time 5")
	for _, to := range []int{1, 2} {
		n := impl.Note{From: 0, Num: 1, To: to, Until: 9, Text: "b"}
		f := pieceByHand(n, 0, 0)
		if after := wantAnswer(t, k, f, 0); !sameKeeper(after, k) {
			t.Errorf("%+v makes %+v of %+v", f, after, k)
		}
		eaten, _ := run(t, k, eating(0, 1))
		wantThere(t, wantAnswer(t, eaten, f, impl.FrameHave), n)
	}
}

// A fourth partial message drops the first one.
func TestTooManyPartialMessages(t *testing.T) {
	var notes []impl.Note
	for num := 1; num <= 9; num++ {
		notes = append(notes, impl.Note{From: 0, Num: num, To: 1 + num%3, Until: 9 + num, Text: alphabet[num : num+5+num]})
	}
	k := impl.KeeperStart(1)
	var want []impl.Half
	for _, n := range notes {
		k = wantAnswer(t, k, pieceByHand(n, 0, 1), 0)
		want = append(want, halfOf(n, 1))
		want = want[max(0, len(want)-3):]
		if !slices.EqualFunc(k.Halves, want, sameHalf) {
			t.Errorf("behind number %d the partial messages are %+v, want %+v", n.Num, k.Halves, want)
		}
	}
	// Further blocks of those that are there drop none, and leave the order.
	for _, place := range []int{8, 6, 7, 6} {
		k = wantAnswer(t, k, pieceByHand(notes[place], 0, 998), 0)
		if len(k.Halves) != 3 || k.Halves[0].Num != 7 || k.Halves[1].Num != 8 || k.Halves[2].Num != 9 {
			t.Errorf("behind a further block of number %d the partial messages are %+v", place+1, k.Halves)
		}
	}
	// A first one that was dropped starts anew, and drops the next one.
	k = wantAnswer(t, k, pieceByHand(notes[0], 0, 0), 0)
	if len(k.Halves) != 3 || k.Halves[0].Num != 8 || !sameHalf(k.Halves[2], halfOf(notes[0], 0)) {
		t.Errorf("behind number 1 the partial messages are %+v", k.Halves)
	}
}

// Each of three partial messages can become whole; the others keep their order, and are the first to be dropped in it.
func TestPartialMessageBecomesWhole(t *testing.T) {
	notes := make([]impl.Note, 6)
	for i := range notes {
		notes[i] = impl.Note{From: 0, Num: 1 + i, To: 3, Until: 9, Text: "hello wor" + alphabet[i:i+1]}
	}
	for start := range 3 {
		for place := range 3 {
			k := impl.KeeperStart(1)
			for i := range start + 3 {
				k = hearAll(t, k, piecesOf(notes[i], 0, []int{0, 2}))
			}
			whole := notes[start+place]
			k = wantAnswer(t, k, pieceByHand(whole, 0, 1), impl.FrameHave)
			wantThere(t, k, whole)
			var want []impl.Half
			for i := start; i < start+3; i++ {
				if i != start+place {
					want = append(want, halfOf(notes[i], 0, 2))
				}
			}
			if !slices.EqualFunc(k.Halves, want, sameHalf) {
				t.Errorf("behind number %d the partial messages are %+v, want %+v", whole.Num, k.Halves, want)
			}
			late := impl.Note{From: 0, Num: 90, To: 2, Until: 8, Text: "12345"}
			later := impl.Note{From: 0, Num: 91, To: 1, Until: 8, Text: "12345"}
			k = hearAll(t, k, []impl.Frame{pieceByHand(late, 0, 0), pieceByHand(later, 0, 0)})
			want = append(want[1:], halfOf(late, 0), halfOf(later, 0))
			if !slices.EqualFunc(k.Halves, want, sameHalf) {
				t.Errorf("behind two others the partial messages are %+v, want %+v", k.Halves, want)
			}
		}
	}
}

// A fourth message drops the first one also if it needs one block only, taken or not.
func TestShortMessageDropsThePartialOneToo(t *testing.T) {
	k := impl.KeeperStart(1)
	var notes []impl.Note
	for num := 1; num <= 3; num++ {
		notes = append(notes, impl.Note{From: 0, Num: num, To: 3, Until: 9, Text: "hello"})
		k = wantAnswer(t, k, pieceByHand(notes[num-1], 0, 0), 0)
	}
	want := []impl.Half{halfOf(notes[1], 0), halfOf(notes[2], 0)}
	short := impl.Note{From: 0, Num: 4, To: 3, Until: 9, Text: "x"}
	if after := wantAnswer(t, k, pieceByHand(short, 0, 0), impl.FrameHave); !slices.EqualFunc(after.Halves, want, sameHalf) {
		t.Errorf("behind a message of one block the partial messages are %+v, want %+v", after.Halves, want)
	}
	short.Text = "\n"
	if after := wantAnswer(t, k, pieceByHand(short, 0, 0), 0); !slices.EqualFunc(after.Halves, want, sameHalf) || after.Shelf != k.Shelf {
		t.Errorf("behind a message that cannot be taken is %+v", after)
	}
}

// numsOf is numbers of encoded blocks that combine exactly these source blocks.
func numsOf(blocks int, count int, want ...int) []int {
	var nums []int
	for num := blocks; num <= impl.MixMaxNum && len(nums) < count; num++ {
		if slices.Equal(impl.MixOf(blocks, num), want) {
			nums = append(nums, num)
		}
	}
	return nums
}

// A fifteenth block of a message drops the first one: what only that one told is not known any more.
func TestTooManyBlocksOfAMessage(t *testing.T) {
	n := impl.Note{From: 0, Num: 1, To: 3, Until: 9, Text: "hello world"}
	both := numsOf(3, 15, 1, 2)
	if len(both) != 15 {
		t.Fatalf("only %d numbers combine two blocks", len(both))
	}
	full := hearAll(t, impl.KeeperStart(1), piecesOf(n, 0, append([]int{0}, both[:13]...)))
	if len(full.Halves) != 1 || !sameHalf(full.Halves[0], halfOf(n, append([]int{0}, both[:13]...)...)) {
		t.Fatalf("behind 14 blocks is %+v", full)
	}
	more := wantAnswer(t, full, pieceByHand(n, 0, both[13]), 0)
	if !sameHalf(more.Halves[0], halfOf(n, both[:14]...)) {
		t.Errorf("behind 15 blocks is %+v", more)
	}
	more = wantAnswer(t, more, pieceByHand(n, 0, 1), 0)
	if !sameHalf(more.Halves[0], halfOf(n, append(slices.Clone(both[1:14]), 1)...)) {
		t.Errorf("behind 16 blocks is %+v", more)
	}
	wantThere(t, wantAnswer(t, more, pieceByHand(n, 0, 0), impl.FrameHave), n)
	// A number that is there already drops no other block: the first one is still known.
	again := wantAnswer(t, full, pieceByHand(n, 0, both[4]), 0)
	nums := append([]int{0}, slices.Concat(both[:4], both[5:13], both[4:5])...)
	if !sameHalf(again.Halves[0], halfOf(n, nums...)) {
		t.Errorf("behind a block that was there is %+v", again)
	}
	// The first one itself, once it has come again, is the last one to be dropped.
	again = wantAnswer(t, full, pieceByHand(n, 0, 0), 0)
	wantThere(t, wantAnswer(t, again, pieceByHand(n, 0, 2), impl.FrameHave), n)
	// With space for one more block, nothing is dropped.
	space := hearAll(t, impl.KeeperStart(1), piecesOf(n, 0, append([]int{0}, both[:12]...)))
	wantThere(t, wantAnswer(t, space, pieceByHand(n, 0, 1), impl.FrameHave), n)
}

// A block with a number that is there takes the place of the one that was there, with its data.
func TestBlockWithANumberThatIsThere(t *testing.T) {
	n := impl.Note{From: 0, Num: 1, To: 3, Until: 9, Text: "hello world"}
	wrong := pieceByHand(n, 0, 0)
	wrong.Data = "jell"
	k := hearAll(t, impl.KeeperStart(1), []impl.Frame{pieceByHand(n, 0, 0), pieceByHand(n, 0, 1), wrong})
	if got := k.Halves[0].Got; len(got) != 2 || got[0].Num != 1 || got[1] != (impl.Mixed{Num: 0, Data: "jell"}) {
		t.Errorf("the blocks are %+v", got)
	}
	jello := n
	jello.Text = "jello world"
	wantThere(t, wantAnswer(t, k, pieceByHand(n, 0, 2), impl.FrameHave), jello)
	k = wantAnswer(t, k, pieceByHand(n, 0, 0), 0)
	wantThere(t, wantAnswer(t, k, pieceByHand(n, 0, 2), impl.FrameHave), n)
}

// Blocks with several numbers that contradict each other are decoded in the order in which they came.
func TestContradictoryBlocks(t *testing.T) {
	n := impl.Note{From: 0, Num: 1, To: 3, Until: 9, Text: "hello"}
	also := numsOf(2, 2, 0)
	frames := piecesOf(n, 0, also)
	frames[0].Data, frames[1].Data = "help", "hero"
	second := pieceByHand(n, 0, 1)
	for _, c := range []struct {
		frames []impl.Frame
		text   string
	}{
		{[]impl.Frame{frames[0], frames[1], second}, "helpo"},
		{[]impl.Frame{frames[1], frames[0], second}, "heroo"},
		{[]impl.Frame{frames[0], frames[1], frames[0], second}, "heroo"},
		{[]impl.Frame{pieceByHand(n, 0, 0), frames[1], frames[0], second}, "hello"},
	} {
		k := hearAll(t, impl.KeeperStart(1), c.frames)
		wantThere(t, k, impl.Note{From: 0, Num: 1, To: 3, Until: 9, Text: c.text})
	}
}

// Parts with another To, Until or Size are not those of the message that is partial here: its own ones make it whole.
func TestContradictoryParts(t *testing.T) {
	n := impl.Note{From: 0, Num: 1, To: 3, Until: 9, Text: "hello world"}
	for _, start := range [][]int{{0}, {0, 1}, {2, 1, 998}} {
		k := hearAll(t, nodeOf(1, 0, "time 1"), piecesOf(n, 0, start))
		for num := range 5 {
			for _, change := range []func(f *impl.Frame){
				func(f *impl.Frame) { f.To = 2 },
				func(f *impl.Frame) { f.To = 1 },
				func(f *impl.Frame) { f.To, f.Src = 0, 2 },
				func(f *impl.Frame) { f.Until = 8 },
				func(f *impl.Frame) { f.Until = 10 },
				func(f *impl.Frame) { f.Until = 999 },
				func(f *impl.Frame) { f.Size = 12 },
				func(f *impl.Frame) { f.Size = 10 },
				func(f *impl.Frame) { f.Size, f.Data = 1, "x\x00\x00\x00" },
				func(f *impl.Frame) { f.Size = 24 },
				func(f *impl.Frame) { f.To, f.Until, f.Size = 2, 8, 9 },
			} {
				f := changedFrame(pieceByHand(n, 0, num), change)
				if after := wantAnswer(t, k, f, 0); !sameKeeper(after, k) {
					t.Errorf("%+v makes %+v of %+v", f, after, k)
				}
			}
		}
		k = hearAll(t, k, firstPieces(n, 0))
		wantThere(t, k, n)
	}
	// The Until that comes first decides also if it has expired since: then the message has to wait until it is dropped.
	old := hearAll(t, durableNode(1, "time 1"), piecesOf(n, 0, []int{0}))
	old, _ = run(t, old, ticking(), ticking(), ticking(), ticking(), ticking(), ticking(), ticking(), ticking())
	longer := n
	longer.Until = 99
	if after := hearAll(t, old, firstPieces(longer, 0)); !sameKeeper(after, old) {
		t.Errorf("%+v makes %+v of %+v", longer, after, old)
	}
}

// Parts of the same number from two sources, and of two numbers from one, belong to two messages.
func TestPartsOfMessagesWithOtherNames(t *testing.T) {
	first := impl.Note{From: 0, Num: 1, To: 2, Until: 9, Text: "hello"}
	second := impl.Note{From: 0, Num: 2, To: 2, Until: 9, Text: "jumpy"}
	third := impl.Note{From: 1, Num: 1, To: 2, Until: 9, Text: "world"}
	k := impl.KeeperStart(2)
	for _, n := range []impl.Note{first, second, third} {
		k = wantAnswer(t, k, pieceByHand(n, 1, 0), 0)
	}
	if len(k.Halves) != 3 {
		t.Errorf("the partial messages are %+v", k.Halves)
	}
	for _, n := range []impl.Note{second, third, first} {
		k = wantAnswer(t, k, pieceByHand(n, 1, 1), impl.FrameHave)
		wantThere(t, k, n)
	}
}

// What decodes but cannot be taken is partial no longer; nothing is answered, and the log is as it was.
func TestMessageThatCannotBeTaken(t *testing.T) {
	for _, text := range invalidNoteTexts() {
		if len(text) == 0 || len(text) > impl.MixMaxText {
			continue
		}
		for _, to := range []int{1, 3} {
			n := impl.Note{From: 0, Num: 1, To: to, Until: 9, Text: text}
			k := nodeOf(1, 0, "time 1")
			after := k
			for i, f := range firstPieces(n, 0) {
				after = wantAnswer(t, after, f, 0)
				if i < blocksOf(text)-1 && len(after.Halves) != 1 {
					t.Errorf("%d blocks of %q are not partial", i+1, text)
				}
			}
			if !sameKeeper(after, k) {
				t.Errorf("%q makes %+v of %+v", text, after, k)
			}
		}
	}
}

// Texts of each length and with all bytes that a message may have arrive as they were sent.
func TestTextsArriveAsTheyWereSent(t *testing.T) {
	for _, text := range noteTexts() {
		for _, to := range []int{1, 3} {
			n := impl.Note{From: 0, Num: 1, To: to, Until: 9, Text: text}
			wantThere(t, hearAll(t, impl.KeeperStart(1), firstPieces(n, 0)), n)
		}
	}
}

// A text is not decoded while a byte behind its size is not zero; zero bytes within it decode, but are no text of a message.
func TestBytesBehindAText(t *testing.T) {
	n := impl.Note{From: 0, Num: 1, To: 3, Until: 9, Text: "hello"}
	k := wantAnswer(t, impl.KeeperStart(1), pieceByHand(n, 0, 0), 0)
	f := pieceByHand(n, 0, 1)
	f.Data = "o\x00\x00!"
	k = wantAnswer(t, k, f, 0)
	if len(k.Halves) != 1 || len(k.Halves[0].Got) != 2 {
		t.Errorf("behind a byte that is not zero is %+v", k)
	}
	wantThere(t, wantAnswer(t, k, pieceByHand(n, 0, 1), impl.FrameHave), n)
	f.Data = "\x00\x00\x00\x00"
	if after := wantAnswer(t, k, f, 0); len(after.Halves) != 0 || after.Shelf != k.Shelf {
		t.Errorf("behind a zero byte is %+v", after)
	}
}

// A partial message that is whole already, or holds a message that is there, waits for its next block.
func TestPartialMessagesThatRecordsDidNotLeadTo(t *testing.T) {
	n := impl.Note{From: 0, Num: 1, To: 3, Until: 9, Text: "hello world"}
	k := impl.KeeperStart(1)
	k.Halves = []impl.Half{halfOf(n, 0, 1, 2), {From: 0, Num: 2, To: 2, Until: 9, Size: 1}}
	after := wantAnswer(t, k, pieceByHand(n, 0, 7), impl.FrameHave)
	wantThere(t, after, n)
	short := impl.Note{From: 0, Num: 2, To: 2, Until: 9, Text: "x"}
	wantThere(t, wantAnswer(t, after, pieceByHand(short, 0, 0), impl.FrameHave), short)
	there := durableNode(1, "take "+wantText(n))
	there.Halves = []impl.Half{halfOf(n, 0, 1)}
	if after := wantAnswer(t, there, pieceByHand(n, 0, 2), impl.FrameHave); !sameKeeper(after, there) {
		t.Errorf("a message that is held and partial becomes %+v", after)
	}
}

// carry lets a message go over one hop: its blocks in an order, the answers back, the release.
func carry(t *testing.T, nodes []impl.Keeper, n impl.Note, at int, order []int) {
	t.Helper()
	next := impl.NoteNext(at, n.To)
	for i, mix := range order {
		_, offered := run(t, nodes[at], mixing(n.From, n.Num, mix))
		after, heard := run(t, nodes[next], hearing(offered.frame))
		nodes[next] = after
		if (len(heard.frames) == 1) != (i == len(order)-1) {
			t.Errorf("block %d of %d of %+v is answered by %+v", i+1, len(order), n, heard.frames)
		}
		for _, answer := range heard.frames {
			nodes[at], _ = run(t, nodes[at], hearing(answer))
		}
	}
	if has := impl.KeeperHas(nodes[at]); slices.Contains(has.Held, n) || !slices.Contains(has.Marks, markOf(n)) {
		t.Errorf("node %d has not released %+v: %+v", at, n, has)
	}
	wantThere(t, nodes[next], n)
}

// P47, P53, P56, P58, P61: from each node to each other one.
func TestMessageGoesOverEachHop(t *testing.T) {
	r := rand.New(rand.NewPCG(47, 48))
	for from := range impl.NoteKeepers {
		for to := range impl.NoteKeepers {
			for _, size := range []int{1, 4, 5, 11, 20, 24} {
				var nodes []impl.Keeper
				for id := range impl.NoteKeepers {
					nodes = append(nodes, impl.KeeperStart(id))
				}
				n := impl.Note{From: from, Num: 1, To: to, Until: 9, Text: alphabet[:size]}
				nodes[from], _ = run(t, nodes[from], owning(to, 9, n.Text))
				for at := from; at != to; at = impl.NoteNext(at, to) {
					carry(t, nodes, n, at, r.Perm(blocksOf(n.Text)))
					next := impl.NoteNext(at, to)
					nodes[next], _ = run(t, nodes[next], falling(0), rising())
					wantThere(t, nodes[next], n)
				}
				after, o := run(t, nodes[to], eating(from, 1))
				if !o.ok || o.note != n || len(impl.KeeperHas(after).Inbox) != 0 {
					t.Errorf("%+v arrives as %+v", n, o)
				}
			}
		}
	}
}

// P56, P58: the answer is lost, or the release is; the message is confirmed again, and still is where it was or further.
func TestCrashesOnTheWay(t *testing.T) {
	n := impl.Note{From: 0, Num: 1, To: 2, Until: 9, Text: "hello world"}
	nodes := []impl.Keeper{durableNode(0, "own "+wantText(n)), impl.KeeperStart(1), impl.KeeperStart(2)}
	carry(t, nodes, n, 0, []int{2, 0, 1})
	for keep := range 12 {
		back, _ := run(t, nodes[0], falling(keep), rising())
		has := impl.KeeperHas(back)
		if released := keep >= len(logOf("let 0 1 9")); slices.Contains(has.Held, n) == released {
			t.Errorf("a crash with %d leaves %+v", keep, has)
		} else if !released {
			_, offered := run(t, back, mixing(0, 1, 0))
			wantAnswer(t, nodes[1], offered.frame, impl.FrameHave)
			back, _ = run(t, back, hearing(answerTo(offered.frame, impl.FrameHave)))
			if len(impl.KeeperHas(back).Held) != 0 {
				t.Errorf("%+v is not released again", n)
			}
		}
	}
	// The node that has confirmed it has let go of it, and a crash forgets that: it is confirmed all the same.
	carry(t, nodes, n, 1, []int{0, 1, 2})
	for keep := range 12 {
		back, _ := run(t, nodes[1], falling(keep), rising())
		wantAnswer(t, back, pieceByHand(n, 0, 0), impl.FrameHave)
		wantAnswer(t, nodes[1], pieceByHand(n, 0, 0), impl.FrameHave)
	}
}
