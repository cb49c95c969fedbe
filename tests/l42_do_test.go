package tests

import (
	"math/rand/v2"
	"slices"
	"strings"
	"testing"

	"loop.example/bargeman/impl"
)

func ownEvent(n impl.Note) impl.RiverEvent {
	return impl.RiverEvent{Kind: impl.RiverOwn, At: n.From, To: n.To, Until: n.Until, Text: n.Text}
}

func mixEvent(at int, n impl.Note, mix int) impl.RiverEvent {
	return impl.RiverEvent{Kind: impl.RiverMix, At: at, From: n.From, Num: n.Num, Mix: mix}
}

func eatEvent(at int, n impl.Note) impl.RiverEvent {
	return impl.RiverEvent{Kind: impl.RiverEats, At: at, From: n.From, Num: n.Num}
}

// eventAt is an event that needs a place only: a node or a link.
func eventAt(kind int, at int) impl.RiverEvent {
	return impl.RiverEvent{Kind: kind, At: at}
}

// eventOf is an event that needs an element of Radio only.
func eventOf(kind int, word int) impl.RiverEvent {
	return impl.RiverEvent{Kind: kind, Word: word}
}

func bringEvent(word int, keep int) impl.RiverEvent {
	return impl.RiverEvent{Kind: impl.RiverBrings, Word: word, Keep: keep}
}

func spoilEvent(word int, mix int, keep int) impl.RiverEvent {
	return impl.RiverEvent{Kind: impl.RiverSpoils, Word: word, Mix: mix, Keep: keep}
}

// startWith is the first run with some nodes in place of its own.
func startWith(nodes ...impl.Keeper) impl.River {
	w := startByHand()
	for _, k := range nodes {
		w.Keepers[k.Id] = k
	}
	return w
}

// transitOf is parcels that are told from each other, between nodes 0 and 1.
func transitOf(count int) []impl.Parcel {
	var list []impl.Parcel
	for i := range count {
		list = append(list, impl.Parcel{Src: 0, Dst: 1, Data: strings.Repeat("x", i+1)})
	}
	return list
}

// withRadio is a run with other elements in transit.
func withRadio(w impl.River, list ...impl.Parcel) impl.River {
	w = cloneRiver(w)
	w.Radio = list
	return w
}

// down is a node that is not running.
func down(k impl.Keeper) impl.Keeper {
	k.Up, k.Halves = false, nil
	return k
}

// farNodes is numbers of no node.
var farNodes = append([]int{4, 5, 256, 1 << 32}, outOfRange...)

func TestKindsOfEvents(t *testing.T) {
	kinds := []int{
		impl.RiverOwn, impl.RiverTime, impl.RiverMix, impl.RiverBrings, impl.RiverLoses, impl.RiverSpoils, impl.RiverFalls,
		impl.RiverRises, impl.RiverOpens, impl.RiverCloses, impl.RiverEats, impl.RiverPacks, impl.RiverForces,
	}
	for i, kind := range kinds {
		if kind != i+1 {
			t.Errorf("kind %d is %d", i+1, kind)
		}
	}
}

// P70: that every event is as by hand is held where it happens; here, each kind must have been possible and not possible.
func TestEventsKeepARunValid(t *testing.T) {
	possible, impossible := map[int]int{}, map[int]int{}
	for _, h := range allHappenings(t) {
		if h.possible {
			possible[h.event.Kind]++
		} else {
			impossible[h.event.Kind]++
		}
	}
	for kind := impl.RiverOwn; kind <= impl.RiverForces; kind++ {
		if possible[kind] < 20 || impossible[kind] < 20 {
			t.Errorf("kind %d was possible %d times, and not possible %d times", kind, possible[kind], impossible[kind])
		}
	}
	for kind := range possible {
		if kind < 1 || kind > 13 {
			t.Errorf("kind %d was possible", kind)
		}
	}
}

// P70: kinds that there are not change nothing.
func TestUnknownKinds(t *testing.T) {
	for _, w := range []impl.River{startByHand(), openRiver()} {
		for _, kind := range append([]int{0, 14, 15, 16, 255, 256, 257, 1 << 32, 1<<32 + 2}, outOfRange...) {
			wantImpossible(t, w, impl.RiverEvent{Kind: kind}, impl.RiverEvent{Kind: kind, At: 1, From: 1, Num: 2, Keep: 1, To: 3, Until: 99, Text: "x"})
		}
	}
}

// P70: a node, a link or an element that there is not.
func TestEventsNowhere(t *testing.T) {
	kindsAtNodes := []int{
		impl.RiverOwn, impl.RiverTime, impl.RiverMix, impl.RiverFalls, impl.RiverRises, impl.RiverEats, impl.RiverPacks, impl.RiverForces,
	}
	w := openRiver()
	n := impl.Note{From: 1, Num: 2, To: 0, Until: 8}
	for _, at := range farNodes {
		for _, kind := range kindsAtNodes {
			wantImpossible(t, w, impl.RiverEvent{Kind: kind, At: at, From: n.From, Num: n.Num, To: n.To, Until: 900, Text: "x"})
		}
	}
	for _, at := range append([]int{3, 4}, farNodes...) {
		wantImpossible(t, w, eventAt(impl.RiverOpens, at), eventAt(impl.RiverCloses, at))
		wantImpossible(t, changedRiver(func(w *impl.River) { w.Links = make([]bool, 3) }), eventAt(impl.RiverOpens, at))
	}
	for _, w := range []impl.River{startByHand(), w, withRadio(w, transitOf(30)...)} {
		for _, word := range append([]int{len(w.Radio), len(w.Radio) + 1, 30, 31}, outOfRange...) {
			wantImpossible(t, w, bringEvent(word, 0), bringEvent(word, 1), eventOf(impl.RiverLoses, word), spoilEvent(word, 0, 1))
		}
	}
}

// P70: what an event does not need has no effect.
func TestOtherFieldsDoNotMatter(t *testing.T) {
	usual := impl.RiverEvent{At: 1, From: 1, Num: 2, Word: 1, Mix: 1, Keep: 0, To: 3, Until: 99, Text: "x"}
	set := []func(e *impl.RiverEvent, number int){
		func(e *impl.RiverEvent, number int) { e.At = number },
		func(e *impl.RiverEvent, number int) { e.From = number },
		func(e *impl.RiverEvent, number int) { e.Num = number },
		func(e *impl.RiverEvent, number int) { e.Word = number },
		func(e *impl.RiverEvent, number int) { e.Mix = number },
		func(e *impl.RiverEvent, number int) { e.Keep = number },
		func(e *impl.RiverEvent, number int) { e.To = number },
		func(e *impl.RiverEvent, number int) { e.Until = number },
		func(e *impl.RiverEvent, number int) { e.Text = strings.Repeat("y", number+30) },
	}
	at, from, num, word, mix, keep, to, until, text := 0, 1, 2, 3, 4, 5, 6, 7, 8
	needed := map[int][]int{
		impl.RiverOwn: {at, to, until, text}, impl.RiverTime: {at}, impl.RiverMix: {at, from, num, mix}, impl.RiverBrings: {word, keep},
		impl.RiverLoses: {word}, impl.RiverSpoils: {word, mix, keep}, impl.RiverFalls: {at, keep}, impl.RiverRises: {at},
		impl.RiverOpens: {at}, impl.RiverCloses: {at}, impl.RiverEats: {at, from, num}, impl.RiverPacks: {at}, impl.RiverForces: {at},
	}
	for _, w := range []impl.River{openRiver(), plainRiver(), startByHand()} {
		for kind, fields := range needed {
			usual.Kind = kind
			want := happen(t, w, usual)
			for field, change := range set {
				for _, number := range []int{-1, 0, 1, 2, 77} {
					e := usual
					change(&e, number)
					if slices.Contains(fields, field) {
						continue
					}
					if h := happen(t, w, e); h.possible != want.possible || !sameRiver(h.after, want.after) {
						t.Errorf("RiverDo(%+v, %+v) is %+v, %v, but %+v makes it %+v, %v", w, e, h.after, h.possible, usual, want.after, want.possible)
					}
				}
			}
		}
	}
}

func TestOwnEvent(t *testing.T) {
	n := impl.Note{From: 1, Num: 1, To: 3, Until: 7, Text: "hello"}
	w := wantRun(t, startByHand(), ownEvent(n), func(w *impl.River) {
		w.Keepers[1] = durableNode(1, "own 1 1 3 7 hello")
		w.Sent = []impl.Note{n}
	})
	here := impl.Note{From: 1, Num: 2, To: 1, Until: 999, Text: " "}
	w = wantRun(t, w, ownEvent(here), func(w *impl.River) {
		w.Keepers[1] = durableNode(1, "own 1 1 3 7 hello", "own 1 2 1 999  ")
		w.Sent = []impl.Note{n, here}
	})
	other := impl.Note{From: 0, Num: 1, To: 3, Until: 1, Text: alphabet}
	wantRun(t, w, ownEvent(other), func(w *impl.River) {
		w.Keepers[0] = durableNode(0, "own 0 1 3 1 "+alphabet)
		w.Sent = []impl.Note{n, here, other}
	})
	wantRun(t, openRiver(), ownEvent(other), func(w *impl.River) {
		other := other
		other.Num = 2
		w.Keepers[0] = durableNode(0, "own 0 1 3 9 theirs", "let 0 1 9", "own 0 2 3 1 "+alphabet)
		w.Sent = append(w.Sent, other)
	})
}

func TestOwnEventThatIsNotPossible(t *testing.T) {
	e := impl.RiverEvent{Kind: impl.RiverOwn, At: 2, To: 0, Until: 5, Text: "hello"}
	change := func(change func(e *impl.RiverEvent)) impl.RiverEvent {
		e := e
		change(&e)
		return e
	}
	for _, w := range []impl.River{startByHand(), startWith(durableNode(2, "time 4")), openRiver()} {
		doEvents(t, w, e)
		for _, to := range farNodes {
			wantImpossible(t, w, change(func(e *impl.RiverEvent) { e.To = to }))
		}
		for _, until := range append([]int{0, 1000, 1001}, outOfRange...) {
			wantImpossible(t, w, change(func(e *impl.RiverEvent) { e.Until = until }))
		}
		for _, text := range []string{"", alphabet + "y", "\x1f", "\x7f", "a\n", "\u00e4"} {
			wantImpossible(t, w, change(func(e *impl.RiverEvent) { e.Text = text }))
		}
	}
	held := []string{"own 2 1 0 9 a", "own 2 2 0 9 b", "own 2 3 0 9 c", "own 2 4 0 9 d", "own 2 5 0 9 e"}
	doEvents(t, startWith(durableNode(2, held...)), e)
	for _, k := range []impl.Keeper{
		down(impl.KeeperStart(2)), durableNode(2, "time 5"), durableNode(2, "time 999"), durableNode(2, "next 100"), durableNode(2, append(held, "own 2 6 0 9 f")...),
	} {
		wantImpossible(t, startWith(k), e)
	}
}

// P70: the limit of Sent, and of Got.
func TestSentAndGotAreLimited(t *testing.T) {
	back := impl.Note{From: 3, Num: 4, To: 0, Until: 99, Text: "back"}
	own := impl.Note{From: 2, Num: 1, To: 0, Until: 5, Text: "hello"}
	w := startWith(durableNode(0, "take "+wantText(back)))
	for count := range 7 {
		w.Sent, w.Got = slices.Repeat([]impl.Note{plainNote}, count), slices.Repeat([]impl.Note{plainNote}, 6-count)
		if count == 6 {
			wantImpossible(t, w, ownEvent(own))
		} else {
			wantRun(t, w, ownEvent(own), func(w *impl.River) {
				w.Keepers[2] = durableNode(2, "own "+wantText(own))
				w.Sent = append(w.Sent, own)
			})
		}
		if count == 0 {
			wantImpossible(t, w, eatEvent(0, back))
		} else {
			wantRun(t, w, eatEvent(0, back), func(w *impl.River) {
				w.Keepers[0] = durableNode(0, "take "+wantText(back), "eat 3 4 99")
				w.Got = append(w.Got, back)
			})
		}
	}
}

func TestTimeEvent(t *testing.T) {
	for at := range 4 {
		w := wantRun(t, startByHand(), eventAt(impl.RiverTime, at), func(w *impl.River) { w.Keepers[at] = durableNode(at, "time 1") })
		wantRun(t, w, eventAt(impl.RiverTime, at), func(w *impl.River) { w.Keepers[at] = durableNode(at, "time 1", "time 2") })
		doEvents(t, startWith(durableNode(at, "time 998")), eventAt(impl.RiverTime, at))
		wantImpossible(t, startWith(durableNode(at, "time 999")), eventAt(impl.RiverTime, at))
		wantImpossible(t, startWith(down(impl.KeeperStart(at))), eventAt(impl.RiverTime, at))
	}
}

func TestMixEvent(t *testing.T) {
	for _, h := range hops {
		for _, mix := range []int{0, 1, 2, 3, 500, 999} {
			n := impl.Note{From: h.from, Num: 1, To: h.to, Until: 9, Text: "hello world"}
			w := startWith(durableNode(h.from, "own "+wantText(n)))
			piece := parcelOf(pieceByHand(n, h.from, mix))
			if piece.Dst != h.next {
				t.Errorf("by hand %+v goes to node %d, want %d", n, piece.Dst, h.next)
			}
			wantRun(t, w, mixEvent(h.from, n, mix), func(w *impl.River) { w.Radio = []impl.Parcel{piece} })
			for _, count := range []int{1, 28, 29} {
				wantRun(t, withRadio(w, transitOf(count)...), mixEvent(h.from, n, mix), func(w *impl.River) { w.Radio = append(w.Radio, piece) })
			}
			wantRun(t, withRadio(w, transitOf(30)...), mixEvent(h.from, n, mix), func(w *impl.River) {})
		}
	}
}

// Of two frames, only the first one may have room.
func TestFramesWithoutRoomAreLost(t *testing.T) {
	n := impl.Note{From: 2, Num: 1, To: 0, Until: 9, Text: "hello world"}
	start := startWith(durableNode(2, "own "+wantText(n)))
	first, second := parcelOf(pieceByHand(n, 2, 0)), parcelOf(pieceByHand(n, 2, 1))
	for count, want := range map[int][]impl.Parcel{28: {first, second}, 29: {first}, 30: nil} {
		w := doEvents(t, withRadio(start, transitOf(count)...), mixEvent(2, n, 0), mixEvent(2, n, 1))
		if !slices.Equal(w.Radio, append(transitOf(count), want...)) || w.Time != 2 {
			t.Errorf("behind %d elements are %+v, want %+v", count, w.Radio[count:], want)
		}
	}
}

func TestMixEventThatIsNotPossible(t *testing.T) {
	n := impl.Note{From: 1, Num: 3, To: 3, Until: 9, Text: "hello"}
	records := []string{"next 4", "held " + wantText(n)}
	for id := 1; id <= 2; id++ {
		if id == 2 {
			records = []string{"take " + wantText(n)}
		}
		w := startWith(durableNode(id, records...))
		doEvents(t, w, mixEvent(id, n, 0))
		for _, mix := range append([]int{1000, 1001}, outOfRange...) {
			wantImpossible(t, w, mixEvent(id, n, mix))
		}
		for _, from := range append([]int{0, 2, 3}, farNodes...) {
			wantImpossible(t, w, impl.RiverEvent{Kind: impl.RiverMix, At: id, From: from, Num: 3})
		}
		for _, num := range append([]int{0, 1, 2, 4, 99, 100}, outOfRange...) {
			wantImpossible(t, w, impl.RiverEvent{Kind: impl.RiverMix, At: id, From: 1, Num: num})
		}
		for at := range 4 {
			if at != id {
				wantImpossible(t, w, mixEvent(at, n, 0))
			}
		}
		wantImpossible(t, startWith(down(w.Keepers[id])), mixEvent(id, n, 0))
		wantImpossible(t, startWith(durableNode(id, append(records, "let 1 3 9")...)), mixEvent(id, n, 0))
		wantImpossible(t, startWith(durableNode(id, append(records, "time 9")...)), mixEvent(id, n, 0))
	}
	arrived := impl.Note{From: 1, Num: 3, To: 2, Until: 9, Text: "hello"}
	wantImpossible(t, startWith(durableNode(2, "take "+wantText(arrived))), mixEvent(2, arrived, 0))
}

// A message of two blocks goes over a link, and the answer comes back.
func TestBringEvent(t *testing.T) {
	n := impl.Note{From: 1, Num: 1, To: 3, Until: 9, Text: "hello"}
	one, two := pieceByHand(n, 1, 0), pieceByHand(n, 1, 1)
	have := answerTo(two, impl.FrameHave)
	w := withRadio(startWith(durableNode(1, "own "+wantText(n))), parcelOf(one), parcelOf(two))
	w = wantRun(t, w, bringEvent(1, 0), func(w *impl.River) {
		w.Keepers[2].Halves = []impl.Half{halfOf(n, 1)}
		w.Radio = w.Radio[:1]
	})
	w = wantRun(t, w, bringEvent(0, 0), func(w *impl.River) {
		w.Keepers[2] = durableNode(2, "take "+wantText(n))
		w.Radio = []impl.Parcel{parcelOf(have)}
	})
	wantRun(t, w, bringEvent(0, 0), func(w *impl.River) {
		w.Keepers[1] = nodeOf(1, 1, "own "+wantText(n), "let 1 1 9")
		w.Radio = nil
	})
}

// An element stays where it is unless Keep is 0; what is behind it moves up.
func TestBringEventKeepsElements(t *testing.T) {
	n := impl.Note{From: 1, Num: 1, To: 3, Until: 9, Text: "hello world"}
	var list []impl.Parcel
	for mix := range 5 {
		list = append(list, parcelOf(pieceByHand(n, 1, mix)))
	}
	for word := range list {
		change := func(w *impl.River) { w.Keepers[2].Halves = []impl.Half{halfOf(n, word)} }
		for _, keep := range append([]int{1, 2, 255, 256}, outOfRange...) {
			wantRun(t, withRadio(startByHand(), list...), bringEvent(word, keep), change)
		}
		wantRun(t, withRadio(startByHand(), list...), bringEvent(word, 0), func(w *impl.River) {
			change(w)
			w.Radio = slices.Concat(list[:word], list[word+1:])
		})
	}
}

// An answer has room in a full Radio only if the element that it answers is removed.
func TestAnswersWithoutRoomAreLost(t *testing.T) {
	n := impl.Note{From: 1, Num: 1, To: 3, Until: 9, Text: "a"}
	piece := pieceByHand(n, 1, 0)
	have := parcelOf(answerTo(piece, impl.FrameHave))
	for _, count := range []int{0, 1, 27, 28, 29} {
		for _, word := range []int{0, count / 2, count} {
			list := slices.Insert(transitOf(count), word, parcelOf(piece))
			wantRun(t, withRadio(startByHand(), list...), bringEvent(word, 0), func(w *impl.River) {
				w.Keepers[2] = durableNode(2, "take "+wantText(n))
				w.Radio = append(transitOf(count), have)
			})
			wantRun(t, withRadio(startByHand(), list...), bringEvent(word, 1), func(w *impl.River) {
				w.Keepers[2] = durableNode(2, "take "+wantText(n))
				if count < 29 {
					w.Radio = append(w.Radio, have)
				}
			})
		}
	}
}

// What arrives too late is answered by FrameLate; other answers have none.
func TestBringEventAnswers(t *testing.T) {
	n := impl.Note{From: 1, Num: 1, To: 0, Until: 9, Text: "a"}
	piece := pieceByHand(n, 1, 0)
	late := answerTo(piece, impl.FrameLate)
	w := withRadio(startWith(durableNode(0, "time 9"), durableNode(1, "own "+wantText(n))), parcelOf(piece))
	w = wantRun(t, w, bringEvent(0, 0), func(w *impl.River) { w.Radio = []impl.Parcel{parcelOf(late)} })
	wantRun(t, w, bringEvent(0, 0), func(w *impl.River) { w.Radio = nil })
	wantRun(t, w, bringEvent(0, 1), func(w *impl.River) {})
}

// P77: a frame that comes to a node that is not running is gone, and changes nothing else.
func TestBringEventToNodeThatIsNotRunning(t *testing.T) {
	n := impl.Note{From: 1, Num: 1, To: 3, Until: 9, Text: "a"}
	piece := pieceByHand(n, 1, 0)
	w := withRadio(startWith(down(durableNode(2, "time 3"))), parcelOf(piece))
	wantRun(t, w, bringEvent(0, 0), func(w *impl.River) { w.Radio = nil })
	wantRun(t, w, bringEvent(0, 7), func(w *impl.River) {})
}

// An element that is Spoilt may have a frame all the same.
func TestSpoiltElementWithFrame(t *testing.T) {
	n := impl.Note{From: 1, Num: 1, To: 3, Until: 9, Text: "a"}
	p := parcelOf(pieceByHand(n, 1, 0))
	p.Spoilt = true
	wantRun(t, withRadio(startByHand(), p), bringEvent(0, 0), func(w *impl.River) {
		w.Keepers[2] = durableNode(2, "take "+wantText(n))
		w.Radio = []impl.Parcel{parcelOf(answerTo(pieceByHand(n, 1, 0), impl.FrameHave))}
	})
}

// notFrames is bytes that have no frame.
func notFrames() []string {
	payload := framePayload(plainPiece)
	whole := string(withSum(payload))
	list := []string{"", "x", "\x00", strings.Repeat("x", 40), strings.Repeat("\x00", 40), strings.Repeat("\x00", 10), whole + "\x00", whole + whole, "\x00" + whole}
	for size := range len(whole) {
		list = append(list, whole[:size])
	}
	for i := range payload {
		changed := slices.Clone(payload)
		changed[i] = 255
		list = append(list, string(withSum(changed)), string(changed)+whole[len(payload):])
	}
	for _, c := range slices.Concat(misdirectedFrames(), brokenFields(plainHave)) {
		list = append(list, string(withSum(framePayload(c.frame))))
	}
	// A number that is too great for its byte is written as another one, which may be in range.
	return slices.DeleteFunc(list, func(data string) bool {
		_, ok := unpackByHand([]byte(data))
		return ok || len(data) > 40
	})
}

// Bytes that are no frame, or none from Src to Dst, only leave Radio.
func TestElementsWithoutFrame(t *testing.T) {
	w := startWith(durableNode(1, "take 0 3 3 300 hello"), durableNode(2, "time 8"))
	wantLeaves := func(p impl.Parcel) {
		t.Helper()
		wantRun(t, withRadio(w, p), bringEvent(0, 0), func(w *impl.River) { w.Radio = nil })
		wantRun(t, withRadio(w, p), bringEvent(0, 1), func(w *impl.River) {})
	}
	for _, data := range notFrames() {
		for _, spoilt := range []bool{false, true} {
			wantLeaves(impl.Parcel{Src: 1, Dst: 2, Data: data, Spoilt: spoilt})
			wantLeaves(impl.Parcel{Src: 2, Dst: 1, Data: data, Spoilt: spoilt})
		}
	}
	for _, f := range hopFrames() {
		for _, ends := range neighbors {
			if ends != [2]int{f.Src, f.Dst} {
				p := parcelOf(f)
				p.Src, p.Dst = ends[0], ends[1]
				wantLeaves(p)
			}
		}
	}
}

// P72: each element, whether its link is available or not.
func TestLosingFrames(t *testing.T) {
	lost := 0
	for _, w := range sampleRivers() {
		for word := range w.Radio {
			if w.Time == 99999 {
				wantImpossible(t, w, eventOf(impl.RiverLoses, word))
				continue
			}
			lost++
			wantRun(t, w, eventOf(impl.RiverLoses, word), func(w *impl.River) {
				w.Radio = slices.Concat(w.Radio[:word], w.Radio[word+1:])
			})
		}
	}
	for _, h := range allHappenings(t) {
		if h.event.Kind == impl.RiverLoses && h.possible {
			lost++
			want := cloneRiver(h.before)
			want.Time++
			want.Radio = slices.Delete(want.Radio, h.event.Word, h.event.Word+1)
			if !sameRiver(h.after, want) {
				t.Errorf("RiverDo(%+v, %+v) is %+v, want %+v", h.before, h.event, h.after, want)
			}
		}
	}
	if lost < 200 {
		t.Errorf("only %d frames were lost", lost)
	}
}

func TestSpoilEvent(t *testing.T) {
	data := "\x00a\xffz"
	for _, src := range []int{0, 2} {
		list := []impl.Parcel{{Src: 0, Dst: 1, Data: "before"}, {Src: src, Dst: 1, Data: data}, {Src: 0, Dst: 1, Data: "behind"}}
		for _, links := range [][]bool{{true, true, true}, {false, false, false}} {
			w := withRadio(startByHand(), list...)
			w.Links = links
			for mix := range data {
				for _, keep := range []int{1, 2, 127, 128, 254, 255} {
					wantRun(t, w, spoilEvent(1, mix, keep), func(w *impl.River) {
						bytes := []byte(data)
						bytes[mix] ^= byte(keep)
						w.Radio[1].Data, w.Radio[1].Spoilt = string(bytes), true
					})
				}
			}
		}
	}
	for _, size := range []int{1, 10, 17, 40} {
		w := withRadio(startByHand(), impl.Parcel{Src: 0, Dst: 1, Data: strings.Repeat("a", size)})
		wantRun(t, w, spoilEvent(0, 0, 3), func(w *impl.River) {
			w.Radio[0] = impl.Parcel{Src: 0, Dst: 1, Data: "b" + strings.Repeat("a", size-1), Spoilt: true}
		})
		wantRun(t, w, spoilEvent(0, size-1, 3), func(w *impl.River) {
			w.Radio[0] = impl.Parcel{Src: 0, Dst: 1, Data: strings.Repeat("a", size-1) + "b", Spoilt: true}
		})
		wantImpossible(t, w, spoilEvent(0, size, 3), spoilEvent(0, size+1, 3), spoilEvent(0, -1, 3))
	}
}

func TestSpoilEventThatIsNotPossible(t *testing.T) {
	p := impl.Parcel{Src: 3, Dst: 2, Data: "abcd"}
	spoilt := impl.Parcel{Src: 3, Dst: 2, Data: "abcd", Spoilt: true}
	w := withRadio(startByHand(), p, spoilt, impl.Parcel{Src: 3, Dst: 2})
	doEvents(t, w, spoilEvent(0, 0, 1))
	for mix := range 4 {
		for _, keep := range append([]int{0, 256, 257, 511, 512, 1<<32 + 1}, outOfRange...) {
			wantImpossible(t, w, spoilEvent(0, mix, keep))
		}
		for keep := range 257 {
			wantImpossible(t, w, spoilEvent(1, mix, keep))
		}
	}
	for _, mix := range append([]int{4, 5, 40, 256, 1 << 32}, outOfRange...) {
		wantImpossible(t, w, spoilEvent(0, mix, 1), spoilEvent(1, mix, 1))
	}
	wantImpossible(t, w, spoilEvent(2, 0, 1), spoilEvent(2, -1, 1))
	w = doEvents(t, w, spoilEvent(0, 1, 255))
	wantImpossible(t, w, spoilEvent(0, 1, 255), spoilEvent(0, 2, 1))
}

func TestFallEvent(t *testing.T) {
	recs := []string{"own 1 1 3 9 a", "take 0 1 1 9 b", "let 1 1 9"}
	k := nodeOf(1, 1, recs...)
	k.Halves = []impl.Half{halfOf(plainNote, 0)}
	w := startWith(k)
	size := len(logOf(recs...))
	for _, c := range []struct{ keep, left int }{
		{-1000, 1}, {-1, 1}, {0, 1}, {1, 1}, {ends(recs)[2] - ends(recs)[1] - 1, 1}, {ends(recs)[2] - ends(recs)[1], 2},
		{ends(recs)[2] - ends(recs)[1] + 1, 2}, {size - ends(recs)[1], 3}, {size, 3}, {1 << 40, 3},
	} {
		wantRun(t, w, impl.RiverEvent{Kind: impl.RiverFalls, At: 1, Keep: c.keep}, func(w *impl.River) {
			w.Keepers[1] = down(durableNode(1, recs[:c.left]...))
		})
	}
	wantImpossible(t, startWith(down(k)), eventAt(impl.RiverFalls, 1))
	for at := range 4 {
		after := wantRun(t, startByHand(), eventAt(impl.RiverFalls, at), func(w *impl.River) { w.Keepers[at].Up = false })
		wantImpossible(t, after, eventAt(impl.RiverFalls, at))
	}
}

func TestRiseEvent(t *testing.T) {
	for at := range 4 {
		wantImpossible(t, startByHand(), eventAt(impl.RiverRises, at))
		recs := []string{"time 3", "time 4"}
		w := startWith(down(nodeOf(at, 1, recs...)))
		after := wantRun(t, w, eventAt(impl.RiverRises, at), func(w *impl.River) { w.Keepers[at].Up = true })
		wantImpossible(t, after, eventAt(impl.RiverRises, at))
	}
}

func TestLinkEvents(t *testing.T) {
	for bits := range 8 {
		w := startByHand()
		for link := range 3 {
			w.Links[link] = bits>>link&1 == 1
		}
		for link := range 3 {
			opens, closes := eventAt(impl.RiverOpens, link), eventAt(impl.RiverCloses, link)
			if w.Links[link] {
				wantImpossible(t, w, opens)
				wantRun(t, w, closes, func(w *impl.River) { w.Links[link] = false })
			} else {
				wantRun(t, w, opens, func(w *impl.River) { w.Links[link] = true })
				wantImpossible(t, w, closes)
			}
		}
	}
}

func TestEatEvent(t *testing.T) {
	b := impl.Note{From: 0, Num: 2, To: 2, Until: 9, Text: "b"}
	old := impl.Note{From: 3, Num: 1, To: 2, Until: 5, Text: "old"}
	recs := []string{"take 3 1 2 5 old", "take 0 1 2 9 a", "take 0 2 2 9 b", "take 0 3 3 9 held", "time 7"}
	k := durableNode(2, recs...)
	w := startWith(k)
	for _, n := range []impl.Note{b, old} {
		after := wantRun(t, w, eatEvent(2, n), func(w *impl.River) {
			w.Keepers[2] = durableNode(2, append(recs, "eat "+markWords(markOf(n)))...)
			w.Got = []impl.Note{n}
		})
		wantImpossible(t, after, eatEvent(2, n))
	}
	for _, from := range append([]int{1, 2}, farNodes...) {
		wantImpossible(t, w, impl.RiverEvent{Kind: impl.RiverEats, At: 2, From: from, Num: 1})
	}
	for _, num := range append([]int{0, 3, 4, 99, 100}, outOfRange...) {
		wantImpossible(t, w, impl.RiverEvent{Kind: impl.RiverEats, At: 2, From: 0, Num: num})
	}
	wantImpossible(t, w, eatEvent(0, b), eatEvent(1, b), eatEvent(3, b))
	wantImpossible(t, startWith(down(k)), eatEvent(2, b))
}

func TestPackEvent(t *testing.T) {
	recs := []string{"own 1 1 3 9 a", "take 0 1 1 9 b", "let 1 1 9", "eat 0 1 9", "time 1", "time 2"}
	for durable := range len(recs) + 1 {
		w := startWith(nodeOf(1, durable, recs...))
		packed := wantRun(t, w, eventAt(impl.RiverPacks, 1), func(w *impl.River) {
			w.Keepers[1] = durableNode(1, "time 2", "next 2", "mark 0 1 9", "mark 1 1 9")
		})
		wantRun(t, packed, eventAt(impl.RiverPacks, 1), func(w *impl.River) {})
		wantImpossible(t, startWith(down(w.Keepers[1])), eventAt(impl.RiverPacks, 1))
	}
	for at := range 4 {
		wantRun(t, startByHand(), eventAt(impl.RiverPacks, at), func(w *impl.River) {})
	}
}

func TestForceEvent(t *testing.T) {
	recs := []string{"own 1 1 3 9 a", "let 1 1 9"}
	for durable := range len(recs) {
		w := startWith(nodeOf(1, durable, recs...))
		forced := wantRun(t, w, eventAt(impl.RiverForces, 1), func(w *impl.River) { w.Keepers[1] = durableNode(1, recs...) })
		wantImpossible(t, forced, eventAt(impl.RiverForces, 1))
		wantImpossible(t, startWith(down(w.Keepers[1])), eventAt(impl.RiverForces, 1))
	}
	for at := range 4 {
		wantImpossible(t, startByHand(), eventAt(impl.RiverForces, at))
	}
}

// P70: at the last time nothing happens any more, and just before it all that is possible at other times.
func TestLastTime(t *testing.T) {
	possible := map[int]int{}
	for _, w := range []impl.River{openRiver(), plainRiver()} {
		for _, e := range sampleEvents(w) {
			usual := happen(t, w, e)
			late := cloneRiver(w)
			late.Time = impl.RiverMaxTime - 1
			h := happen(t, late, e)
			if h.possible != usual.possible || h.possible && h.after.Time != impl.RiverMaxTime {
				t.Errorf("RiverDo(%+v, %+v) is %+v, %v", late, e, h.after, h.possible)
			}
			late.Time = impl.RiverMaxTime
			wantImpossible(t, late, e)
			if usual.possible {
				possible[e.Kind]++
			}
		}
	}
	if len(possible) != 13 {
		t.Errorf("only these kinds were possible: %v", possible)
	}
}

// P70: an invalid run is answered by the zero value, whatever is to happen there.
func TestEventsInInvalidRuns(t *testing.T) {
	events := []impl.RiverEvent{
		{}, {Kind: 14}, eventAt(impl.RiverTime, 0), ownEvent(impl.Note{From: 0, To: 3, Until: 900, Text: "x"}), {Kind: impl.RiverMix, At: 1, From: 1, Num: 2},
		bringEvent(0, 0), bringEvent(1, 1), eventOf(impl.RiverLoses, 2), spoilEvent(0, 1, 1), eventAt(impl.RiverFalls, 1), eventAt(impl.RiverRises, 2),
		eventAt(impl.RiverOpens, 1), eventAt(impl.RiverCloses, 0), {Kind: impl.RiverEats, At: 1, From: 0, Num: 3}, eventAt(impl.RiverPacks, 1), eventAt(impl.RiverForces, 1),
	}
	for _, change := range []func(w *impl.River){
		func(w *impl.River) { w.Time = -1 },
		func(w *impl.River) { w.Time = 100000 },
		func(w *impl.River) { w.Keepers = nil },
		func(w *impl.River) { w.Keepers = w.Keepers[:3] },
		func(w *impl.River) { w.Keepers = append(w.Keepers, impl.KeeperStart(3)) },
		func(w *impl.River) { w.Keepers[0], w.Keepers[1] = w.Keepers[1], w.Keepers[0] },
		func(w *impl.River) { w.Keepers[3].Shelf.Forced = 1 },
		func(w *impl.River) { w.Keepers[3].Halves[0].Size = 0 },
		func(w *impl.River) { w.Keepers[2].Halves = []impl.Half{halfOf(plainNote, 0)} },
		func(w *impl.River) { w.Links = nil },
		func(w *impl.River) { w.Links = w.Links[:2] },
		func(w *impl.River) { w.Links = append(w.Links, true) },
		func(w *impl.River) { w.Radio = slices.Repeat(w.Radio[:1], 31) },
		func(w *impl.River) { w.Radio[3].Dst = 2 },
		func(w *impl.River) { w.Radio[3].Src = -1 },
		func(w *impl.River) { w.Radio[3].Data = strings.Repeat("x", 41) },
		func(w *impl.River) { w.Sent = slices.Repeat(w.Sent[:1], 7) },
		func(w *impl.River) { w.Sent[2].Until = 0 },
		func(w *impl.River) { w.Got = slices.Repeat(w.Got[:1], 7) },
		func(w *impl.River) { w.Got[1].Text = "" },
		func(w *impl.River) { *w = impl.River{} },
	} {
		w := changedRiver(change)
		if len(riverFaults(w)) == 0 {
			t.Errorf("%+v is valid by hand", w)
		}
		for _, e := range events {
			if after, ok := answeredEvent(t, w, e); ok || !sameRiver(after, impl.River{}) {
				t.Errorf("RiverDo(%+v, %+v) is %+v, %v", w, e, after, ok)
			}
		}
	}
}

// P73: any byte of any kind of frame becomes any other one.
func TestCorruptedFrames(t *testing.T) {
	n := impl.Note{From: 1, Num: 1, To: 3, Until: 9, Text: "a"}
	w := startWith(durableNode(1, "own "+wantText(n)), durableNode(2, "time 3"))
	piece := pieceByHand(n, 1, 0)
	frames := []impl.Frame{piece, answerTo(piece, impl.FrameHave), answerTo(piece, impl.FrameLate)}
	for word, f := range frames {
		w.Radio = append(w.Radio, parcelOf(f))
		for mix := range len(w.Radio[word].Data) {
			for keep := 1; keep <= 255; keep++ {
				start := withRadio(w, w.Radio[word])
				spoilt, _ := impl.RiverDo(start, spoilEvent(0, mix, keep))
				after, ok := impl.RiverDo(spoilt, bringEvent(0, keep%2))
				want := cloneRiver(spoilt)
				want.Time = 2
				want.Radio = want.Radio[:keep%2]
				if !ok || !slices.EqualFunc(after.Keepers, start.Keepers, sameKeeper) || !sameRiver(after, want) {
					t.Fatalf("byte %d of %+v changed by %d leads to %+v", mix, f, keep, after)
				}
			}
		}
	}
}

// P73: in runs in which much has happened.
func TestCorruptedFramesAnywhere(t *testing.T) {
	r := rand.New(rand.NewPCG(73, 74))
	for i, h := range allHappenings(t) {
		w := h.after
		if i%3 > 0 || len(w.Radio) == 0 || w.Time > 99990 {
			continue
		}
		word := r.IntN(len(w.Radio))
		if w.Radio[word].Spoilt || len(w.Radio[word].Data) == 0 {
			continue
		}
		spoilt, _ := impl.RiverDo(w, spoilEvent(word, r.IntN(len(w.Radio[word].Data)), 1+r.IntN(255)))
		after, _ := impl.RiverDo(spoilt, bringEvent(word, 0))
		if !slices.EqualFunc(after.Keepers, w.Keepers, sameKeeper) || len(after.Radio) > len(w.Radio) {
			t.Errorf("%+v becomes %+v, and then %+v", w, spoilt, after)
		}
	}
}

// P74: each frame over each link, in both directions.
func TestNothingArrivesOverUnavailableLinks(t *testing.T) {
	for _, h := range hops {
		n := impl.Note{From: h.from, Num: 1, To: h.to, Until: 9, Text: "a"}
		piece := pieceByHand(n, h.from, 0)
		link := linkBetween[[2]int{h.from, h.next}]
		for bits := range 8 {
			w := startWith(durableNode(h.from, "own "+wantText(n)))
			w.Radio = []impl.Parcel{parcelOf(piece), parcelOf(answerTo(piece, impl.FrameHave)), {Src: h.from, Dst: h.next, Data: "no frame"}}
			for i := range w.Links {
				w.Links[i] = bits>>i&1 == 1
			}
			for word := range w.Radio {
				if w.Links[link] {
					doEvents(t, w, bringEvent(word, 0))
					doEvents(t, w, bringEvent(word, 1))
				} else {
					wantImpossible(t, w, bringEvent(word, 0), bringEvent(word, 1))
				}
			}
		}
	}
}

// P74: a frame waits until its link is available, and others pass it.
func TestFramesWaitForTheirLinks(t *testing.T) {
	n := impl.Note{From: 1, Num: 1, To: 3, Until: 9, Text: "a"}
	other := impl.Note{From: 1, Num: 2, To: 0, Until: 9, Text: "b"}
	w := doEvents(t, startByHand(), ownEvent(n), ownEvent(other), mixEvent(1, n, 0), mixEvent(1, other, 0), eventAt(impl.RiverCloses, 1))
	wantImpossible(t, w, bringEvent(0, 0), bringEvent(0, 1))
	w = doEvents(t, w, bringEvent(1, 0))
	wantImpossible(t, w, bringEvent(0, 0))
	w = doEvents(t, w, bringEvent(1, 0), eventAt(impl.RiverOpens, 1), bringEvent(0, 0))
	wantThere(t, w.Keepers[2], n)
	wantThere(t, w.Keepers[0], other)
}

// P74: in runs in which much has happened.
func TestNothingArrivesOverUnavailableLinksAnywhere(t *testing.T) {
	unavailable := 0
	for i, h := range allHappenings(t) {
		for word, p := range h.after.Radio {
			if (i+word)%29 == 0 && !h.after.Links[linkBetween[[2]int{p.Src, p.Dst}]] {
				unavailable++
				wantImpossible(t, h.after, bringEvent(word, 0), bringEvent(word, 1))
			}
		}
	}
	if unavailable < 300 {
		t.Errorf("only %d links were not available", unavailable)
	}
}

// wantBroughtOnce wants a frame that arrives twice to have the effect of one that arrives once.
// A message that decodes but cannot be taken starts anew by its second frame; what the node has is the same.
func wantBroughtOnce(t *testing.T, w impl.River, word int) {
	t.Helper()
	once := happen(t, w, bringEvent(word, 0)).after
	first := happen(t, w, bringEvent(word, 1)).after
	twice := happen(t, first, bringEvent(word, 0)).after
	dst := w.Radio[word].Dst
	for id, k := range once.Keepers {
		other := twice.Keepers[id]
		dropped := id == dst && len(k.Halves) < len(w.Keepers[id].Halves) && k.Shelf == w.Keepers[id].Shelf
		if k.Shelf != other.Shelf || !sameKeep(stateOf(k), stateOf(other)) || !sameKeeper(k, other) && !dropped {
			t.Errorf("element %d of %+v makes node %d %+v, and %+v if it arrives twice", word, w, id, k, other)
		}
	}
	if !slices.Equal(once.Sent, twice.Sent) || !slices.Equal(once.Got, twice.Got) || !slices.Equal(once.Links, twice.Links) || len(twice.Radio) > 30 {
		t.Errorf("element %d of %+v leads to %+v, and %+v if it arrives twice", word, w, once, twice)
	}
	if !slices.Equal(once.Radio, twice.Radio[:len(once.Radio)]) && len(first.Radio) < 30 {
		t.Errorf("element %d of %+v is answered %+v, and then %+v", word, w, once.Radio, twice.Radio)
	}
}

// P75
func TestFramesBroughtTwice(t *testing.T) {
	brought := 0
	for i, h := range allHappenings(t) {
		if h.event.Kind == impl.RiverBrings && h.possible && h.before.Time < 99990 && i%2 == 0 {
			brought++
			wantBroughtOnce(t, h.before, h.event.Word)
		}
	}
	if brought < 500 {
		t.Errorf("only %d frames were brought twice", brought)
	}
	for _, h := range hops {
		n := impl.Note{From: h.from, Num: 1, To: h.to, Until: 9, Text: "a"}
		piece := pieceByHand(n, h.from, 0)
		w := startWith(durableNode(h.from, "own "+wantText(n)))
		w.Radio = []impl.Parcel{parcelOf(piece), parcelOf(answerTo(piece, impl.FrameHave)), parcelOf(answerTo(piece, impl.FrameLate))}
		for word := range w.Radio {
			wantBroughtOnce(t, w, word)
		}
	}
}
