package tests

import (
	"fmt"
	"math"
	"slices"
	"strings"
	"testing"

	"loop.example/bargeman/impl"
)

func TestStillRuns(t *testing.T) {
	wantStill(t, startByHand())
	here := impl.Note{From: 2, Num: 1, To: 2, Until: 9, Text: "here"}
	wantStill(t, sentTo(here))
	arrived := startWith(nodeOf(3, 0, "take "+wantText(far)), durableNode(2, "own "+wantText(here), "eat 2 1 9"))
	arrived.Got, arrived.Time = []impl.Note{here, back}, 99999
	arrived.Keepers[1].Halves = []impl.Half{halfOf(far, 1, 2)}
	wantStill(t, arrived) // what is not safe may be still
	wantSafe(t, arrived, "got not sent", "inbox not sent")
}

// One thing alone keeps a run from being still.
func TestOneThingThatIsNotStill(t *testing.T) {
	for _, w := range []impl.River{startByHand(), withClock(sentTo(far), 1, 9)} {
		wantStill(t, w)
		for _, p := range []impl.Parcel{{Src: 0, Dst: 1}, {Src: 3, Dst: 2, Data: "no frame", Spoilt: true}, parcelOf(pieceByHand(far, 0, 0))} {
			wantStill(t, withRadio(w, p), "transit")
		}
		wantStill(t, withRadio(w, transitOf(30)...), "transit")
		for id := range 4 {
			fallen := cloneRiver(w)
			fallen.Keepers[id] = down(fallen.Keepers[id])
			wantStill(t, fallen, "down")
		}
		for link := range 3 {
			closed := cloneRiver(w)
			closed.Links[link] = false
			wantStill(t, closed, "link")
		}
		all := cloneRiver(w)
		all.Links, all.Radio = []bool{false, false, false}, transitOf(1)
		for id := range all.Keepers {
			all.Keepers[id] = down(all.Keepers[id])
		}
		wantStill(t, all, "down", "link", "transit")
	}
}

// The next node alone decides, by its time at Until and one below it.
func TestStillByTheTimeOfTheNextNode(t *testing.T) {
	for from := range 4 {
		for to := range 4 {
			n := impl.Note{From: from, Num: 1, To: to, Until: 7, Text: "a"}
			for _, at := range nodesOnWay(n) {
				if at == to {
					continue
				}
				next := way(t, at, to)[1]
				for id := range 4 {
					for _, time := range []int{0, 5, 6, 7, 8, 999} {
						w := withClock(startByHand(), id, time)
						w.Keepers[at] = durableNode(at, append([]string{"next 2", "held " + wantText(n)}, recordsOf(w.Keepers[at])...)...)
						var faults []string
						if isGone := id == at && time >= 7; !isGone && (id != next || time < 7) {
							faults = []string{"offer"}
						}
						wantStill(t, w, faults...)
					}
				}
			}
		}
	}
}

// Each message at each node must have expired at the next one.
func TestStillWithManyMessages(t *testing.T) {
	for id := range 4 {
		var recs []string
		for num := 1; num <= 6; num++ {
			to := []int{3, 0}[num%2]
			if to == id {
				to = 1
			}
			recs = append(recs, fmt.Sprintf("own %d %d %d %d a", id, num, to, 10+num))
		}
		w := startWith(durableNode(id, recs...))
		for other := range 4 {
			if other != id {
				w = withClock(w, other, 16)
			}
		}
		wantStill(t, w)
		for num := 1; num <= 6; num++ {
			longer := slices.Clone(recs)
			longer[num-1] = strings.Replace(longer[num-1], fmt.Sprint(10+num, " a"), "17 a", 1)
			one := cloneRiver(w)
			one.Keepers[id] = durableNode(id, longer...)
			wantStill(t, one, "offer")
			one.Keepers[id] = nodeOf(id, 6, append(longer, fmt.Sprintf("let %d %d 17", id, num))...)
			wantStill(t, one) // by all records, it is not held any more
		}
	}
}

func TestStillIsAsByHandOnTheWalks(t *testing.T) {
	seen := map[string]int{}
	for _, w := range sampleRuns(t, 5) {
		w = cloneRiver(w)
		wantStill(t, w, stillFaults(w)...)
		w.Radio = nil
		wantStill(t, w, stillFaults(w)...)
		w.Links = []bool{true, true, true}
		wantStill(t, w, stillFaults(w)...)
		for id := range w.Keepers {
			w.Keepers[id].Up = true
		}
		faults := stillFaults(w)
		wantStill(t, w, faults...)
		seen[fmt.Sprint(faults)]++
	}
	if len(seen) != 2 || seen["[]"] < 50 || seen["[offer]"] < 50 {
		t.Errorf("the walks lead to %v", seen)
	}
}

func TestInvalidRunsAreNotStill(t *testing.T) {
	for _, c := range brokenRuns() {
		w := startByHand()
		c.change(&w)
		if len(riverFaults(w)) == 0 {
			t.Errorf("%s is valid", c.what)
		}
		wantStill(t, w, "run")
	}
}

func TestCalmOfInvalidRuns(t *testing.T) {
	for _, c := range brokenRuns() {
		for _, w := range []impl.River{startByHand(), sentTo(far)} {
			c.change(&w)
			for _, rounds := range []int{-1, 0, 1, 4, 20, 21} {
				argument := roomyRiver(w)
				if after := impl.RiverCalm(argument, rounds); !sameRiver(after, impl.River{}) {
					t.Errorf("RiverCalm of %s is %+v", c.what, after)
				}
				if !isUntouchedRiver(argument, w) {
					t.Errorf("RiverCalm of %s changes its argument", c.what)
				}
			}
		}
	}
}

// P89, P90: from each of many steps of the walks on.
func TestFourQuietRoundsBringEverything(t *testing.T) {
	seen := map[string]int{}
	for _, w := range sampleRuns(t, 8) {
		after := calmed(t, w, 4)
		wantStill(t, after)
		wantSafe(t, after)
		for _, n := range after.Sent {
			switch {
			case hasArrivedByHand(w, n):
				seen["had arrived"]++
			case hasArrivedByHand(after, n):
				seen["arrives"]++
			case isExpiredOnWay(after, n):
				seen["expired"]++
			default:
				t.Errorf("four quiet rounds make %+v of %+v, where %+v has not arrived", after, w, n)
			}
		}
		for _, p := range placesOf(after, heldOf) {
			seen["still held"]++
			if !isExpiredOnWay(after, p.note) {
				t.Errorf("four quiet rounds make %+v of %+v", after, w)
			}
		}
	}
	for _, what := range []string{"had arrived", "arrives", "expired", "still held"} {
		if seen[what] < 50 {
			t.Errorf("%q was seen %d times", what, seen[what])
		}
	}
}

// P91: between all nodes, behind anything; one round for each link suffices, and forward one for all of them.
func TestMessageInAQuietPeriod(t *testing.T) {
	runs := append(sampleRuns(t, 80), startByHand())
	for _, w := range runs {
		quiet := impl.RiverCalm(w, 4)
		latest := 0
		for _, k := range quiet.Keepers {
			latest = max(latest, stateOf(k).Time)
		}
		for from := range 4 {
			for to := range 4 {
				n := impl.Note{From: from, Num: stateOf(quiet.Keepers[from]).Next, To: to, Until: latest + 1, Text: alphabet}
				sent, ok := impl.RiverDo(quiet, ownEvent(n))
				if ok == (len(quiet.Sent) == 6) {
					t.Fatalf("%+v is possible in %+v: %v", n, quiet, ok)
				}
				if !ok {
					continue
				}
				after := impl.RiverCalm(sent, 4)
				if !hasArrivedByHand(after, n) || !impl.RiverStill(after) {
					t.Errorf("%+v does not arrive in %+v", n, after)
				}
				if distance(from, to) == 3 || len(w.Sent) == 0 {
					calmed(t, sent, 4)
				}
			}
		}
	}
}

// A quiet round takes a message as far as nodes in order do: to a higher node in one round, to a lower one by one link.
func TestRoundsThatAMessageNeeds(t *testing.T) {
	for from := range 4 {
		for to := range 4 {
			n := impl.Note{From: from, Num: 1, To: to, Until: 9, Text: "hello"}
			need := max(0, from-to)
			if from < to {
				need = 1
			}
			for rounds := range 5 {
				after := calmed(t, sentTo(n), rounds)
				if hasArrivedByHand(after, n) != (rounds >= need) {
					t.Errorf("after %d rounds, %+v leads to %+v", rounds, n, after)
				}
				if rounds > 0 && rounds < need {
					wantThere(t, after.Keepers[from-rounds], n)
				}
			}
		}
	}
}

// All events of one quiet round, as they stand in the logs and in the time.
func TestOneQuietRound(t *testing.T) {
	w := sentTo(far)
	w.Links[1] = false
	w.Keepers[2] = down(w.Keepers[2])
	after := calmed(t, w, 1)
	want := startWith(nodeOf(0, 1, "own "+wantText(far), "let 0 1 9"), nodeOf(1, 1, "take "+wantText(far), "let 0 1 9"), nodeOf(2, 1, "take "+wantText(far), "let 0 1 9"), durableNode(3, "take "+wantText(far)))
	want.Sent = []impl.Note{far}
	want.Time = 1 + 1 + 3*(2*4+1) // a link, a node, and for each link: offer and deliver each of four blocks, deliver the answer
	if !sameRiver(after, want) {
		t.Errorf("a quiet round makes %+v of %+v, want %+v", after, w, want)
	}
	want.Time = 4 + 3
	want.Keepers = startByHand().Keepers
	want.Sent = nil
	w = startByHand()
	w.Links = []bool{false, false, false}
	for id := range w.Keepers {
		w.Keepers[id] = down(w.Keepers[id])
	}
	if after := calmed(t, w, 1); !sameRiver(after, want) {
		t.Errorf("a quiet round makes %+v of %+v, want %+v", after, w, want)
	}
}

// Messages of one node are offered in order, and their blocks too: the next node takes them in order.
func TestOrderOfOffers(t *testing.T) {
	var notes []impl.Note
	for num := 1; num <= 3; num++ {
		notes = append(notes, impl.Note{From: 2, Num: num, To: 0, Until: 9, Text: alphabet[:9*num%25]})
	}
	other := impl.Note{From: 3, Num: 1, To: 0, Until: 9, Text: "other"}
	w := sentTo(append(notes, other)...)
	w.Keepers[2] = durableNode(2, append([]string{"take " + wantText(other)}, recordsOf(w.Keepers[2])...)...)
	after := calmed(t, w, 1)
	var want []string
	for _, n := range append(notes, other) {
		want = append(want, "take "+wantText(n))
	}
	if recs := recordsOf(after.Keepers[1]); !slices.Equal(recs, want) {
		t.Errorf("node 1 logs %q, want %q", recs, want)
	}
}

// stuckRun is a run in which a message is offered in each round, for nothing: it has expired where it would come next.
func stuckRun() impl.River {
	return withClock(sentTo(far), 1, 9)
}

// roundOfStuckRun is by how much a round makes the time of a stuck run greater: four blocks are offered and delivered, as their answers are.
const roundOfStuckRun = 12

func TestOfferedForNothing(t *testing.T) {
	w := stuckRun()
	for _, rounds := range []int{math.MinInt, -21, -1, 0, 1, 2, 3, 4, 19, 20, 21, 22, 40, 1000, math.MaxInt} {
		after := calmed(t, w, rounds)
		want := cloneRiver(w)
		want.Time = roundOfStuckRun * min(max(rounds, 0), 20)
		if !sameRiver(after, want) {
			t.Errorf("%d rounds make %+v of %+v, want %+v", rounds, after, w, want)
		}
	}
}

// No round begins at RiverMaxTime-20000 or later; one that began is not cut off.
func TestTimeOfQuietRounds(t *testing.T) {
	for _, time := range []int{0, 79974, 79975, 79986, 79987, 79988, 79997, 79998, 79999, 80000, 80001, 99998, 99999} {
		for _, rounds := range []int{0, 1, 2, 3, 20, 21} {
			w := stuckRun()
			w.Time = time
			want := cloneRiver(w)
			for range min(rounds, 20) {
				if want.Time <= 79998 {
					want.Time += roundOfStuckRun
				}
			}
			if after := calmed(t, w, rounds); !sameRiver(after, want) {
				t.Errorf("%d rounds make %+v of %+v, want %+v", rounds, after, w, want)
			}
		}
	}
	for _, time := range []int{79997, 79998, 79999, 80000} {
		w := sentTo(far)
		w.Time = time
		w.Links[2] = false
		w.Keepers[1] = down(w.Keepers[1])
		after := calmed(t, w, 4)
		if impl.RiverStill(after) != (time < 79999) || sameRiver(after, w) != (time >= 79999) {
			t.Errorf("from the time %d on, four rounds lead to %+v", time, after)
		}
	}
}

// Where nothing can happen, time does not advance, and no round is the last one.
func TestQuietRoundsOfNothing(t *testing.T) {
	for _, time := range []int{0, 5, 79998, 79999, 80000, 99999} {
		w := startByHand()
		w.Time = time
		for _, rounds := range []int{-1, 0, 1, 20, 21} {
			if after := calmed(t, w, rounds); !sameRiver(after, w) {
				t.Errorf("%d rounds make %+v of %+v", rounds, after, w)
			}
		}
	}
}

// What is in transit at first is delivered, the first element first; what is no frame is removed.
func TestFramesInTransitAtFirst(t *testing.T) {
	for _, data := range notFrames() {
		w := withRadio(sentTo(far), impl.Parcel{Src: 0, Dst: 1, Data: data})
		if after := calmed(t, w, 1); len(after.Radio) > 0 || after.Time != 1+27 || !hasArrivedByHand(after, far) {
			t.Errorf("%q in transit leads to %+v", data, after)
		}
	}
	jam := withRadio(sentTo(far), transitOf(30)...)
	if after := calmed(t, jam, 1); after.Time != 30+27 || len(after.Radio) > 0 {
		t.Errorf("a jam leads to %+v", after)
	}
	var pieces []impl.Parcel
	for range 30 {
		pieces = append(pieces, parcelOf(pieceByHand(far, 0, 0)))
	}
	late := withRadio(stuckRun(), pieces...)
	if after := calmed(t, late, 1); after.Time != 60+roundOfStuckRun || len(after.Radio) > 0 {
		t.Errorf("30 late pieces lead to %+v", after)
	}
	late = withRadio(withClock(startByHand(), 1, 9), pieces...)
	if after := calmed(t, late, 1); after.Time != 60 || len(after.Radio) > 0 {
		t.Errorf("30 late pieces lead to %+v where nothing is held", after)
	}
}

// Delivered in order: of a message whose blocks contradict each other, the first ones that decode it decide.
func TestOrderOfFramesInTransit(t *testing.T) {
	n, other := far, far
	n.Text, other.Text = "hello", "jolly"
	pieces := []impl.Parcel{parcelOf(pieceByHand(n, 0, 0)), parcelOf(pieceByHand(other, 0, 1)), parcelOf(pieceByHand(n, 0, 1)), parcelOf(pieceByHand(other, 0, 0))}
	for _, order := range permutations([]int{0, 1, 2, 3}) {
		w := startWith(durableNode(0, "own "+wantText(n)))
		w.Links[0] = false
		for _, place := range order {
			w.Radio = append(w.Radio, pieces[place])
		}
		calmed(t, w, 1)
	}
}

// A node offers what it holds when its turn comes, also what came in the same round.
func TestMessageThatComesInTheSameRound(t *testing.T) {
	w := startWith(durableNode(0, "own "+wantText(far), "let 0 1 9"))
	w.Sent = []impl.Note{far}
	w.Keepers[2].Halves = []impl.Half{halfOf(far, 0, 1, 2)}
	w.Radio = []impl.Parcel{parcelOf(pieceByHand(far, 1, 3))}
	if after := calmed(t, w, 1); !hasArrivedByHand(after, far) {
		t.Errorf("a message that comes first leads to %+v", after)
	}
}

// A message that decodes before all its blocks were offered is released, and no further block is offered.
func TestFewBlocksSuffice(t *testing.T) {
	w := sentTo(far)
	w.Keepers[1].Halves = []impl.Half{halfOf(far, 2, 3)}
	if after := calmed(t, w, 1); after.Time != (2*2+1)+2*(2*4+1) {
		t.Errorf("a message of which half has come leads to %+v", after)
	}
}

// sampleCalms is runs of all kinds, also such as no events lead to.
func sampleCalms(t *testing.T) []impl.River {
	t.Helper()
	return slices.Concat(sampleRivers(), sampleRuns(t, 100), []impl.River{stuckRun(), sentTo(far, back)})
}

func TestNumbersOfRounds(t *testing.T) {
	for _, w := range sampleCalms(t) {
		for _, rounds := range []int{-1, 0, 1, 2, 20, 21} {
			calmed(t, w, rounds)
		}
	}
}

// P94
func TestOneRoundMore(t *testing.T) {
	late := stuckRun()
	late.Time = 79999 - 5*roundOfStuckRun
	for _, w := range append(sampleCalms(t), late) {
		for rounds := range impl.RiverMaxCalm {
			first := impl.RiverCalm(w, rounds)
			if both, want := impl.RiverCalm(first, 1), impl.RiverCalm(w, rounds+1); !sameRiver(both, want) {
				t.Errorf("%d rounds and one more make %+v of %+v, want %+v", rounds, both, w, want)
			}
		}
		if !sameRiver(impl.RiverCalm(w, 21), impl.RiverCalm(w, 20)) {
			t.Errorf("21 rounds of %+v are not 20", w)
		}
	}
}

// P95
func TestQuietRoundsOfAStillRun(t *testing.T) {
	stuck := 0
	still := []impl.River{startByHand(), stuckRun(), sentTo(impl.Note{From: 2, Num: 1, To: 2, Until: 9, Text: "here"})}
	for _, w := range sampleRuns(t, 20) {
		still = append(still, impl.RiverCalm(w, 4))
	}
	for _, w := range still {
		wantStill(t, w)
		for _, rounds := range []int{1, 2, 20} {
			after := impl.RiverCalm(w, rounds)
			for id, k := range after.Keepers {
				if was := w.Keepers[id]; !sameKeep(stateOf(k), stateOf(was)) || k.Shelf.Log != was.Shelf.Log {
					t.Errorf("%d quiet rounds make node %d %+v of %+v", rounds, id, k, was)
				}
			}
			wantStill(t, after)
			stuck += after.Time - w.Time
		}
	}
	if stuck < 100 {
		t.Errorf("only %d events happened in still runs", stuck)
	}
}

// bringAll delivers all that is in transit, the first element first.
func bringAll(w impl.River) impl.River {
	for ok := true; ok; {
		w, ok = impl.RiverDo(w, bringEvent(0, 0))
	}
	return w
}

// P92: everything that ever was in transit, and not only what was at the end.
func TestWhatWasReleasedIsNotAcceptedAgain(t *testing.T) {
	marked, brought := 0, 0
	for _, steps := range sampleWalks(t) {
		var old []impl.Parcel
		for i, h := range steps {
			if h.event.Kind == impl.RiverMix && h.possible && len(h.after.Radio) > len(h.before.Radio) {
				old = append(old, h.after.Radio[len(h.before.Radio)])
			}
			if i%20 != 19 {
				continue
			}
			quiet := impl.RiverCalm(h.after, 4)
			for _, transit := range [][]impl.Parcel{h.after.Radio, old[max(0, len(old)-30):], old[:min(30, len(old))]} {
				again := bringAll(withRadio(quiet, transit...))
				brought += again.Time - quiet.Time
				wantSafe(t, again)
				for id, k := range again.Keepers {
					held := namesOf(stateOf(k).Held)
					for _, m := range stateOf(quiet.Keepers[id]).Marks {
						marked++
						if held[name{m.From, m.Num}] > 0 {
							t.Errorf("node %d holds %+v again: %+v", id, m, k)
						}
					}
				}
			}
		}
	}
	if marked < 500 || brought < 500 {
		t.Errorf("only %d marks were seen, and %d frames brought", marked, brought)
	}
}

// P92: a message from end to end, all of whose frames come again.
func TestWholeMessageComesAgain(t *testing.T) {
	w := sentTo(far)
	for at := range 3 {
		for block := range 4 {
			w.Radio = append(w.Radio, parcelOf(pieceByHand(far, at, block)))
		}
	}
	quiet := impl.RiverCalm(w, 4)
	for _, crash := range [][]int{nil, {1}, {3}, {0, 1, 2, 3}} {
		again := quiet
		for _, id := range crash {
			again = doEvents(t, again, eventAt(impl.RiverFalls, id), eventAt(impl.RiverRises, id))
		}
		for _, taken := range []bool{false, true} {
			if taken {
				again = doEvents(t, again, eatEvent(3, far))
			}
			after := bringAll(withRadio(again, w.Radio...))
			wantSafe(t, after)
			if !hasArrivedByHand(after, far) || len(stateOf(after.Keepers[3]).Inbox) == len(after.Got) {
				t.Errorf("%+v leads to %+v", far, after)
			}
		}
	}
}

// P93: in the quiet period, before it and behind it; also what a round has left not durable.
func TestDurableNodeSurvivesACrashInAQuietPeriod(t *testing.T) {
	forced := 0
	for _, w := range sampleRuns(t, 40) {
		for rounds := range 5 {
			quiet := impl.RiverCalm(w, rounds)
			for id := range 4 {
				if !quiet.Keepers[id].Up {
					continue
				}
				durable, ok := impl.RiverDo(quiet, eventAt(impl.RiverForces, id))
				if ok {
					forced++
				}
				for _, keep := range []int{-1, 0, 5, 2400} {
					fallen, _ := impl.RiverDo(durable, impl.RiverEvent{Kind: impl.RiverFalls, At: id, Keep: keep})
					risen, possible := impl.RiverDo(fallen, eventAt(impl.RiverRises, id))
					if !possible || !sameKeep(stateOf(risen.Keepers[id]), stateOf(quiet.Keepers[id])) {
						t.Errorf("node %d is %+v behind a crash, want %+v", id, risen.Keepers[id], quiet.Keepers[id])
					}
				}
			}
		}
	}
	if forced < 50 {
		t.Errorf("only %d logs were made durable", forced)
	}
}

// P96, P97: whenever a log is packed or made durable, also in a quiet period.
func TestPackingAndForcingChangeNoState(t *testing.T) {
	changed := map[int]int{}
	runs := slices.Concat(sampleRivers(), sampleRuns(t, 10))
	for _, w := range sampleRuns(t, 40) {
		runs = append(runs, impl.RiverCalm(w, 1), impl.RiverCalm(w, 4))
	}
	for _, w := range runs {
		for id, was := range w.Keepers {
			for _, kind := range []int{impl.RiverPacks, impl.RiverForces} {
				after, ok := impl.RiverDo(w, eventAt(kind, id))
				is := after.Keepers[id]
				if !sameKeep(stateOf(is), stateOf(was)) || is.Up != was.Up || !slices.EqualFunc(is.Halves, was.Halves, sameHalf) {
					t.Errorf("kind %d makes %+v of %+v", kind, is, was)
				}
				if ok && is.Shelf != was.Shelf {
					changed[kind]++
				}
				if ok && !sameKeep(durableStateOf(is), stateOf(was)) {
					t.Errorf("kind %d makes %+v of %+v, which is not durable", kind, is, was)
				}
				if kind == impl.RiverPacks && ok && !slices.Equal(recordsOf(is), recsByHand(stateOf(was))) {
					t.Errorf("packing makes %+v of %+v", is, was)
				}
			}
		}
	}
	if changed[impl.RiverPacks] < 100 || changed[impl.RiverForces] < 100 {
		t.Errorf("only %v logs changed", changed)
	}
}

// wantNotLate wants no message to have come into an inbox that had expired there.
func wantNotLate(t *testing.T, before impl.River, after impl.River) int {
	t.Helper()
	arrived := 0
	for id, k := range after.Keepers {
		was := stateOf(before.Keepers[id])
		for _, n := range stateOf(k).Inbox {
			if slices.Contains(was.Inbox, n) {
				continue
			}
			arrived++
			if was.Time >= n.Until {
				t.Errorf("%+v arrives at the time %d", n, was.Time)
			}
		}
	}
	return arrived
}

// P98: on the walks, and in quiet rounds.
func TestNoMessageArrivesLate(t *testing.T) {
	arrived, calm := 0, 0
	for _, steps := range sampleWalks(t) {
		for i, h := range steps {
			arrived += wantNotLate(t, h.before, h.after)
			if i%30 == 0 {
				calm += wantNotLate(t, h.before, impl.RiverCalm(h.before, 4))
			}
		}
	}
	if arrived < 50 || calm < 50 {
		t.Errorf("only %d messages arrived, and %d in quiet rounds", arrived, calm)
	}
}

// P98, P90: by the clock of the destination alone, at its Until and one below.
func TestArrivalByTheClockOfTheDestination(t *testing.T) {
	for from := range 4 {
		for to := range 4 {
			n := impl.Note{From: from, Num: 1, To: to, Until: 5, Text: "hello"}
			if from == to {
				continue
			}
			for time := range 8 {
				after := calmed(t, withClock(sentTo(n), to, time), 4)
				if hasArrivedByHand(after, n) != (time < 5) {
					t.Errorf("%+v at the time %d leads to %+v", n, time, after)
				}
				wantStill(t, after)
				wantSafe(t, after)
				if at := way(t, to, from)[1]; time >= 5 {
					wantThere(t, after.Keepers[at], n)
				}
			}
		}
	}
}
