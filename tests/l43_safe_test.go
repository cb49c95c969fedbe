package tests

import (
	"fmt"
	"math/rand/v2"
	"slices"
	"testing"

	"loop.example/bargeman/impl"
)

// far is a message over all links, which goes by all nodes.
var far = impl.Note{From: 0, Num: 1, To: 3, Until: 9, Text: "from end to end"}

// back goes over two of the links, the other way.
var back = impl.Note{From: 3, Num: 1, To: 1, Until: 6, Text: "back"}

func TestSafeRuns(t *testing.T) {
	wantSafe(t, startByHand())
	wantSafe(t, sentTo(far))
	wantSafe(t, sentTo(far, back, impl.Note{From: 2, Num: 1, To: 2, Until: 1, Text: "here"}))
}

// P87: all steps of the walks.
func TestNothingIsLostOnTheWalks(t *testing.T) {
	for _, steps := range sampleWalks(t) {
		for _, h := range steps {
			if h.possible {
				wantSafe(t, h.after)
			}
		}
	}
}

// P87: as many events as can be played, in many orders of the walks.
func TestNothingIsLostInLongPlays(t *testing.T) {
	walks := sampleWalks(t)
	r := rand.New(rand.NewPCG(87, 88))
	for range 40 {
		var list []impl.RiverEvent
		for len(list) < impl.RiverMaxPlay {
			steps := walks[r.IntN(len(walks))]
			list = append(list, eventsOf(steps[r.IntN(200):])...)
		}
		w := impl.RiverPlay(list[:impl.RiverMaxPlay])
		wantSafe(t, w)
		wantStill(t, impl.RiverCalm(w, 4))
	}
}

// smallEvents is what may happen to one message between two nodes, with few frames in transit.
func smallEvents(n impl.Note) []impl.RiverEvent {
	return []impl.RiverEvent{
		mixEvent(n.From, n, 0), bringEvent(0, 0), bringEvent(1, 1), eventOf(impl.RiverLoses, 0), spoilEvent(0, 3, 255),
		eventAt(impl.RiverTime, n.From), eventAt(impl.RiverTime, n.To), eventAt(impl.RiverFalls, n.From), {Kind: impl.RiverFalls, At: n.To, Keep: 99},
		eventAt(impl.RiverRises, n.From), eventAt(impl.RiverRises, n.To), eventAt(impl.RiverCloses, 1), eatEvent(n.To, n), eventAt(impl.RiverPacks, n.From),
	}
}

// P87, P89: every run that few events lead to.
func TestNothingIsLostInAnyShortRun(t *testing.T) {
	n := impl.Note{From: 1, Num: 1, To: 2, Until: 2, Text: "a"}
	seen := map[string]bool{}
	runs := []impl.River{doEvents(t, startByHand(), ownEvent(n))}
	for range 7 {
		var next []impl.River
		for _, w := range runs {
			for _, e := range smallEvents(n) {
				after, ok := impl.RiverDo(w, e)
				key := after
				key.Time = 0
				if !ok || len(after.Radio) > 2 || seen[fmt.Sprint(key)] {
					continue
				}
				seen[fmt.Sprint(key)] = true
				next = append(next, after)
				if !impl.RiverSafe(after) || !impl.RiverStill(impl.RiverCalm(after, 4)) {
					t.Fatalf("%+v leads to %+v, which is not safe or does not become still", e, after)
				}
			}
		}
		runs = next
	}
	if len(seen) < 5000 {
		t.Errorf("only %d runs were seen", len(seen))
	}
}

// P87: what no event makes of a run is noticed.
func TestSafetyIsAsByHand(t *testing.T) {
	r := rand.New(rand.NewPCG(43, 44))
	seen := map[string]int{}
	for _, steps := range sampleWalks(t) {
		for range 150 {
			step := r.IntN(len(steps))
			w := anyChange(r, steps[step].after, steps[step/2].after)
			if r.IntN(2) == 0 {
				w = anyChange(r, w, steps[step/3].after)
			}
			faults := safetyFaults(w)
			wantSafe(t, w, faults...)
			for _, fault := range append(faults, fmt.Sprint(len(faults), " faults")) {
				seen[fault]++
			}
		}
	}
	for _, what := range []string{"0 faults", "1 faults", "2 faults", "sent twice", "got twice", "lost", "got not sent", "held not sent", "inbox not sent", "inbox taken"} {
		if seen[what] < 5 {
			t.Errorf("%q was seen %d times: %v", what, seen[what], seen)
		}
	}
}

// P87: all records and the durable ones alone, of one node.
func TestHeldByAllRecordsAndByTheDurableOnes(t *testing.T) {
	own, take, let := "own "+wantText(far), "take "+wantText(far), "let 0 1 9"
	for _, c := range []struct {
		what   string
		nodes  []impl.Keeper
		faults []string
	}{
		{"by both", []impl.Keeper{durableNode(0, own)}, nil},
		{"by both, and more is not durable", []impl.Keeper{nodeOf(0, 1, own, "next 5")}, nil},
		{"by all records, not by the durable ones", []impl.Keeper{nodeOf(0, 0, own)}, []string{"lost"}},
		{"by the durable records, not by all", []impl.Keeper{nodeOf(0, 1, own, let)}, []string{"lost"}},
		{"by neither", []impl.Keeper{durableNode(0, own, let)}, []string{"lost"}},
		{"never", nil, []string{"lost"}},
		{"by the next node", []impl.Keeper{durableNode(0, own, let), durableNode(1, take)}, nil},
		{"by the next node, not durably", []impl.Keeper{durableNode(0, own, let), nodeOf(1, 0, take)}, []string{"lost"}},
		{"by one node durably, by the next one not", []impl.Keeper{nodeOf(0, 1, own, let), nodeOf(1, 0, take)}, []string{"lost"}},
		{"by one node by all records, by the next one durably", []impl.Keeper{nodeOf(0, 0, own), nodeOf(1, 1, take, let)}, []string{"lost"}},
		{"by all nodes on its way, by none of them durably", []impl.Keeper{nodeOf(0, 0, own), nodeOf(1, 0, take), nodeOf(2, 0, take)}, []string{"lost"}},
		{"by all nodes on its way, by the last of them durably", []impl.Keeper{nodeOf(0, 0, own), nodeOf(1, 0, take), durableNode(2, take)}, nil},
		{"by a node that is not running", []impl.Keeper{down(durableNode(2, take))}, nil},
		{"by a node that is not running, not durably", []impl.Keeper{down(nodeOf(2, 0, take))}, []string{"lost"}},
		{"in the inbox, not durably", []impl.Keeper{nodeOf(3, 0, take)}, nil},
		{"in the inbox of the durable records only", []impl.Keeper{nodeOf(3, 1, take, "eat 0 1 9")}, []string{"lost"}},
		{"with another text by the durable ones", []impl.Keeper{nodeOf(1, 1, "held 0 1 3 2 other", "time 2", take)}, []string{"lost"}},
	} {
		w := startWith(c.nodes...)
		w.Sent = []impl.Note{far}
		if found := safetyFaults(w); !slices.Equal(found, c.faults) {
			t.Errorf("%s: %q, want %q", c.what, found, c.faults)
		}
		wantSafe(t, w, c.faults...)
	}
}

// P87: only one of several messages is lost, at each place of Sent.
func TestEachMessageIsChecked(t *testing.T) {
	var notes []impl.Note
	for place := range 6 {
		notes = append(notes, impl.Note{From: place % 4, Num: 1 + place/4, To: (place + 1) % 4, Until: 20, Text: alphabet[place:]})
		notes[place].Text = notes[place].Text[:10]
	}
	whole := sentTo(notes...)
	wantSafe(t, whole)
	for place, n := range notes {
		w := cloneRiver(whole)
		w.Keepers[n.From] = durableNode(n.From, append(recordsOf(w.Keepers[n.From]), fmt.Sprintf("let %d %d 20", n.From, n.Num))...)
		wantSafe(t, w, "lost")
		w.Got = []impl.Note{n}
		wantSafe(t, w)
		w = cloneRiver(whole)
		w.Sent = slices.Delete(w.Sent, place, place+1)
		wantSafe(t, w, "held not sent")
	}
}

// P87: a message is not lost if it has expired by the clock of a node on its way; at its Until, not one below.
func TestExpiredOnTheWay(t *testing.T) {
	for from := range 4 {
		for to := range 4 {
			n := impl.Note{From: from, Num: 1, To: to, Until: 7, Text: "a"}
			for id := range 4 {
				for _, time := range []int{0, 1, 5, 6, 7, 8, 999} {
					w := withClock(startByHand(), id, time)
					w.Sent = []impl.Note{n}
					var faults []string
					if time < 7 || !isOnWayByHand(id, from, to) {
						faults = []string{"lost"}
					}
					wantSafe(t, w, faults...)
				}
			}
		}
	}
}

// P87: the time counts by all records, whether they are durable or not.
func TestExpiredByATimeThatIsNotDurable(t *testing.T) {
	for durable := range 3 {
		w := startWith(nodeOf(2, durable, "time 8", "time 9"))
		w.Sent = []impl.Note{far}
		wantSafe(t, w)
	}
	w := startWith(durableNode(2, "time 7", "time 8"))
	w.Sent = []impl.Note{far}
	wantSafe(t, w, "lost")
}

// P87: in Got, in the inbox, in both, and in neither.
func TestArrivedMessages(t *testing.T) {
	for from := range 4 {
		for to := range 4 {
			n := impl.Note{From: from, Num: 1, To: to, Until: 7, Text: "a"}
			arrived := durableNode(to, "take "+wantText(n))
			taken := durableNode(to, "take "+wantText(n), fmt.Sprintf("eat %d 1 7", from))
			if from == to {
				arrived = durableNode(to, "own "+wantText(n))
				taken = durableNode(to, "own "+wantText(n), fmt.Sprintf("eat %d 1 7", from))
			}
			for _, c := range []struct {
				got    []impl.Note
				at     impl.Keeper
				faults []string
			}{
				{nil, arrived, nil},
				{[]impl.Note{n}, impl.KeeperStart(to), nil},
				{[]impl.Note{n}, taken, nil},
				{[]impl.Note{n}, arrived, []string{"inbox taken"}},
				{nil, taken, []string{"lost"}},
				{nil, impl.KeeperStart(to), []string{"lost"}},
			} {
				w := startWith(c.at)
				w.Sent, w.Got = []impl.Note{n}, c.got
				wantSafe(t, w, c.faults...)
				w.Sent = append([]impl.Note{{From: (from + 1) % 4, Num: 3, To: (from + 1) % 4, Until: 1, Text: "b"}}, w.Sent...)
				wantSafe(t, withClock(w, (from+1)%4, 1), c.faults...)
			}
		}
	}
}

// P87: a message that has expired and arrived is still in its inbox.
func TestArrivedAndExpired(t *testing.T) {
	w := startWith(durableNode(3, "take "+wantText(far), "time 9"))
	wantSafe(t, w, "inbox not sent")
	w.Sent = []impl.Note{far}
	wantSafe(t, w)
	w.Got = []impl.Note{far}
	wantSafe(t, w, "inbox taken")
}

// likeFar is what far is told from, by one thing each; the first ones have its name.
func likeFar() (sameName []impl.Note, otherName []impl.Note) {
	text, to, until, num, from := far, far, far, far, far
	text.Text, to.To, until.Until, num.Num, from.From = "from end to enD", 2, 10, 2, 1
	return []impl.Note{far, text, to, until}, []impl.Note{num, from}
}

// P87: two messages of Sent, or of Got, with the same From and Num, beside each other and not.
func TestMessagesWithOneName(t *testing.T) {
	same, other := likeFar()
	between := impl.Note{From: 2, Num: 1, To: 2, Until: 3, Text: "between"}
	for i, n := range slices.Concat(same, other) {
		for _, list := range [][]impl.Note{{far, n}, {n, far}, {far, between, n}, {between, n, far}, {n, between, between, far}} {
			var faults []string
			if i < len(same) {
				faults = []string{"got twice", "sent twice"}
			}
			if len(list) == 4 {
				faults = []string{"got twice", "sent twice"}
			}
			w := startByHand()
			w.Sent, w.Got = list, list
			wantSafe(t, w, faults...)
		}
	}
	for _, n := range same {
		w := withClock(startByHand(), 1, 10)
		w.Sent = []impl.Note{far, n}
		wantSafe(t, w, "sent twice")
		w.Sent, w.Got = []impl.Note{far}, []impl.Note{far, n}
		if n == far {
			wantSafe(t, w, "got twice")
		} else {
			wantSafe(t, w, "got not sent", "got twice")
		}
	}
	for _, n := range other {
		w := withClock(withClock(startByHand(), 1, 10), 0, 10)
		w.Sent = []impl.Note{far, n}
		wantSafe(t, w)
	}
}

// P87: what is held, in an inbox or taken must be in Sent, as it is.
func TestMessagesThatWereNotSent(t *testing.T) {
	same, other := likeFar()
	for i, n := range slices.Concat(same, other) {
		held := startWith(durableNode(1, "next 3", "held "+wantText(n)))
		arrived := startWith(durableNode(n.To, "take "+wantText(n)))
		taken := startByHand()
		taken.Got = []impl.Note{n}
		for what, w := range map[string]impl.River{"held": held, "inbox": arrived, "got": taken} {
			wantSafe(t, w, what+" not sent")
			w.Sent = []impl.Note{n}
			wantSafe(t, w)
			w.Sent = []impl.Note{far}
			w = withClock(w, 0, 9) // far itself has expired
			if i == 0 {
				wantSafe(t, w)
			} else {
				wantSafe(t, w, what+" not sent")
			}
		}
	}
}

// P87: what is held or has arrived by the durable records alone need not be in Sent.
func TestDurableMessagesThatWereNotSent(t *testing.T) {
	wantSafe(t, startWith(nodeOf(1, 1, "take "+wantText(far), "let 0 1 9")))
	wantSafe(t, startWith(nodeOf(3, 1, "take "+wantText(far), "eat 0 1 9")))
	wantSafe(t, startWith(nodeOf(1, 0, "take "+wantText(far))), "held not sent")
	wantSafe(t, startWith(nodeOf(3, 0, "take "+wantText(far))), "inbox not sent")
}

// P87: at each node, at each place of its lists.
func TestEachNodeIsChecked(t *testing.T) {
	for id := range 4 {
		to := (id + 1) % 4
		var recs []string
		var notes []impl.Note
		for num := 1; num <= 3; num++ {
			held := impl.Note{From: id, Num: 2*num - 1, To: to, Until: 50, Text: alphabet[:num]}
			here := impl.Note{From: id, Num: 2 * num, To: id, Until: 50, Text: alphabet[num:9]}
			notes = append(notes, held, here)
			recs = append(recs, "own "+wantText(held), "own "+wantText(here))
		}
		w := startWith(durableNode(id, recs...))
		w.Sent = notes
		wantSafe(t, w)
		for place, n := range notes {
			without := cloneRiver(w)
			without.Sent = slices.Delete(without.Sent, place, place+1)
			fault := []string{"held not sent", "inbox not sent"}[place%2]
			wantSafe(t, without, fault)
			if n.To == id {
				without = cloneRiver(w)
				without.Got = []impl.Note{n}
				wantSafe(t, without, "inbox taken")
			}
		}
	}
}

// P87: a node that is not on the way of a message can neither hold it nor let it expire.
func TestNodesBesideTheWay(t *testing.T) {
	n := impl.Note{From: 1, Num: 1, To: 2, Until: 9, Text: "near"}
	for _, id := range []int{0, 3} {
		w := startWith(durableNode(id, "take "+wantText(n)))
		w.Sent = []impl.Note{n}
		wantSafe(t, w, "run")
		w = withClock(startByHand(), id, 999)
		w.Sent = []impl.Note{n}
		wantSafe(t, w, "lost")
	}
	// Held under its name, as it would be on another way.
	elsewhere := n
	elsewhere.To = 3
	w := startWith(durableNode(2, "take "+wantText(elsewhere)))
	w.Sent = []impl.Note{n}
	wantSafe(t, w, "held not sent", "lost")
}

// P87: an inbox has a message with From and Num of one that was taken, elsewhere and otherwise.
func TestInboxWithATakenName(t *testing.T) {
	same, other := likeFar()
	for _, n := range same {
		w := startWith(durableNode(n.To, "take "+wantText(n)))
		w.Sent, w.Got = []impl.Note{far, n}, []impl.Note{far}
		if n == far {
			w.Sent = []impl.Note{far}
			wantSafe(t, w, "inbox taken")
		} else {
			wantSafe(t, w, "inbox taken", "sent twice")
		}
	}
	for _, n := range other {
		w := startWith(durableNode(n.To, "take "+wantText(n)))
		w.Sent, w.Got = []impl.Note{far, n}, []impl.Note{far}
		wantSafe(t, w)
	}
}

// P87: what the links, the frames in transit and the partial messages are does not matter.
func TestSafetyIsOnlyAboutMessages(t *testing.T) {
	w := sentTo(far, back)
	w.Time = 99999
	w.Links = []bool{false, false, false}
	w.Radio = append(transitOf(28), impl.Parcel{Src: 1, Dst: 2, Data: "no frame", Spoilt: true}, parcelOf(pieceByHand(impl.Note{From: 2, Num: 7, To: 3, Until: 9, Text: "never sent"}, 2, 0)))
	w.Keepers[2].Halves = []impl.Half{halfOf(impl.Note{From: 1, Num: 8, To: 3, Until: 5, Text: alphabet}, 1, 2)}
	wantSafe(t, w)
	for id := range w.Keepers {
		w.Keepers[id] = down(w.Keepers[id])
	}
	wantSafe(t, w)
}

func TestSafetyOfInvalidRuns(t *testing.T) {
	for _, c := range brokenRuns() {
		for _, w := range []impl.River{startByHand(), sentTo(far)} {
			c.change(&w)
			if found := safetyFaults(w); !slices.Equal(found, []string{"run"}) {
				t.Errorf("%s: %q", c.what, found)
			}
			wantSafe(t, w, "run")
		}
	}
}

// P88: everything that is not durable is lost at once.
func TestAllNodesCrashAtOnce(t *testing.T) {
	lost := 0
	for _, w := range sampleRuns(t, 8) {
		crashed := w
		for id := range 4 {
			crashed, _ = impl.RiverDo(crashed, eventAt(impl.RiverFalls, id))
		}
		wantSafe(t, crashed)
		for id, k := range crashed.Keepers {
			if k.Shelf.Log != w.Keepers[id].Shelf.Log {
				lost++
			}
		}
		risen := crashed
		for id := range 4 {
			risen, _ = impl.RiverDo(risen, eventAt(impl.RiverRises, id))
		}
		wantSafe(t, risen)
		for _, w := range []impl.River{crashed, risen} {
			calm := impl.RiverCalm(w, 4)
			wantStill(t, calm)
			wantSafe(t, calm)
		}
	}
	if lost < 50 {
		t.Errorf("only %d nodes lost records", lost)
	}
}
