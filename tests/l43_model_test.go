package tests

import (
	"fmt"
	"math/rand/v2"
	"slices"
	"strings"
	"testing"

	"loop.example/bargeman/impl"
)

// durableStateOf is the state that the durable records of a valid node lead to, by hand.
func durableStateOf(k impl.Keeper) impl.Keep {
	recs := recordsOf(k)
	state, _ := stateByHand(k.Id, recs[:slices.Index(ends(recs), k.Shelf.Forced)])
	return state
}

// nodesOnWay is the nodes on the way of a message, in any order.
func nodesOnWay(n impl.Note) []int {
	return slices.DeleteFunc([]int{0, 1, 2, 3}, func(id int) bool { return !isOnWayByHand(id, n.From, n.To) })
}

func hasArrivedByHand(w impl.River, n impl.Note) bool {
	return slices.Contains(w.Got, n) || slices.Contains(stateOf(w.Keepers[n.To]).Inbox, n)
}

// isExpiredOnWay tells whether a message has expired by the clock of some node on its way.
func isExpiredOnWay(w impl.River, n impl.Note) bool {
	return slices.ContainsFunc(nodesOnWay(n), func(id int) bool { return stateOf(w.Keepers[id]).Time >= n.Until })
}

func isHeldOnWay(w impl.River, n impl.Note) bool {
	return slices.ContainsFunc(nodesOnWay(n), func(id int) bool {
		k := w.Keepers[id]
		return slices.Contains(stateOf(k).Held, n) && slices.Contains(durableStateOf(k).Held, n)
	})
}

func namesOf(list []impl.Note) map[name]int {
	names := map[name]int{}
	for _, n := range list {
		names[nameOf(n)]++
	}
	return names
}

// safetyFaults is why RiverSafe does not hold, each condition of the document apart from the program.
func safetyFaults(w impl.River) []string {
	if len(riverFaults(w)) > 0 {
		return []string{"run"}
	}
	found := faultSet{}
	add := found.add
	add(len(namesOf(w.Sent)) < len(w.Sent), "sent twice")
	add(len(namesOf(w.Got)) < len(w.Got), "got twice")
	for _, n := range w.Sent {
		add(!hasArrivedByHand(w, n) && !isHeldOnWay(w, n) && !isExpiredOnWay(w, n), "lost")
	}
	for _, n := range w.Got {
		add(!slices.Contains(w.Sent, n), "got not sent")
	}
	for _, p := range placesOf(w, heldOf) {
		add(!slices.Contains(w.Sent, p.note), "held not sent")
	}
	for _, p := range placesOf(w, inboxOf) {
		add(!slices.Contains(w.Sent, p.note), "inbox not sent")
		add(namesOf(w.Got)[nameOf(p.note)] > 0, "inbox taken")
	}
	return found.list()
}

// stillFaults is why RiverStill does not hold, each condition of the document apart from the program.
func stillFaults(w impl.River) []string {
	if len(riverFaults(w)) > 0 {
		return []string{"run"}
	}
	found := faultSet{}
	add := found.add
	add(len(w.Radio) > 0, "transit")
	for _, there := range w.Links {
		add(!there, "link")
	}
	for _, k := range w.Keepers {
		add(!k.Up, "down")
	}
	for _, p := range placesOf(w, heldOf) {
		next := p.at + 1
		if p.note.To < p.at {
			next = p.at - 1
		}
		add(stateOf(w.Keepers[next]).Time < p.note.Until, "offer")
	}
	return found.list()
}

// calmByHand is RiverCalm of a valid run, as the document tells it.
func calmByHand(w impl.River, rounds int) impl.River {
	m := modelOfRiver(w)
	for round := 0; round < rounds && round < 20 && m.Time < 79999; round++ {
		m.quiet()
	}
	return m.river()
}

func (m *riverModel) quiet() {
	for i := range 4 {
		m.do(eventAt(impl.RiverRises, i))
		m.do(eventAt(impl.RiverOpens, i))
	}
	m.deliver()
	for i, node := range m.nodes {
		for _, n := range slices.Clone(node.state.Held) {
			for block := range blocksOf(n.Text) {
				m.do(mixEvent(i, n, block))
				m.deliver()
			}
		}
	}
}

func (m *riverModel) deliver() {
	for range 400 {
		if !m.do(bringEvent(0, 0)) {
			return
		}
	}
}

// boardByHand is RiverBoard of a valid run, as the document tells it.
func boardByHand(w impl.River) string {
	var b strings.Builder
	for id, k := range w.Keepers {
		state := stateOf(k)
		running := map[bool]string{true: "up", false: "down"}[k.Up]
		fmt.Fprintf(&b, "keeper %d %s, time %d, next %d, log %d, forced %d, marks %d, halves %d\n", id, running, state.Time, state.Next, len(k.Shelf.Log), k.Shelf.Forced, len(state.Marks), len(k.Halves))
		for _, n := range state.Held {
			fmt.Fprintf(&b, "  holds %s\n", wantText(n))
		}
		for _, n := range state.Inbox {
			fmt.Fprintf(&b, "  inbox %s\n", wantText(n))
		}
	}
	b.WriteString("links")
	for _, there := range w.Links {
		b.WriteString(map[bool]string{true: " there", false: " away"}[there])
	}
	b.WriteString("\n")
	for _, n := range w.Got {
		fmt.Fprintf(&b, "got %s\n", wantText(n))
	}
	fmt.Fprintf(&b, "%d sent, %d under way\n", len(w.Sent), len(w.Radio))
	return b.String()
}

// asked asks something of a run: it must leave its argument alone, and answer the same again.
func asked[A comparable](t *testing.T, what string, ask func(w impl.River) A, w impl.River) A {
	t.Helper()
	argument := roomyRiver(w)
	answer := ask(argument)
	if !isUntouchedRiver(argument, w) {
		t.Errorf("%s(%+v) changes its argument", what, w)
	}
	if again := ask(w); again != answer {
		t.Errorf("%s(%+v) is %v, and then %v", what, w, answer, again)
	}
	return answer
}

// wantFaults holds an answer against the faults that a run has by hand.
func wantFaults(t *testing.T, what string, ask func(w impl.River) bool, found []string, w impl.River, faults []string) {
	t.Helper()
	if !slices.Equal(found, faults) {
		t.Errorf("%+v has by hand the faults %q, want %q", w, found, faults)
	}
	if ok := asked(t, what, ask, w); ok != (len(faults) == 0) {
		t.Errorf("%s(%+v) is %v, by hand it has the faults %q", what, w, ok, faults)
	}
}

func wantSafe(t *testing.T, w impl.River, faults ...string) {
	t.Helper()
	wantFaults(t, "RiverSafe", impl.RiverSafe, safetyFaults(w), w, faults)
}

func wantStill(t *testing.T, w impl.River, faults ...string) {
	t.Helper()
	wantFaults(t, "RiverStill", impl.RiverStill, stillFaults(w), w, faults)
}

// wantBoard holds RiverBoard against the board by hand.
func wantBoard(t *testing.T, w impl.River) string {
	t.Helper()
	board := asked(t, "RiverBoard", impl.RiverBoard, w)
	if want := boardByHand(w); board != want {
		t.Errorf("RiverBoard(%+v) is %q, want %q", w, board, want)
	}
	return board
}

// calmed is RiverCalm of a valid run, which must be as by hand, leave its argument alone and answer new memory.
func calmed(t *testing.T, w impl.River, rounds int) impl.River {
	t.Helper()
	argument := roomyRiver(w)
	first := impl.RiverCalm(argument, rounds)
	after := cloneRiver(first)
	if want := calmByHand(w, rounds); !sameRiver(after, want) {
		t.Fatalf("RiverCalm(%+v, %d) is %+v, want %+v", w, rounds, after, want)
	}
	scribbleRiver(impl.RiverCalm(argument, rounds))
	if !isUntouchedRiver(argument, w) {
		t.Errorf("RiverCalm(%+v, %d) changes its argument or shares memory with it", w, rounds)
	}
	if !sameRiver(first, after) {
		t.Errorf("two answers of RiverCalm(%+v, %d) share memory", w, rounds)
	}
	wantOwnLists(t, first, rounds)
	if faults := riverFaults(after); len(faults) > 0 || !impl.RiverOk(after) {
		t.Errorf("RiverCalm(%+v, %d) is %+v, which has the faults %q", w, rounds, after, faults)
	}
	return after
}

// sentTo is a run in which each message was sent, and is held by its source or has arrived there; nothing else has happened.
func sentTo(notes ...impl.Note) impl.River {
	w := startByHand()
	for id := range w.Keepers {
		var recs []string
		for _, n := range notes {
			if n.From == id {
				recs = append(recs, "own "+wantText(n))
			}
		}
		w.Keepers[id] = durableNode(id, recs...)
	}
	w.Sent = notes
	return w
}

// withClock is a run in which a node has another time, which is durable; all of its records have to be.
func withClock(w impl.River, id int, time int) impl.River {
	w = cloneRiver(w)
	if time > 0 {
		w.Keepers[id].Shelf = durableNode(id, append(recordsOf(w.Keepers[id]), fmt.Sprintf("time %d", time))...).Shelf
	}
	return w
}

// sampleRuns has runs that were walked to from RiverStart on: every so many steps.
func sampleRuns(t *testing.T, every int) []impl.River {
	t.Helper()
	var runs []impl.River
	for i, steps := range sampleWalks(t) {
		for step := i % every; step < len(steps); step += every {
			runs = append(runs, steps[step].after)
		}
	}
	return runs
}

// brokenRun is a run in which one thing is not valid.
type brokenRun struct {
	what   string
	change func(w *impl.River)
}

func brokenRuns() []brokenRun {
	n := impl.Note{From: 3, Num: 9, To: 1, Until: 5, Text: "a"}
	return []brokenRun{
		{"time below 0", func(w *impl.River) { w.Time = -1 }},
		{"time above the last", func(w *impl.River) { w.Time = 100000 }},
		{"nothing at all", func(w *impl.River) { *w = impl.River{} }},
		{"no nodes", func(w *impl.River) { w.Keepers = nil }},
		{"a node less", func(w *impl.River) { w.Keepers = w.Keepers[:3] }},
		{"a node more", func(w *impl.River) { w.Keepers = append(w.Keepers, impl.KeeperStart(3)) }},
		{"nodes not in order", func(w *impl.River) { w.Keepers[0], w.Keepers[3] = w.Keepers[3], w.Keepers[0] }},
		{"a broken log", func(w *impl.River) { w.Keepers[2].Shelf.Log += "x" }},
		{"records that lead nowhere", func(w *impl.River) { w.Keepers[1].Shelf.Log += "8:eat 0 99;" }},
		{"more durable bytes than there are", func(w *impl.River) { w.Keepers[3].Shelf.Forced++ }},
		{"a message that is held beside its way", func(w *impl.River) { w.Keepers[0].Shelf.Log += logOf("held 3 9 2 999 a") }},
		{"partial messages of a node that is not running", func(w *impl.River) { w.Keepers[1].Up, w.Keepers[1].Halves = false, []impl.Half{halfOf(n, 0)} }},
		{"no links", func(w *impl.River) { w.Links = nil }},
		{"a link less", func(w *impl.River) { w.Links = w.Links[:2] }},
		{"a link more", func(w *impl.River) { w.Links = append(w.Links, true) }},
		{"too many frames", func(w *impl.River) { w.Radio = transitOf(31) }},
		{"a frame between far nodes", func(w *impl.River) { w.Radio = []impl.Parcel{{Src: 0, Dst: 2}} }},
		{"a frame that is too long", func(w *impl.River) { w.Radio = []impl.Parcel{{Src: 0, Dst: 1, Data: strings.Repeat("x", 41)}} }},
		{"too many messages sent", func(w *impl.River) { w.Sent = notesFor(7, 3, 3, 5) }},
		{"a broken message sent", func(w *impl.River) { w.Sent = append(w.Sent, impl.Note{}) }},
		{"too many messages taken", func(w *impl.River) { w.Got = notesFor(7, 3, 3, 5) }},
		{"a broken message taken", func(w *impl.River) { w.Got = append(w.Got, impl.Note{From: 4, Num: 1, Until: 1, Text: "a"}) }},
	}
}

// anyChange makes something else of a run, as nothing that happens does: nodes go back to what they were, messages vanish or differ.
func anyChange(r *rand.Rand, w impl.River, earlier impl.River) impl.River {
	w = cloneRiver(w)
	at := r.IntN(4)
	switch r.IntN(9) {
	case 0:
		w.Keepers[at] = cloneKeeper(earlier.Keepers[at])
	case 1:
		w.Keepers[at] = impl.KeeperStart(at)
	case 2:
		w.Keepers[at].Shelf.Forced = ends(recordsOf(w.Keepers[at]))[r.IntN(len(recordsOf(w.Keepers[at]))+1)]
	case 3:
		w.Sent = slices.DeleteFunc(w.Sent, func(impl.Note) bool { return r.IntN(4) == 0 })
	case 4:
		w.Got = slices.DeleteFunc(w.Got, func(impl.Note) bool { return r.IntN(3) == 0 })
	case 5:
		w.Sent = changeOne(r, w.Sent)
	case 6:
		w.Got = changeOne(r, w.Got)
	case 7:
		if len(w.Got) < 6 && len(w.Sent) > 0 {
			w.Got = append(w.Got, w.Sent[r.IntN(len(w.Sent))])
		}
	case 8:
		w.Keepers[at].Shelf = impl.KeeperFall(w.Keepers[at], 0).Shelf
	}
	return w
}

// changeOne gives one message another text, another node, another time or another number.
func changeOne(r *rand.Rand, list []impl.Note) []impl.Note {
	if len(list) == 0 {
		return list
	}
	n := &list[r.IntN(len(list))]
	switch r.IntN(5) {
	case 0:
		n.Text = "changed"
	case 1:
		n.To = r.IntN(4)
	case 2:
		n.Until = min(999, n.Until+r.IntN(3))
	case 3:
		n.Num = 1 + r.IntN(3)
	case 4:
		*n = list[0]
	}
	return list
}
