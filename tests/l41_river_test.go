package tests

import (
	"slices"
	"strings"
	"testing"

	"loop.example/bargeman/impl"
)

// riverFaults is what is wrong with a run, each condition of the document apart from the program.
func riverFaults(w impl.River) []string {
	found := faultSet{}
	add := found.add
	add(w.Time < 0 || w.Time > 99999, "time")
	add(len(w.Keepers) != 4, "nodes length")
	for i, k := range w.Keepers {
		add(i < 4 && k.Id != i, "nodes order")
		add(len(nodeFaults(k)) > 0, "node")
	}
	add(len(w.Links) != 3, "links length")
	add(len(w.Radio) > 30, "radio length")
	for _, p := range w.Radio {
		add(!slices.Contains(neighbors, [2]int{p.Src, p.Dst}), "frame ends")
		add(len(p.Data) > 40, "frame data")
	}
	add(len(w.Sent) > 6, "sent length")
	add(slices.ContainsFunc(w.Sent, isNoteBroken), "sent message")
	add(len(w.Got) > 6, "got length")
	add(slices.ContainsFunc(w.Got, isNoteBroken), "got message")
	return found.list()
}

// neighbors is all pairs of neighboring nodes, in both directions.
var neighbors = [][2]int{{0, 1}, {1, 2}, {2, 3}, {3, 2}, {2, 1}, {1, 0}}

func isNoteBroken(n impl.Note) bool {
	return !noteForm.MatchString(wantText(n))
}

// startByHand is the run in which nothing has happened.
func startByHand() impl.River {
	return impl.River{
		Keepers: []impl.Keeper{{Id: 0, Up: true}, {Id: 1, Up: true}, {Id: 2, Up: true}, {Id: 3, Up: true}},
		Links:   []bool{true, true, true},
	}
}

// plainRiver is a run in which much has happened: node 2 is not running, and a link is not available.
func plainRiver() impl.River {
	theirs := impl.Note{From: 0, Num: 1, To: 3, Until: 9, Text: "theirs"}
	crashed := nodeOf(2, 1, "take "+wantText(theirs), "time 2", "own 2 1 2 7 for me")
	crashed.Up = false
	last := nodeOf(3, 0, "time 1")
	last.Halves = []impl.Half{halfOf(theirs, 1), halfOf(impl.Note{From: 1, Num: 2, To: 3, Until: 30, Text: alphabet}, 9, 2, 4)}
	piece := pieceByHand(theirs, 1, 1)
	have := impl.Frame{Kind: 2, Src: 2, Dst: 1, From: 0, Num: 1, To: 3, Until: 9}
	return impl.River{
		Time:    77,
		Keepers: []impl.Keeper{nodeOf(0, 1, "own "+wantText(theirs), "let 0 1 9"), plainNode(), crashed, last},
		Links:   []bool{true, false, true},
		Radio: []impl.Parcel{
			{Src: 1, Dst: 2, Data: string(packByHand(piece))},
			{Src: 2, Dst: 1, Data: string(packByHand(have))},
			{Src: 3, Dst: 2, Data: "\x00no frame\xff", Spoilt: true},
			{Src: 0, Dst: 1},
		},
		Sent: []impl.Note{theirs, {From: 3, Num: 6, To: 0, Until: 5, Text: "back"}, {From: 2, Num: 1, To: 2, Until: 7, Text: "for me"}},
		Got:  []impl.Note{{From: 3, Num: 6, To: 0, Until: 5, Text: "back"}, {From: 2, Num: 3, To: 0, Until: 99, Text: " a b "}},
	}
}

func changedRiver(change func(w *impl.River)) impl.River {
	w := plainRiver()
	change(&w)
	return w
}

func cloneRiver(w impl.River) impl.River {
	w.Keepers = slices.Clone(w.Keepers)
	for i, k := range w.Keepers {
		w.Keepers[i] = cloneKeeper(k)
	}
	w.Links, w.Radio, w.Sent, w.Got = slices.Clone(w.Links), slices.Clone(w.Radio), slices.Clone(w.Sent), slices.Clone(w.Got)
	return w
}

func sameRiver(a impl.River, b impl.River) bool {
	return a.Time == b.Time && slices.EqualFunc(a.Keepers, b.Keepers, sameKeeper) && slices.Equal(a.Links, b.Links) &&
		slices.Equal(a.Radio, b.Radio) && slices.Equal(a.Sent, b.Sent) && slices.Equal(a.Got, b.Got)
}

// spareRoom is what is put behind the ends of the lists of a run, where no call may change it.
var spareRoom = impl.River{
	Keepers: []impl.Keeper{{Id: 77, Shelf: impl.Shelf{Log: "spare", Forced: 77}}, {Id: 78}},
	Links:   []bool{true, false},
	Radio:   []impl.Parcel{{Src: 77, Dst: 77, Data: "spare"}, {Src: 78}},
	Sent:    []impl.Note{{From: 77, Num: 77, To: 77, Until: 77, Text: "spare"}, {From: 78}},
	Got:     []impl.Note{{From: 77, Num: 77, To: 77, Until: 77, Text: "spare"}, {From: 78}},
}

// withRoom is a list with room for two more behind its end.
func withRoom[E any](list []E, spare []E) []E {
	return slices.Concat(list, spare)[:len(list)]
}

func roomyRiver(w impl.River) impl.River {
	var keepers []impl.Keeper
	for _, k := range w.Keepers {
		keepers = append(keepers, roomyKeeper(k))
	}
	w.Keepers = withRoom(keepers, spareRoom.Keepers)
	w.Links = withRoom(w.Links, spareRoom.Links)
	w.Radio = withRoom(w.Radio, spareRoom.Radio)
	w.Sent = withRoom(w.Sent, spareRoom.Sent)
	w.Got = withRoom(w.Got, spareRoom.Got)
	return w
}

// behindRiver is what stands behind the ends of the lists of a roomy run.
func behindRiver(w impl.River) impl.River {
	return impl.River{
		Keepers: w.Keepers[len(w.Keepers) : len(w.Keepers)+2],
		Links:   w.Links[len(w.Links) : len(w.Links)+2],
		Radio:   w.Radio[len(w.Radio) : len(w.Radio)+2],
		Sent:    w.Sent[len(w.Sent) : len(w.Sent)+2],
		Got:     w.Got[len(w.Got) : len(w.Got)+2],
	}
}

// isUntouchedRiver tells whether a roomy run is as it was, also behind the ends of its lists.
func isUntouchedRiver(w impl.River, was impl.River) bool {
	if !sameRiver(w, was) || !sameRiver(behindRiver(w), spareRoom) {
		return false
	}
	for i, k := range w.Keepers {
		if !isUntouchedKeeper(k, was.Keepers[i]) {
			return false
		}
	}
	return true
}

// fill changes all memory of a list, up to its capacity.
func fill[E any](list []E, element E) {
	list = list[:cap(list)]
	for i := range list {
		list[i] = element
	}
}

// scribbleRiver changes all memory of a run.
func scribbleRiver(w impl.River) {
	for _, k := range w.Keepers {
		scribbleKeeper(k)
	}
	fill(w.Keepers, impl.Keeper{Id: 66})
	fill(w.Links, false)
	fill(w.Radio, impl.Parcel{Src: 66, Dst: 66, Data: "scribble"})
	fill(w.Sent, impl.Note{From: 66, Text: "scribble"})
	fill(w.Got, impl.Note{From: 66, Text: "scribble"})
}

// wantRiver holds RiverOk against the faults that a run has by hand.
func wantRiver(t *testing.T, w impl.River, faults ...string) {
	t.Helper()
	if found := riverFaults(w); !slices.Equal(found, faults) {
		t.Errorf("%+v has by hand the faults %q, want %q", w, found, faults)
	}
	argument := roomyRiver(w)
	if ok := impl.RiverOk(argument); ok != (len(faults) == 0) {
		t.Errorf("RiverOk(%+v) is %v, by hand it has the faults %q", w, ok, faults)
	}
	if !isUntouchedRiver(argument, w) {
		t.Errorf("RiverOk(%+v) changes its argument", w)
	}
	if impl.RiverOk(w) != impl.RiverOk(argument) {
		t.Errorf("RiverOk(%+v) hangs on the room behind its lists", w)
	}
}

func TestRiverConstants(t *testing.T) {
	if impl.RiverMaxRadio != 30 || impl.RiverMaxSent != 6 || impl.RiverMaxTime != 99999 || impl.RiverMaxCalm != 20 || impl.RiverMaxPlay != 2000 {
		t.Errorf("%d in transit, %d messages, %d events, %d quiet rounds, %d played", impl.RiverMaxRadio, impl.RiverMaxSent, impl.RiverMaxTime, impl.RiverMaxCalm, impl.RiverMaxPlay)
	}
}

// P69
func TestNothingIsHeldInitially(t *testing.T) {
	w := impl.RiverStart()
	if len(w.Radio) != 0 || len(w.Sent) != 0 || len(w.Got) != 0 || w.Time != 0 {
		t.Errorf("RiverStart is %+v", w)
	}
	if len(w.Keepers) != 4 {
		t.Fatalf("RiverStart has %d nodes", len(w.Keepers))
	}
	for id, k := range w.Keepers {
		has := impl.KeeperHas(k)
		if has.Id != id || len(has.Held) != 0 || len(has.Marks) != 0 || len(has.Inbox) != 0 || len(k.Halves) != 0 || has.Time != 0 || has.Next != 1 {
			t.Errorf("node %d is %+v at first, with the state %+v", id, k, has)
		}
	}
}

// P69: all nodes are as KeeperStart gives them, in order, and all links are available.
func TestRiverStart(t *testing.T) {
	w := impl.RiverStart()
	if !sameRiver(w, startByHand()) {
		t.Fatalf("RiverStart is %+v, want %+v", w, startByHand())
	}
	for id, k := range w.Keepers {
		if !sameKeeper(k, impl.KeeperStart(id)) {
			t.Errorf("node %d of RiverStart is %+v, KeeperStart is %+v", id, k, impl.KeeperStart(id))
		}
	}
	wantRiver(t, w)
}

func TestRiverStartAnswersNewMemory(t *testing.T) {
	w := impl.RiverStart()
	again := impl.RiverStart()
	scribbleRiver(again)
	if !sameRiver(w, startByHand()) || !sameRiver(impl.RiverStart(), startByHand()) {
		t.Errorf("two answers of RiverStart share memory: %+v", w)
	}
	for i := range w.Links {
		w.Links[i] = false
		if want := append(make([]bool, i+1), startByHand().Links[i+1:]...); !slices.Equal(w.Links, want) {
			t.Errorf("links of RiverStart share memory: %v", w.Links)
		}
	}
}

func TestRiverOkHoldsForValidRuns(t *testing.T) {
	wantRiver(t, plainRiver())
	wantRiver(t, startByHand())
}

// Nodes of all kinds: running and not, with empty and full logs, with records that are not durable, and with partial messages.
func TestRiverOkHoldsForAllValidNodes(t *testing.T) {
	for _, k := range sampleNodes() {
		wantRiver(t, changedRiver(func(w *impl.River) { w.Keepers[k.Id] = k }))
		start := startByHand()
		start.Keepers[k.Id] = k
		wantRiver(t, start)
	}
}

// What is at the edge of each condition is still valid.
func TestRiverOkAtTheEdges(t *testing.T) {
	for _, change := range []func(w *impl.River){
		func(w *impl.River) { w.Time = 0 },
		func(w *impl.River) { w.Time = 1 },
		func(w *impl.River) { w.Time = impl.RiverMaxTime - 1 },
		func(w *impl.River) { w.Time = impl.RiverMaxTime },
		func(w *impl.River) { w.Links = []bool{false, false, false} },
		func(w *impl.River) { w.Links = []bool{false, true, false} },
		func(w *impl.River) { w.Radio, w.Sent, w.Got = nil, nil, nil },
		func(w *impl.River) { w.Radio, w.Sent, w.Got = []impl.Parcel{}, []impl.Note{}, []impl.Note{} },
		func(w *impl.River) { w.Radio = slices.Repeat(w.Radio[1:2], 29) },
		func(w *impl.River) { w.Radio = slices.Repeat(w.Radio[1:2], 30) },
		func(w *impl.River) { w.Radio = slices.Repeat(w.Radio[:3], 10) },
		func(w *impl.River) { w.Radio[0].Data = "" },
		func(w *impl.River) { w.Radio[0].Data = strings.Repeat("x", 40) },
		func(w *impl.River) { w.Radio[0].Data = strings.Repeat("\u00e4", 20) },
		func(w *impl.River) { w.Radio[0].Data = strings.Repeat("\x00\xff;:", 10) },
		func(w *impl.River) { w.Radio[0].Spoilt = true },
		func(w *impl.River) { w.Radio[2].Spoilt = false },
		func(w *impl.River) { w.Sent = slices.Repeat(w.Sent, 2) }, // six, with each message twice
		func(w *impl.River) { w.Got = slices.Repeat(w.Got, 3) },
		func(w *impl.River) { w.Sent = nil }, // Got has what was not sent
		func(w *impl.River) { w.Got = w.Sent },
		func(w *impl.River) { w.Got[0].Text = "another" },
		func(w *impl.River) {
			for i := range w.Keepers {
				w.Keepers[i] = impl.Keeper{Id: i}
			}
		},
	} {
		wantRiver(t, changedRiver(change))
	}
}

// Frames go between neighboring nodes, in both directions, and between no others.
func TestEndsOfFramesInTransit(t *testing.T) {
	numbers := slices.Concat([]int{-4, -3, 0, 1, 2, 3, 4, 5, 6, 7}, outOfRange)
	for _, src := range numbers {
		for _, dst := range numbers {
			p := impl.Parcel{Src: src, Dst: dst, Data: "x"}
			var faults []string
			if !slices.Contains(neighbors, [2]int{src, dst}) {
				faults = []string{"frame ends"}
			}
			start := startByHand()
			start.Radio = []impl.Parcel{p}
			wantRiver(t, start, faults...)
			for place := range 4 {
				wantRiver(t, changedRiver(func(w *impl.River) { w.Radio[place] = p }), faults...)
			}
		}
	}
}

func TestRiverOkTimes(t *testing.T) {
	for _, time := range append([]int{99998, 99999, 100000, 100001, 199999, 1000000, 1 << 40}, outOfRange...) {
		var faults []string
		if time < 0 || time > 99999 {
			faults = []string{"time"}
		}
		wantRiver(t, changedRiver(func(w *impl.River) { w.Time = time }), faults...)
		start := startByHand()
		start.Time = time
		wantRiver(t, start, faults...)
	}
}

func TestRiverOkNumberOfNodes(t *testing.T) {
	for count := range 9 {
		nodes := slices.Repeat(plainRiver().Keepers, 3)[:count]
		var faults []string
		if count != 4 {
			faults = []string{"nodes length"}
		}
		wantRiver(t, changedRiver(func(w *impl.River) { w.Keepers = nodes }), faults...)
	}
	wantRiver(t, changedRiver(func(w *impl.River) { w.Keepers = nil }), "nodes length")
	for place := range 3 {
		wantRiver(t, changedRiver(func(w *impl.River) { w.Keepers = slices.Delete(w.Keepers, place, place+1) }), "nodes length", "nodes order")
	}
	for place := range 4 {
		start := startByHand()
		start.Keepers = slices.Insert(start.Keepers, 4, impl.Keeper{Id: place, Up: true})
		wantRiver(t, start, "nodes length")
	}
}

// The number of each node: all orders of four valid nodes, and each node with the number of another one.
func TestRiverOkOrderOfNodes(t *testing.T) {
	for _, start := range []impl.River{startByHand(), plainRiver()} {
		for _, order := range permutations([]int{0, 1, 2, 3}) {
			w := cloneRiver(start)
			for place, id := range order {
				w.Keepers[place] = start.Keepers[id]
			}
			var faults []string
			if !slices.IsSorted(order) {
				faults = []string{"nodes order"}
			}
			wantRiver(t, w, faults...)
		}
	}
	for place := range 4 {
		for id := range 4 {
			if id != place {
				start := startByHand()
				start.Keepers[place].Id = id
				wantRiver(t, start, "nodes order")
				wantRiver(t, changedRiver(func(w *impl.River) { w.Keepers[place] = w.Keepers[id] }), "nodes order")
				wantRiver(t, changedRiver(func(w *impl.River) { w.Keepers[place] = impl.KeeperStart(id) }), "nodes order")
			}
		}
	}
}

// A node that is not valid is found at each place.
func TestRiverOkInvalidNodes(t *testing.T) {
	for _, c := range append(brokenLogs(), brokenHalves()...) {
		wantRiver(t, changedRiver(func(w *impl.River) { w.Keepers[1] = changedNode(c.change) }), "node")
	}
	for place := range 4 {
		for _, broken := range []impl.Keeper{
			{Id: place, Up: true, Shelf: impl.Shelf{Log: "4:what;"}},
			{Id: place, Shelf: impl.Shelf{Forced: 1}},
			{Id: place, Shelf: impl.Shelf{Log: "6:time 1;6:time 1;"}},
			{Id: place, Halves: []impl.Half{{From: 2, Num: 9, To: 2, Until: 1, Size: 1}}},
			{Id: place, Up: true, Halves: []impl.Half{{From: 2, Num: 9, To: 2, Until: 1}}},
		} {
			wantRiver(t, changedRiver(func(w *impl.River) { w.Keepers[place] = broken }), "node")
			start := startByHand()
			start.Keepers[place] = broken
			wantRiver(t, start, "node")
		}
		for _, id := range append([]int{4, 5}, outOfRange...) {
			start := startByHand()
			start.Keepers[place].Id = id
			wantRiver(t, start, "node", "nodes order")
		}
	}
}

func TestRiverOkNumberOfLinks(t *testing.T) {
	for count := range 9 {
		for _, there := range []bool{true, false} {
			links := slices.Repeat([]bool{there}, count)
			var faults []string
			if count != 3 {
				faults = []string{"links length"}
			}
			wantRiver(t, changedRiver(func(w *impl.River) { w.Links = links }), faults...)
		}
	}
	wantRiver(t, changedRiver(func(w *impl.River) { w.Links = nil }), "links length")
}

func TestRiverOkFramesInTransit(t *testing.T) {
	for _, count := range []int{31, 32, 60, 300} {
		wantRiver(t, changedRiver(func(w *impl.River) { w.Radio = slices.Repeat(w.Radio[:1], count) }), "radio length")
	}
	for place := range 4 {
		for _, data := range []string{strings.Repeat("x", 41), strings.Repeat("\x00", 41), strings.Repeat("\u00e4", 21), strings.Repeat("x", 42), strings.Repeat("x", 300)} {
			wantRiver(t, changedRiver(func(w *impl.River) { w.Radio[place].Data = data }), "frame data")
		}
	}
	for place := range 30 {
		full := changedRiver(func(w *impl.River) { w.Radio = slices.Repeat(w.Radio[:1], 30) })
		full.Radio[place].Dst = 3
		wantRiver(t, full, "frame ends")
		full.Radio[place].Dst = 2
		wantRiver(t, full)
		full.Radio[place].Data = strings.Repeat("x", 41)
		wantRiver(t, full, "frame data")
	}
}

// wantMessages holds RiverOk against what may be in Sent, or in Got.
func wantMessages(t *testing.T, what string, list func(w *impl.River) *[]impl.Note) {
	t.Helper()
	put := func(notes ...impl.Note) impl.River {
		return changedRiver(func(w *impl.River) { *list(w) = notes })
	}
	for _, n := range sampleNotes() {
		wantRiver(t, put(n))
	}
	for _, n := range invalidNotes() {
		wantRiver(t, put(n), what+" message")
	}
	for count := range 9 {
		if count <= 6 {
			wantRiver(t, put(slices.Repeat([]impl.Note{plainNote}, count)...))
		} else {
			wantRiver(t, put(slices.Repeat([]impl.Note{plainNote}, count)...), what+" length")
		}
		for place := range min(count, 6) {
			notes := slices.Repeat([]impl.Note{plainNote}, min(count, 6))
			notes[place].Until = 0
			wantRiver(t, put(notes...), what+" message")
		}
	}
	wantRiver(t, put(make([]impl.Note, 7)...), what+" length", what+" message")
}

func TestRiverOkSentMessages(t *testing.T) {
	wantMessages(t, "sent", func(w *impl.River) *[]impl.Note { return &w.Sent })
}

func TestRiverOkTakenMessages(t *testing.T) {
	wantMessages(t, "got", func(w *impl.River) *[]impl.Note { return &w.Got })
}

// All faults together are no better than one of them.
func TestRiverOkOfManyFaults(t *testing.T) {
	wantRiver(t, impl.River{}, "links length", "nodes length")
	wantRiver(t, impl.River{Time: -1, Keepers: make([]impl.Keeper, 5), Links: make([]bool, 4), Radio: make([]impl.Parcel, 31), Sent: make([]impl.Note, 7), Got: make([]impl.Note, 7)},
		"frame ends", "got length", "got message", "links length", "nodes length", "nodes order", "radio length", "sent length", "sent message", "time")
	broken := []func(w *impl.River){
		func(w *impl.River) { w.Time = -1 },
		func(w *impl.River) { w.Keepers[0].Id = 1 },
		func(w *impl.River) { w.Links = nil },
		func(w *impl.River) { w.Radio[0].Src = 0 },
		func(w *impl.River) { w.Sent[0].Num = 0 },
		func(w *impl.River) { w.Got[0].Num = 0 },
	}
	for choice := 1; choice < 1<<len(broken); choice++ {
		w := plainRiver()
		for i, change := range broken {
			if choice>>i&1 == 1 {
				change(&w)
			}
		}
		if faults := riverFaults(w); impl.RiverOk(w) || len(faults) == 0 {
			t.Errorf("RiverOk(%+v) is %v, by hand it has the faults %q", w, impl.RiverOk(w), faults)
		}
	}
}
