package tests

import (
	"math/rand/v2"
	"slices"
	"testing"

	"loop.example/bargeman/impl"
)

// riverModel is a run with models as its nodes, apart from the program.
type riverModel struct {
	impl.River
	nodes []*nodeModel
}

// linkBetween was written by hand: which link a frame between two nodes takes.
var linkBetween = map[[2]int]int{{0, 1}: 0, {1, 0}: 0, {1, 2}: 1, {2, 1}: 1, {2, 3}: 2, {3, 2}: 2}

// modelOfRiver is the model of a valid run.
func modelOfRiver(w impl.River) *riverModel {
	m := &riverModel{River: cloneRiver(w)}
	for _, k := range w.Keepers {
		m.nodes = append(m.nodes, modelOfNode(k))
	}
	return m
}

func (m *riverModel) river() impl.River {
	w := cloneRiver(m.River)
	for i, node := range m.nodes {
		w.Keepers[i] = node.keeper()
	}
	return w
}

// act does something with a node; one that is not running does nothing, but for what is done with it at rest.
func (m *nodeModel) act(a action) outcome {
	if !m.up && !a.atRest {
		return outcome{}
	}
	return a.byHand(m)
}

func (m *riverModel) hasNode(id int) bool {
	return id == 0 || id == 1 || id == 2 || id == 3
}

// at does something with a node, if there is one.
func (m *riverModel) at(id int, a action) outcome {
	if !m.hasNode(id) {
		return outcome{}
	}
	return m.nodes[id].act(a)
}

// turns lets a node fall that is running, or one rise that is not.
func (m *riverModel) turns(id int, up bool, a action) bool {
	if !m.hasNode(id) || m.nodes[id].up != up {
		return false
	}
	m.at(id, a)
	return true
}

func (m *riverModel) send(frames []impl.Frame) {
	for _, f := range frames {
		if len(m.Radio) < 30 {
			m.Radio = append(m.Radio, parcelOf(f))
		}
	}
}

// parcelOf is a frame in transit.
func parcelOf(f impl.Frame) impl.Parcel {
	return impl.Parcel{Src: f.Src, Dst: f.Dst, Data: string(packByHand(f))}
}

// do is RiverDo of a valid run, as the document tells it.
func (m *riverModel) do(e impl.RiverEvent) bool {
	if m.Time == 99999 || !m.happens(e) {
		return false
	}
	m.Time++
	return true
}

func (m *riverModel) happens(e impl.RiverEvent) bool {
	switch e.Kind {
	case 1:
		return m.sends(e)
	case 2:
		return m.at(e.At, ticking()).ok
	case 3:
		o := m.at(e.At, mixing(e.From, e.Num, e.Mix))
		if o.ok {
			m.send([]impl.Frame{o.frame})
		}
		return o.ok
	case 4, 5, 6:
		return e.Word >= 0 && e.Word < len(m.Radio) && m.happensInTransit(e)
	case 7:
		return m.turns(e.At, true, falling(e.Keep))
	case 8:
		return m.turns(e.At, false, rising())
	case 9, 10:
		ok := e.At >= 0 && e.At <= 2 && m.Links[e.At] == (e.Kind == 10)
		if ok {
			m.Links[e.At] = !m.Links[e.At]
		}
		return ok
	case 11:
		return m.takes(e)
	case 12:
		return m.at(e.At, packing()).ok
	case 13:
		return m.at(e.At, forcing()).ok
	}
	return false
}

func (m *riverModel) sends(e impl.RiverEvent) bool {
	if len(m.Sent) == 6 {
		return false
	}
	num := m.at(e.At, owning(e.To, e.Until, e.Text)).num
	if num != 0 {
		m.Sent = append(m.Sent, impl.Note{From: e.At, Num: num, To: e.To, Until: e.Until, Text: e.Text})
	}
	return num != 0
}

func (m *riverModel) takes(e impl.RiverEvent) bool {
	if len(m.Got) == 6 {
		return false
	}
	o := m.at(e.At, eating(e.From, e.Num))
	if o.ok {
		m.Got = append(m.Got, o.note)
	}
	return o.ok
}

func (m *riverModel) happensInTransit(e impl.RiverEvent) bool {
	p := m.Radio[e.Word]
	switch e.Kind {
	case 4:
		if !m.Links[linkBetween[[2]int{p.Src, p.Dst}]] {
			return false
		}
		if e.Keep == 0 {
			m.Radio = slices.Delete(m.Radio, e.Word, e.Word+1)
		}
		f, ok := unpackByHand([]byte(p.Data))
		if ok && f.Src == p.Src && f.Dst == p.Dst {
			m.send(m.at(p.Dst, hearing(f)).frames)
		}
	case 5:
		m.Radio = slices.Delete(m.Radio, e.Word, e.Word+1)
	case 6:
		if e.Mix < 0 || e.Mix >= len(p.Data) || p.Spoilt || e.Keep < 1 || e.Keep > 255 {
			return false
		}
		m.Radio[e.Word].Data = p.Data[:e.Mix] + string([]byte{p.Data[e.Mix] ^ byte(e.Keep)}) + p.Data[e.Mix+1:]
		m.Radio[e.Word].Spoilt = true
	}
	return true
}

// stateOf is the state of a valid node, by hand.
func stateOf(k impl.Keeper) impl.Keep {
	state, _ := stateByHand(k.Id, recordsOf(k))
	return state
}

// wantOwnLists wants no two lists of a run to share memory: each is changed in the run and in a copy of it, and the others stay the same.
func wantOwnLists(t *testing.T, w impl.River, what any) {
	t.Helper()
	changes := []func(w impl.River){
		func(w impl.River) { fill(w.Links, w.Links[0] != true) },
		func(w impl.River) { fill(w.Radio, impl.Parcel{Src: 66, Data: "scribble"}) },
		func(w impl.River) { fill(w.Sent, impl.Note{From: 66, Text: "scribble"}) },
		func(w impl.River) { fill(w.Got, impl.Note{From: 67, Text: "scribble"}) },
	}
	for i := range w.Keepers {
		wantOwnBlocks(t, cloneKeeper(w.Keepers[i]), "a copy")
		changes = append(changes, func(w impl.River) { scribbleKeeper(w.Keepers[i]) })
	}
	changes = append(changes, func(w impl.River) { fill(w.Keepers, impl.Keeper{Id: 66}) })
	want := cloneRiver(w)
	for _, change := range changes {
		change(w)
		change(want)
		if !sameRiver(w, want) {
			t.Errorf("lists of the run behind %+v share memory: %+v, want %+v", what, w, want)
		}
	}
}

// answeredEvent is what RiverDo answers: it must leave its argument alone and answer new memory.
func answeredEvent(t *testing.T, w impl.River, e impl.RiverEvent) (impl.River, bool) {
	t.Helper()
	argument := roomyRiver(w)
	first, ok := impl.RiverDo(argument, e)
	after := cloneRiver(first)
	again, okAgain := impl.RiverDo(argument, e)
	if !sameRiver(again, after) || okAgain != ok {
		t.Errorf("RiverDo(%+v, %+v) is %+v, %v, and then %+v, %v", w, e, after, ok, again, okAgain)
	}
	scribbleRiver(again)
	if !sameRiver(first, after) {
		t.Errorf("two answers of RiverDo(%+v, %+v) share memory", w, e)
	}
	if !isUntouchedRiver(argument, w) {
		t.Errorf("RiverDo(%+v, %+v) changes its argument or shares memory with it", w, e)
	}
	if len(first.Links) > 0 {
		wantOwnLists(t, first, e)
	}
	return after, ok
}

// happening is an event in a run, and the run behind it.
type happening struct {
	before   impl.River
	event    impl.RiverEvent
	after    impl.River
	possible bool
}

// happen lets an event happen in a valid run, which must be as by hand, and as P70 promises.
func happen(t *testing.T, w impl.River, e impl.RiverEvent) happening {
	t.Helper()
	after, ok := answeredEvent(t, w, e)
	m := modelOfRiver(w)
	if wantOk := m.do(e); ok != wantOk || !sameRiver(after, m.river()) {
		t.Fatalf("RiverDo(%+v, %+v) is %+v, %v, want %+v, %v", w, e, after, ok, m.river(), wantOk)
	}
	if faults := riverFaults(after); len(faults) > 0 || !impl.RiverOk(after) {
		t.Fatalf("RiverDo(%+v, %+v) is %+v, which has the faults %q", w, e, after, faults)
	}
	if !ok && !sameRiver(after, w) || ok && after.Time != w.Time+1 {
		t.Errorf("RiverDo(%+v, %+v) is %+v, %v", w, e, after, ok)
	}
	if !startsWith(after.Sent, w.Sent) || !startsWith(after.Got, w.Got) {
		t.Errorf("RiverDo(%+v, %+v) is %+v, which has lost messages", w, e, after)
	}
	return happening{before: w, event: e, after: after, possible: ok}
}

func startsWith(list []impl.Note, first []impl.Note) bool {
	return len(list) >= len(first) && slices.Equal(list[:len(first)], first)
}

// doEvents lets events happen that are all possible.
func doEvents(t *testing.T, w impl.River, events ...impl.RiverEvent) impl.River {
	t.Helper()
	for _, e := range events {
		h := happen(t, w, e)
		if !h.possible {
			t.Fatalf("%+v is not possible in %+v", e, w)
		}
		w = h.after
	}
	return w
}

// wantImpossible wants events to change nothing.
func wantImpossible(t *testing.T, w impl.River, events ...impl.RiverEvent) {
	t.Helper()
	for _, e := range events {
		if h := happen(t, w, e); h.possible || !sameRiver(h.after, w) {
			t.Errorf("RiverDo(%+v, %+v) is %+v, %v, want it not possible", w, e, h.after, h.possible)
		}
	}
}

// wantRun wants an event to be possible and a run to be behind it, but for the time, which advances.
func wantRun(t *testing.T, w impl.River, e impl.RiverEvent, change func(w *impl.River)) impl.River {
	t.Helper()
	want := cloneRiver(w)
	want.Time++
	change(&want)
	h := happen(t, w, e)
	if !h.possible || !sameRiver(h.after, want) {
		t.Errorf("RiverDo(%+v, %+v) is %+v, %v, want %+v", w, e, h.after, h.possible, want)
	}
	return h.after
}

// openRiver is the plain run with all nodes running and all links available.
func openRiver() impl.River {
	return changedRiver(func(w *impl.River) {
		w.Links = []bool{true, true, true}
		for i := range w.Keepers {
			w.Keepers[i].Up = true
		}
	})
}

// sampleRivers has runs in which many events are possible, and others in which few are.
func sampleRivers() []impl.River {
	rivers := []impl.River{startByHand(), plainRiver(), openRiver()}
	for _, change := range []func(w *impl.River){
		func(w *impl.River) { w.Links = []bool{false, false, false} },
		func(w *impl.River) { w.Radio = slices.Repeat(w.Radio[:3], 10) },
		func(w *impl.River) { w.Radio = slices.Repeat(w.Radio[:1], 29) },
		func(w *impl.River) { w.Sent, w.Got = slices.Repeat(w.Sent, 2), slices.Repeat(w.Got, 3) },
		func(w *impl.River) { w.Time = 99998 },
		func(w *impl.River) { w.Time = 99999 },
		func(w *impl.River) {
			for i, k := range w.Keepers {
				w.Keepers[i] = impl.Keeper{Id: i, Shelf: k.Shelf}
			}
		},
		func(w *impl.River) {
			for i := range w.Keepers {
				w.Keepers[i] = fullNode(i, 5*i)
			}
		},
	} {
		w := openRiver()
		change(&w)
		rivers = append(rivers, w)
	}
	return rivers
}

// eventsAt is events that have to do with a node, or with a link.
func eventsAt(w impl.River, at int) []impl.RiverEvent {
	events := []impl.RiverEvent{
		{Kind: impl.RiverOwn, At: at, To: 0, Until: 999, Text: "a"},
		{Kind: impl.RiverOwn, At: at, To: 3, Until: 500, Text: alphabet},
		{Kind: impl.RiverOwn, At: at, To: 4, Until: 500, Text: "a"},
		{Kind: impl.RiverOwn, At: at, To: 2, Until: 0, Text: "a"},
		{Kind: impl.RiverOwn, At: at, To: 1, Until: 999},
		{Kind: impl.RiverTime, At: at},
		{Kind: impl.RiverMix, At: at, From: 3, Num: 99, Mix: 1},
		{Kind: impl.RiverEats, At: at, From: 3, Num: 99},
		{Kind: impl.RiverPacks, At: at},
		{Kind: impl.RiverForces, At: at},
		{Kind: impl.RiverRises, At: at},
		{Kind: impl.RiverOpens, At: at},
		{Kind: impl.RiverCloses, At: at},
	}
	for _, keep := range []int{-1, 0, 1, 14, 30, 2400} {
		events = append(events, impl.RiverEvent{Kind: impl.RiverFalls, At: at, Keep: keep})
	}
	if at < 0 || at > 3 {
		return events
	}
	for _, n := range stateOf(w.Keepers[at]).Held {
		for _, mix := range []int{-1, 0, 1, 5, 999, 1000} {
			events = append(events, impl.RiverEvent{Kind: impl.RiverMix, At: at, From: n.From, Num: n.Num, Mix: mix})
		}
	}
	for _, n := range stateOf(w.Keepers[at]).Inbox {
		events = append(events, impl.RiverEvent{Kind: impl.RiverEats, At: at, From: n.From, Num: n.Num})
	}
	return events
}

// eventsInTransit is events that have to do with an element of Radio.
func eventsInTransit(w impl.River, word int) []impl.RiverEvent {
	events := []impl.RiverEvent{
		{Kind: impl.RiverBrings, Word: word},
		{Kind: impl.RiverBrings, Word: word, Keep: 1},
		{Kind: impl.RiverLoses, Word: word},
	}
	last := 9
	if word >= 0 && word < len(w.Radio) {
		last = len(w.Radio[word].Data) - 1
	}
	for _, mix := range []int{-1, 0, last, last + 1} {
		for _, keep := range []int{0, 1, 255, 256} {
			events = append(events, impl.RiverEvent{Kind: impl.RiverSpoils, Word: word, Mix: mix, Keep: keep})
		}
	}
	return events
}

// sampleEvents has events of each kind, possible and not possible in a run.
func sampleEvents(w impl.River) []impl.RiverEvent {
	var events []impl.RiverEvent
	for at := -1; at <= 4; at++ {
		events = append(events, eventsAt(w, at)...)
	}
	for _, word := range []int{-1, 0, 1, 2, len(w.Radio) / 2, len(w.Radio) - 1, len(w.Radio)} {
		events = append(events, eventsInTransit(w, word)...)
	}
	for _, kind := range append([]int{0, 14, 15}, outOfRange...) {
		events = append(events, impl.RiverEvent{Kind: kind})
	}
	return events
}

var knownHappenings []happening

// sampleHappenings has all sample events in all sample runs.
func sampleHappenings(t *testing.T) []happening {
	t.Helper()
	if len(knownHappenings) == 0 {
		for _, w := range sampleRivers() {
			for _, e := range sampleEvents(w) {
				knownHappenings = append(knownHappenings, happen(t, w, e))
			}
		}
	}
	return knownHappenings
}

// style is how often each kind of event is tried.
type style [14]int

// styles lean to different things: calm weather, crashes, a jam in transit, changed and repeated frames, and clocks that advance fast.
var styles = []style{
	{4, 2, 3, 40, 60, 1, 1, 1, 8, 10, 1, 3, 1, 2},
	{4, 2, 3, 40, 60, 2, 2, 6, 20, 10, 1, 3, 1, 2},
	{4, 2, 2, 60, 20, 1, 2, 2, 8, 8, 1, 2, 1, 2},
	{8, 2, 3, 40, 60, 8, 20, 1, 10, 10, 1, 2, 1, 1},
	{4, 3, 20, 30, 40, 2, 2, 2, 8, 8, 1, 2, 1, 1},
}

func (s style) kind(r *rand.Rand) int {
	sum := 0
	for _, weight := range s {
		sum += weight
	}
	rest := r.IntN(sum)
	for kind, weight := range s {
		if rest < weight {
			return kind
		}
		rest -= weight
	}
	return 0
}

// without is the style without some kinds of events.
func (s style) without(kinds ...int) style {
	for _, kind := range kinds {
		s[kind] = 0
	}
	return s
}

// place is a message at a node.
type place struct {
	at   int
	note impl.Note
}

// placesOf is all messages that are in a list of the states of nodes.
func placesOf(w impl.River, list func(k impl.Keep) []impl.Note) []place {
	var places []place
	for id, k := range w.Keepers {
		for _, n := range list(stateOf(k)) {
			places = append(places, place{id, n})
		}
	}
	return places
}

func heldOf(k impl.Keep) []impl.Note { return k.Held }

func inboxOf(k impl.Keep) []impl.Note { return k.Inbox }

// anyEvent is something that often is possible in a run.
func anyEvent(r *rand.Rand, w impl.River, s style) impl.RiverEvent {
	e := impl.RiverEvent{Kind: s.kind(r), At: r.IntN(4), Word: r.IntN(max(1, len(w.Radio)))}
	elsewhere := place{e.At, anyNote(r)}
	switch e.Kind {
	case 0:
		return oddEvent(r)
	case impl.RiverOwn:
		state := stateOf(w.Keepers[e.At])
		e.To, e.Until = r.IntN(4), min(999, state.Time+1+r.IntN(20)*r.IntN(20))
		e.Text = smallText(impl.Note{From: e.At, Num: state.Next})
	case impl.RiverMix:
		p := anyElement(r, placesOf(w, heldOf), elsewhere)
		e.At, e.From, e.Num, e.Mix = p.at, p.note.From, p.note.Num, r.IntN(max(1, blocksOf(p.note.Text)))
		if r.IntN(6) == 0 {
			e.Mix = r.IntN(1000)
		}
	case impl.RiverBrings:
		e.Keep = r.IntN(4) / 3
	case impl.RiverSpoils:
		e.Mix, e.Keep = r.IntN(17), 1+r.IntN(255)
	case impl.RiverFalls:
		e.Keep = r.IntN(60) - 20
	case impl.RiverOpens, impl.RiverCloses:
		e.At = r.IntN(3)
	case impl.RiverEats:
		p := anyElement(r, placesOf(w, inboxOf), elsewhere)
		e.At, e.From, e.Num = p.at, p.note.From, p.note.Num
	}
	return e
}

// likelyEvent is possible more often than others are.
func likelyEvent(r *rand.Rand, w impl.River, s style) impl.RiverEvent {
	e := anyEvent(r, w, s)
	for range 3 {
		if modelOfRiver(w).do(e) {
			return e
		}
		e = anyEvent(r, w, s)
	}
	return e
}

// oddEvent has numbers that no event may have.
func oddEvent(r *rand.Rand) impl.RiverEvent {
	odd := func() int { return r.IntN(40) - 5 }
	return impl.RiverEvent{Kind: odd() / 2, At: odd(), From: odd(), Num: odd(), Word: odd(), Mix: odd(), Keep: odd(), To: odd(), Until: odd(), Text: anyText(r, "abc ")}
}

// walk lets so many events happen, one behind the other, from a run on.
func walk(t *testing.T, r *rand.Rand, w impl.River, s style, count int) []happening {
	t.Helper()
	var steps []happening
	for range count {
		h := happen(t, w, likelyEvent(r, w, s))
		steps = append(steps, h)
		w = h.after
	}
	return steps
}

var knownWalks [][]happening

// sampleWalks has many events, one behind the other, from RiverStart on.
func sampleWalks(t *testing.T) [][]happening {
	t.Helper()
	if len(knownWalks) == 0 {
		r := rand.New(rand.NewPCG(71, 72))
		for range 4 {
			for _, s := range styles {
				knownWalks = append(knownWalks, walk(t, r, startByHand(), s, 400))
			}
		}
	}
	return knownWalks
}

// allHappenings has the sample events and the steps of the walks.
func allHappenings(t *testing.T) []happening {
	t.Helper()
	return slices.Concat(append(sampleWalks(t), sampleHappenings(t))...)
}
