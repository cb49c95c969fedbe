package tests

import (
	"fmt"
	"math/rand/v2"
	"slices"
	"testing"

	"loop.example/bargeman/impl"
)

// played is what RiverPlay answers: it must leave its argument alone and answer new memory.
func played(t *testing.T, list []impl.RiverEvent) impl.River {
	t.Helper()
	spare := []impl.RiverEvent{{Kind: 77, Text: "spare"}, {Kind: 78}}
	argument := withRoom(list, spare)
	first := impl.RiverPlay(argument)
	w := cloneRiver(first)
	again := impl.RiverPlay(argument)
	if !sameRiver(again, w) {
		t.Errorf("RiverPlay is %+v, and then %+v", w, again)
	}
	scribbleRiver(again)
	if !sameRiver(first, w) {
		t.Errorf("two answers of RiverPlay share memory: %+v", w)
	}
	wantOwnLists(t, first, "a list of events")
	if !slices.Equal(argument, list) || !slices.Equal(argument[len(list):len(list)+2], spare) {
		t.Errorf("RiverPlay changes its argument of %d events", len(list))
	}
	return w
}

func eventsOf(steps []happening) []impl.RiverEvent {
	var list []impl.RiverEvent
	for _, h := range steps {
		list = append(list, h.event)
	}
	return list
}

// doAll lets all possible events happen, one behind the other.
func doAll(w impl.River, list []impl.RiverEvent) impl.River {
	for _, e := range list {
		w, _ = impl.RiverDo(w, e)
	}
	return w
}

// P71
func TestPlayOfNothing(t *testing.T) {
	for _, list := range [][]impl.RiverEvent{nil, {}, {{}}, {{Kind: 14}, {Kind: -1}}} {
		if w := played(t, list); !sameRiver(w, startByHand()) || !sameRiver(w, impl.RiverStart()) {
			t.Errorf("RiverPlay(%+v) is %+v", list, w)
		}
	}
}

// P71: events that are not possible stand in between, at the start and at the end.
func TestPlayPassesImpossibleEvents(t *testing.T) {
	n := impl.Note{From: 1, Num: 1, To: 2, Until: 5, Text: "a"}
	w := played(t, []impl.RiverEvent{
		{Kind: 14}, bringEvent(0, 0), ownEvent(n), ownEvent(impl.Note{From: 1, To: 4, Until: 5, Text: "a"}), eventAt(impl.RiverOpens, 1),
		mixEvent(1, n, 0), mixEvent(2, n, 0), bringEvent(1, 0), bringEvent(0, 0), eatEvent(1, n), eatEvent(2, n), eatEvent(2, n), eventAt(impl.RiverRises, 0),
		eventAt(impl.RiverTime, 3), eventAt(impl.RiverTime, 4),
	})
	want := startWith(durableNode(1, "own "+wantText(n)), durableNode(2, "take "+wantText(n), "eat 1 1 5"), durableNode(3, "time 1"))
	want.Time, want.Sent, want.Got = 5, []impl.Note{n}, []impl.Note{n}
	want.Radio = []impl.Parcel{parcelOf(answerTo(pieceByHand(n, 1, 0), impl.FrameHave))}
	if !sameRiver(w, want) {
		t.Errorf("RiverPlay is %+v, want %+v", w, want)
	}
}

// P71: the walks, split anywhere.
func TestPlayOfFirstPart(t *testing.T) {
	for i, steps := range sampleWalks(t) {
		list := eventsOf(steps)
		last := steps[len(steps)-1].after
		if w := played(t, list); !sameRiver(w, last) {
			t.Errorf("RiverPlay of walk %d is %+v, want %+v", i, w, last)
		}
		for split := i; split < len(list); split += 23 {
			first := played(t, list[:split])
			if !sameRiver(first, steps[split].before) {
				t.Errorf("RiverPlay of %d events of walk %d is %+v, want %+v", split, i, first, steps[split].before)
			}
			if split%5 == 0 && !sameRiver(doAll(first, list[split:]), last) {
				t.Errorf("RiverPlay of %d events of walk %d, and then the rest, is not all of it", split, i)
			}
		}
	}
}

// P71: up to the limit, all events count.
func TestPlayOfManyEvents(t *testing.T) {
	links := []impl.RiverEvent{eventAt(impl.RiverCloses, 0), eventAt(impl.RiverOpens, 0)}
	for _, count := range []int{1, 2, 3, 1998, 1999, 2000} {
		list := slices.Repeat(links, 1000)[:count]
		want := startByHand()
		want.Time, want.Links[0] = count, count%2 == 0
		if w := played(t, list); !sameRiver(w, want) {
			t.Errorf("RiverPlay of %d events is %+v, want %+v", count, w, want)
		}
	}
	var list []impl.RiverEvent
	for _, steps := range sampleWalks(t)[:5] {
		list = append(list, eventsOf(steps)...)
	}
	if len(list) != impl.RiverMaxPlay {
		t.Errorf("five walks have %d events", len(list))
	}
	if w := played(t, list); !sameRiver(w, doAll(startByHand(), list)) {
		t.Errorf("RiverPlay of five walks is %+v, want %+v", w, doAll(startByHand(), list))
	}
}

// P71: more events than can be played are not played at all, whether they are possible or not.
func TestPlayOfTooManyEvents(t *testing.T) {
	for _, count := range []int{2001, 2002, 4000, 100000} {
		for _, e := range []impl.RiverEvent{{}, eventAt(impl.RiverTime, 1), eventAt(impl.RiverFalls, 0)} {
			if w := played(t, slices.Repeat([]impl.RiverEvent{e}, count)); !sameRiver(w, startByHand()) {
				t.Errorf("RiverPlay of %d events is %+v", count, w)
			}
		}
	}
	list := append([]impl.RiverEvent{eventAt(impl.RiverTime, 1)}, make([]impl.RiverEvent, 1999)...)
	if w := played(t, list); w.Time != 1 {
		t.Errorf("RiverPlay of one possible event of 2000 is %+v", w)
	}
	if w := played(t, append(list, impl.RiverEvent{})); w.Time != 0 {
		t.Errorf("RiverPlay of one possible event of 2001 is %+v", w)
	}
}

// nodeOfEvent is the only node that an event may change; none if it is -1.
func nodeOfEvent(h happening) int {
	switch h.event.Kind {
	case impl.RiverBrings:
		return h.before.Radio[h.event.Word].Dst
	case impl.RiverLoses, impl.RiverSpoils, impl.RiverOpens, impl.RiverCloses:
		return -1
	}
	return h.event.At
}

// P76
func TestOtherNodesDoNotChange(t *testing.T) {
	changed := map[int]int{}
	for _, h := range allHappenings(t) {
		for id, k := range h.after.Keepers {
			if sameKeeper(k, h.before.Keepers[id]) {
				continue
			}
			changed[h.event.Kind]++
			if !h.possible || id != nodeOfEvent(h) {
				t.Errorf("%+v changes node %d from %+v to %+v", h.event, id, h.before.Keepers[id], k)
			}
		}
	}
	for _, kind := range []int{impl.RiverOwn, impl.RiverTime, impl.RiverBrings, impl.RiverFalls, impl.RiverRises, impl.RiverEats, impl.RiverPacks, impl.RiverForces} {
		if changed[kind] < 20 {
			t.Errorf("kind %d changed a node %d times", kind, changed[kind])
		}
	}
	if changed[impl.RiverMix] > 0 {
		t.Errorf("offering changed %d nodes", changed[impl.RiverMix])
	}
}

// P77
func TestNodesThatAreNotRunningDoNotChange(t *testing.T) {
	still := map[int]int{}
	for _, h := range allHappenings(t) {
		for id, k := range h.before.Keepers {
			if k.Up {
				continue
			}
			want := k
			if h.possible && h.event.Kind == impl.RiverRises && h.event.At == id {
				want.Up = true
			} else if h.possible {
				still[h.event.Kind]++
			}
			if !sameKeeper(h.after.Keepers[id], want) {
				t.Errorf("%+v changes node %d from %+v to %+v", h.event, id, k, h.after.Keepers[id])
			}
		}
	}
	for kind := impl.RiverOwn; kind <= impl.RiverForces; kind++ {
		if still[kind] < 5 {
			t.Errorf("kind %d happened %d times while a node was not running", kind, still[kind])
		}
	}
}

// P78: a crash may only turn a clock back where a time is not durable, as no event leaves it.
func TestClocks(t *testing.T) {
	crashes := 0
	for _, h := range allHappenings(t) {
		for id, k := range h.after.Keepers {
			was, is := stateOf(h.before.Keepers[id]).Time, stateOf(k).Time
			switch {
			case h.possible && h.event.Kind == impl.RiverTime && h.event.At == id:
				was++
			case h.possible && h.event.Kind == impl.RiverFalls && h.event.At == id && is < was:
				crashes++
				continue
			}
			if is != was {
				t.Errorf("%+v makes the time of node %d %d, want %d", h.event, id, is, was)
			}
		}
	}
	if crashes < 5 {
		t.Errorf("only %d crashes turned a clock back", crashes)
	}
}

// P79: from RiverStart on, also through crashes.
func TestNoClockGoesBack(t *testing.T) {
	fell := 0
	for _, steps := range sampleWalks(t) {
		for _, h := range steps {
			for id, k := range h.after.Keepers {
				was, is := stateOf(h.before.Keepers[id]), stateOf(k)
				if is.Time < was.Time || is.Next < was.Next {
					t.Errorf("%+v makes the time %d, next %d of node %d of time %d, next %d", h.event, is.Time, is.Next, id, was.Time, was.Next)
				}
			}
			if h.possible && h.event.Kind == impl.RiverFalls && len(h.after.Keepers[h.event.At].Shelf.Log) < len(h.before.Keepers[h.event.At].Shelf.Log) {
				fell++
			}
		}
	}
	if fell < 10 {
		t.Errorf("only %d crashes lost records", fell)
	}
}

// P79: a crash right behind each event loses no time and no number.
func TestNoClockGoesBackByACrash(t *testing.T) {
	for _, steps := range sampleWalks(t) {
		for _, h := range steps {
			for id, k := range h.after.Keepers {
				if sameKeeper(k, h.before.Keepers[id]) {
					continue
				}
				was, is := stateOf(k), stateOf(impl.KeeperFall(k, 0))
				if is.Time != was.Time || is.Next != was.Next {
					t.Errorf("a crash behind %+v makes %+v of %+v", h.event, is, was)
				}
			}
		}
	}
}

// P80: also when the node crashes then.
func TestTakenMessagesWereInTheInbox(t *testing.T) {
	taken := 0
	for _, h := range allHappenings(t) {
		if h.event.Kind != impl.RiverEats || !h.possible {
			continue
		}
		taken++
		at := h.event.At
		n := h.after.Got[len(h.after.Got)-1]
		was, is := stateOf(h.before.Keepers[at]), stateOf(h.after.Keepers[at])
		if len(h.after.Got) != len(h.before.Got)+1 || n.From != h.event.From || n.Num != h.event.Num || !slices.Contains(was.Inbox, n) {
			t.Errorf("%+v takes %+v out of %+v", h.event, n, was)
		}
		if slices.ContainsFunc(is.Inbox, func(other impl.Note) bool { return nameOf(other) == nameOf(n) }) || len(is.Inbox) != len(was.Inbox)-1 {
			t.Errorf("%+v leaves %+v", h.event, is)
		}
		late, _ := impl.RiverDo(h.after, h.event)
		crashed := doAll(h.after, []impl.RiverEvent{eventAt(impl.RiverFalls, at), eventAt(impl.RiverRises, at), h.event})
		if len(late.Got) != len(h.after.Got) || len(crashed.Got) != len(h.after.Got) || modelOf(stateOf(crashed.Keepers[at])).inbox[nameOf(n)] != (impl.Note{}) {
			t.Errorf("%+v takes %+v again", h.event, n)
		}
	}
	if taken < 50 {
		t.Errorf("only %d messages were taken", taken)
	}
}

// custody is that a node has confirmed a message.
type custody struct {
	at int
	of impl.Mark
}

// confirmation is what a node confirms in a step, if it does.
func confirmation(h happening) (custody, bool) {
	count := len(h.before.Radio)
	if h.event.Kind == impl.RiverBrings && h.event.Keep == 0 {
		count--
	}
	if !h.possible || h.event.Kind != impl.RiverBrings || len(h.after.Radio) <= count {
		return custody{}, false
	}
	f, ok := unpackByHand([]byte(h.after.Radio[count].Data))
	return custody{f.Src, impl.Mark{From: f.From, Num: f.Num, Until: f.Until}}, ok && f.Kind == impl.FrameHave
}

// keepsCustody tells whether a state holds or marks a message, or it has expired there.
func keepsCustody(k impl.Keep, of impl.Mark) bool {
	m := modelOf(k)
	at := name{of.From, of.Num}
	return m.held[at].Until == of.Until || m.marks[at] == of.Until || k.Time >= of.Until
}

// P81: whatever happens behind the confirmation, and whenever the node crashes.
func TestConfirmedCustodySurvivesCrashes(t *testing.T) {
	confirmed := 0
	for _, steps := range sampleWalks(t) {
		given := map[custody]int{}
		for _, h := range steps {
			c, now := confirmation(h)
			if now {
				confirmed++
				given[c]++
			}
			for id, k := range h.after.Keepers {
				if sameKeeper(k, h.before.Keepers[id]) && !now {
					continue
				}
				fallen, most := stateOf(impl.KeeperFall(k, 0)), stateOf(impl.KeeperFall(k, 9))
				for c := range given {
					if c.at == id && !(keepsCustody(fallen, c.of) && keepsCustody(most, c.of) && keepsCustody(stateOf(k), c.of)) {
						t.Errorf("node %d, which confirmed %+v, is %+v behind %+v, and %+v if it crashes", id, c.of, stateOf(k), h.event, fallen)
					}
				}
			}
		}
	}
	if confirmed < 200 {
		t.Errorf("only %d messages were confirmed", confirmed)
	}
}

// P81: by events.
func TestConfirmedCustodySurvivesRestarts(t *testing.T) {
	for i, steps := range sampleWalks(t) {
		for _, h := range steps {
			c, ok := confirmation(h)
			if !ok {
				continue
			}
			for _, keep := range []int{-1, 0, 7, 2400} {
				crash := impl.RiverEvent{Kind: impl.RiverFalls, At: c.at, Keep: keep}
				w := doAll(h.after, []impl.RiverEvent{crash, eventAt(impl.RiverRises, c.at)})
				if !w.Keepers[c.at].Up || !keepsCustody(stateOf(w.Keepers[c.at]), c.of) {
					t.Errorf("walk %d: node %d loses %+v: %+v", i, c.at, c.of, w)
				}
			}
		}
	}
}

// P82
func TestWithoutMessagesNothingHappensButTime(t *testing.T) {
	r := rand.New(rand.NewPCG(82, 83))
	for _, s := range styles {
		for _, h := range walk(t, r, startByHand(), s.without(impl.RiverOwn), 150) {
			if len(h.after.Radio) > 0 || len(h.after.Sent) > 0 || len(h.after.Got) > 0 {
				t.Errorf("%+v leads to %+v", h.event, h.after)
			}
			for id, k := range h.after.Keepers {
				if has := stateOf(k); !sameKeep(has, impl.Keep{Id: id, Time: has.Time, Next: 1}) || len(k.Halves) > 0 {
					t.Errorf("%+v makes node %d %+v", h.event, id, has)
				}
			}
		}
	}
}

// isWhereItWasSent tells whether a message is held by its source, has arrived there, or has expired there.
func isWhereItWasSent(w impl.River, n impl.Note) bool {
	has := stateOf(w.Keepers[n.From])
	if n.From == n.To && (slices.Contains(has.Inbox, n) || slices.Contains(w.Got, n)) {
		return true
	}
	return slices.Contains(has.Held, n) || has.Time >= n.Until
}

// P83
func TestWithoutLinksMessagesStayWhereTheyWereSent(t *testing.T) {
	r := rand.New(rand.NewPCG(83, 84))
	sent, offered := 0, 0
	closed := doEvents(t, startByHand(), eventAt(impl.RiverCloses, 2), eventAt(impl.RiverCloses, 0), eventAt(impl.RiverCloses, 1))
	for _, s := range styles {
		for _, h := range walk(t, r, closed, s.without(impl.RiverOpens), 250) {
			offered = max(offered, len(h.after.Radio))
			for _, n := range h.after.Sent {
				sent++
				if !isWhereItWasSent(h.after, n) {
					t.Errorf("%+v leads to %+v, where %+v is lost", h.event, h.after, n)
				}
			}
			for id, k := range h.after.Keepers {
				has := stateOf(k)
				for _, n := range slices.Concat(has.Held, has.Inbox) {
					if n.From != id {
						t.Errorf("%+v brings %+v to node %d", h.event, n, id)
					}
				}
				if len(k.Halves) > 0 || slices.ContainsFunc(has.Marks, func(m impl.Mark) bool { return m.From != id }) {
					t.Errorf("%+v makes node %d %+v", h.event, id, k)
				}
			}
		}
	}
	if sent < 1000 || offered < 5 {
		t.Errorf("%d messages were seen, and %d frames at once", sent, offered)
	}
}

// P84
func TestNoMessageIsTakenTwice(t *testing.T) {
	for i, steps := range sampleWalks(t) {
		got := steps[len(steps)-1].after.Got
		taken := map[name]int{}
		for _, n := range got {
			taken[nameOf(n)]++
		}
		if len(taken) != len(got) {
			t.Errorf("walk %d takes %+v", i, got)
		}
	}
}

// P84: whatever arrives again, and wherever a crash comes: before the message was taken, and behind that.
func TestNoMessageIsTakenTwiceWhenItArrivesAgain(t *testing.T) {
	n := impl.Note{From: 0, Num: 1, To: 1, Until: 9, Text: "hello"}
	first := doEvents(t, startByHand(), ownEvent(n), mixEvent(0, n, 0), mixEvent(0, n, 1))
	again := []impl.RiverEvent{bringEvent(0, 1), bringEvent(1, 1)}
	crash := []impl.RiverEvent{eventAt(impl.RiverFalls, 1), eventAt(impl.RiverRises, 1)}
	later := slices.Repeat([]impl.RiverEvent{eventAt(impl.RiverTime, 1)}, 9)
	parts := [][]impl.RiverEvent{again, {eatEvent(1, n)}, crash, later, {eventAt(impl.RiverPacks, 1)}, again, {eatEvent(1, n)}}
	for _, order := range permutations([]int{0, 1, 2, 3, 4, 5, 6}) {
		w := first
		for _, part := range order {
			w = doAll(w, parts[part])
		}
		if has := stateOf(w.Keepers[1]); len(w.Got) > 1 || len(w.Got)+len(has.Inbox) > 1 {
			t.Errorf("the order %v leads to %+v", order, w)
		}
	}
}

// P85, P86: at each step, what there is was sent like that, and is where it may be.
func TestWhatArrivesWasSent(t *testing.T) {
	seen := map[string]int{}
	for _, steps := range sampleWalks(t) {
		for _, h := range steps {
			for id, k := range h.after.Keepers {
				has := stateOf(k)
				for _, n := range has.Held {
					seen["held"]++
					if n.From != id {
						seen["held on its way"]++
					}
					if !slices.Contains(h.after.Sent, n) || !isOnWayByHand(id, n.From, n.To) || id == n.To {
						t.Errorf("%+v leads to node %d, which holds %+v", h.event, id, n)
					}
				}
				for _, n := range has.Inbox {
					seen["inbox"]++
					if !slices.Contains(h.after.Sent, n) || id != n.To {
						t.Errorf("%+v leads to node %d, which has the inbox %+v", h.event, id, has.Inbox)
					}
				}
			}
			for _, n := range h.after.Got {
				seen["got"]++
				if !slices.Contains(h.after.Sent, n) {
					t.Errorf("%+v leads to %+v, which was not sent", h.event, n)
				}
			}
			if h.possible && h.event.Kind == impl.RiverEats && h.after.Got[len(h.after.Got)-1].To != h.event.At {
				t.Errorf("%+v takes %+v", h.event, h.after.Got)
			}
		}
	}
	for _, what := range []string{"held", "held on its way", "inbox", "got"} {
		if seen[what] < 500 {
			t.Errorf("%q was seen %d times", what, seen[what])
		}
	}
}

// isOneOf tells whether an element has a frame of a kind.
func isOneOf(p impl.Parcel, kind int) bool {
	f, ok := unpackByHand([]byte(p.Data))
	return ok && f.Kind == kind
}

// The walks must come to what the promises are about.
func TestWalksComeFar(t *testing.T) {
	seen := map[string]int{}
	for _, steps := range sampleWalks(t) {
		for _, h := range steps {
			if h.possible {
				countHappening(seen, h)
			}
		}
		for _, n := range steps[len(steps)-1].after.Got {
			seen[fmt.Sprintf("taken behind %d links", distance(n.From, n.To))]++
		}
	}
	for _, what := range []string{
		"full when a frame was sent", "spoilt brought", "brought twice", "late", "have", "to a node that is not running", "records lost", "partial messages lost",
		"taken behind 0 links", "taken behind 1 links", "taken behind 2 links", "taken behind 3 links", "released",
	} {
		if seen[what] < 3 {
			t.Errorf("%q was seen %d times: %v", what, seen[what], seen)
		}
	}
}

func countHappening(seen map[string]int, h happening) {
	count := func(what string, met bool) {
		if met {
			seen[what]++
		}
	}
	e := h.event
	switch e.Kind {
	case impl.RiverMix:
		count("full when a frame was sent", len(h.before.Radio) == 30)
	case impl.RiverBrings:
		p := h.before.Radio[e.Word]
		was, is := h.before.Keepers[p.Dst], h.after.Keepers[p.Dst]
		count("spoilt brought", p.Spoilt)
		count("brought twice", e.Keep != 0)
		count("late", isOneOf(p, impl.FrameLate))
		count("have", isOneOf(p, impl.FrameHave))
		count("to a node that is not running", !was.Up)
		count("released", len(stateOf(is).Held) < len(stateOf(was).Held))
	case impl.RiverFalls:
		was, is := h.before.Keepers[e.At], h.after.Keepers[e.At]
		count("records lost", len(is.Shelf.Log) < len(was.Shelf.Log))
		count("partial messages lost", len(was.Halves) > 0)
	}
}

// A message goes over all its links, is released behind each of them, arrives and is taken.
func TestMessagesGoOverAllLinks(t *testing.T) {
	for from := range 4 {
		for to := range 4 {
			for _, text := range []string{"a", "hello", alphabet} {
				n := impl.Note{From: from, Num: 1, To: to, Until: 9, Text: text}
				w := doEvents(t, startByHand(), ownEvent(n))
				ids := way(t, from, to)
				for i, id := range ids {
					wantThere(t, w.Keepers[id], n)
					if i == len(ids)-1 {
						break
					}
					for mix := range blocksOf(text) {
						w = doEvents(t, w, mixEvent(id, n, mix), bringEvent(0, 0))
					}
					if len(w.Radio) != 1 || w.Radio[0].Dst != id {
						t.Errorf("node %d does not confirm %+v: %+v", ids[i+1], n, w.Radio)
					}
					w = doEvents(t, w, bringEvent(0, 0))
					if has := stateOf(w.Keepers[id]); len(has.Held) > 0 || !slices.Contains(has.Marks, markOf(n)) {
						t.Errorf("node %d has not released %+v: %+v", id, n, has)
					}
				}
				w = doEvents(t, w, eatEvent(to, n))
				if !slices.Equal(w.Got, []impl.Note{n}) || !slices.Equal(w.Sent, []impl.Note{n}) || len(w.Radio) > 0 {
					t.Errorf("%+v leads to %+v", n, w)
				}
			}
		}
	}
}
