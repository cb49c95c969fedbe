package tests

import (
	"fmt"
	"math"
	"math/rand/v2"
	"slices"
	"strings"
	"testing"

	"loop.example/bargeman/impl"
)

func TestKeeperConstants(t *testing.T) {
	if impl.KeeperHalves != 3 || impl.KeeperMixed != 14 {
		t.Errorf("%d partial messages, %d blocks of one", impl.KeeperHalves, impl.KeeperMixed)
	}
}

func TestKeeperStart(t *testing.T) {
	for id := range impl.NoteKeepers {
		k := impl.KeeperStart(id)
		if !sameKeeper(k, impl.Keeper{Id: id, Up: true}) || !impl.KeeperOk(k) {
			t.Errorf("KeeperStart(%d) is %+v", id, k)
		}
		if has := impl.KeeperHas(k); !sameKeep(has, impl.KeepStart(id)) {
			t.Errorf("KeeperHas(KeeperStart(%d)) is %+v", id, has)
		}
	}
	for _, id := range append([]int{impl.NoteKeepers, impl.NoteKeepers + 1}, outOfRange...) {
		if k := impl.KeeperStart(id); !isZeroKeeper(k) {
			t.Errorf("KeeperStart(%d) is %+v, want the zero value", id, k)
		}
	}
}

func TestKeeperOkHoldsForValidNodes(t *testing.T) {
	for _, k := range sampleNodes() {
		if faults := nodeFaults(k); len(faults) > 0 || !impl.KeeperOk(k) {
			t.Errorf("KeeperOk(%+v) is %v, by hand it has the faults %q", k, impl.KeeperOk(k), faults)
		}
	}
}

// What is at the edge of each condition is still valid.
func TestKeeperOkAtTheEdges(t *testing.T) {
	for _, change := range []func(k *impl.Keeper){
		func(k *impl.Keeper) { k.Shelf.Forced = 0 },
		func(k *impl.Keeper) { k.Shelf.Forced = len(k.Shelf.Log) },
		func(k *impl.Keeper) { k.Up, k.Halves = false, nil },
		func(k *impl.Keeper) { k.Up, k.Halves = false, []impl.Half{} },
		func(k *impl.Keeper) { k.Halves = []impl.Half{} },
		func(k *impl.Keeper) { k.Halves[0].Got = nil },
		func(k *impl.Keeper) { k.Halves[0].Got = []impl.Mixed{} },
		func(k *impl.Keeper) {
			k.Halves = append(k.Halves, impl.Half{From: 2, Num: 9, To: 2, Until: 1, Size: 1})
		},
		func(k *impl.Keeper) { k.Halves[0].From, k.Halves[0].To = 0, 0 },
		func(k *impl.Keeper) { k.Halves[0].From, k.Halves[0].To = 3, 3 },
		func(k *impl.Keeper) { k.Halves[0].From = 1 },
		func(k *impl.Keeper) { k.Halves[0].Num = 1 },
		func(k *impl.Keeper) { k.Halves[0].Num = 99 },
		func(k *impl.Keeper) { k.Halves[0].Num = 9 },
		func(k *impl.Keeper) { k.Halves[0].From = 3 },
		func(k *impl.Keeper) { k.Halves[0].Until = 1 },
		func(k *impl.Keeper) { k.Halves[0].Until = 999 },
		func(k *impl.Keeper) { k.Halves[0].Size = 1 },
		func(k *impl.Keeper) { k.Halves[0].Size = 24 },
		func(k *impl.Keeper) { k.Halves[0].Got[0].Num = 999 },
		func(k *impl.Keeper) { k.Halves[0].Got[1].Num = 1 },
		func(k *impl.Keeper) { k.Halves[0].Got[0].Data = "\x00\x00\x00\x00" },
		func(k *impl.Keeper) { k.Halves[0].Got[0].Data = "\xff\x80;:" },
		func(k *impl.Keeper) { k.Halves[0].Got = encode(alphabet, someNumbers(14)...) },
		func(k *impl.Keeper) { k.Halves[1].Got = slices.Clone(k.Halves[0].Got) },
		func(k *impl.Keeper) { k.Halves[0].Num = 1 },                              // held
		func(k *impl.Keeper) { k.Halves[0].Num = 3 },                              // marked
		func(k *impl.Keeper) { k.Halves[0].Got = encode("hello world", 0, 1, 2) }, // enough
	} {
		k := changedNode(change)
		if faults := nodeFaults(k); len(faults) > 0 || !impl.KeeperOk(k) {
			t.Errorf("KeeperOk(%+v) is %v, by hand it has the faults %q", k, impl.KeeperOk(k), faults)
		}
		for _, a := range everyAction() {
			run(t, k, a)
		}
	}
}

// someNumbers is as many different numbers of encoded blocks.
func someNumbers(count int) []int {
	var nums []int
	for i := range count {
		nums = append(nums, 999-70*i)
	}
	return nums
}

// brokenNode is a node of which one condition is broken.
type brokenNode struct {
	fault  string
	change func(k *impl.Keeper)
}

func brokenLogs() []brokenNode {
	broken := []brokenNode{
		{"log", func(k *impl.Keeper) { k.Shelf.Forced = -1 }},
		{"log", func(k *impl.Keeper) { k.Shelf.Forced++ }},
		{"log", func(k *impl.Keeper) { k.Shelf.Forced-- }},
		{"log", func(k *impl.Keeper) { k.Shelf.Forced = len(k.Shelf.Log) + 1 }},
		{"log", func(k *impl.Keeper) { k.Shelf.Forced = math.MaxInt }},
		{"log", func(k *impl.Keeper) { k.Shelf.Log = k.Shelf.Log[:len(k.Shelf.Log)-1] }},
		{"log", func(k *impl.Keeper) { k.Shelf.Log += "1" }},
		{"log", func(k *impl.Keeper) { k.Shelf.Log += ";" }},
		{"log", func(k *impl.Keeper) { k.Shelf.Log += "06:time 5;" }},
		{"log", func(k *impl.Keeper) { k.Shelf = fullNode(1, -1).Shelf }},
		{"log", func(k *impl.Keeper) { k.Shelf = fullNode(1, -600).Shelf }},
		{"records", func(k *impl.Keeper) { k.Shelf = impl.Shelf{Log: "4:what;"} }},
	}
	for _, rec := range []string{"what", "time 4", "time 1000", "next 5", "own 1 9 3 9 a", "take 0 1 3 9 a", "let 0 9 9", "eat 0 9 9", "mark 0 3 7", "held 0 1 3 9 a", "inbox 0 2 1 4 a", "time 05", " time 5", "5"} {
		broken = append(broken, brokenNode{"records", func(k *impl.Keeper) {
			recs := append(recordsOf(*k), rec)
			k.Shelf = impl.Shelf{Log: logOf(recs...), Forced: len(logOf(recs[:len(recs)-1]...))}
		}})
	}
	return broken
}

func brokenHalves() []brokenNode {
	broken := []brokenNode{
		{"halves length", func(k *impl.Keeper) {
			for num := range 2 {
				k.Halves = append(k.Halves, impl.Half{From: 2, Num: 1 + num, To: 1, Until: 9, Size: 1})
			}
		}},
		{"halves length", func(k *impl.Keeper) {
			for num := range 90 {
				k.Halves = append(k.Halves, impl.Half{From: 2, Num: 1 + num, To: 1, Until: 9, Size: 1})
			}
		}},
		{"halves while not running", func(k *impl.Keeper) { k.Up = false }},
		{"halves while not running", func(k *impl.Keeper) { k.Up, k.Halves = false, k.Halves[:1] }},
		{"halves with one name", func(k *impl.Keeper) { k.Halves[1] = k.Halves[0] }},
		{"halves with one name", func(k *impl.Keeper) { k.Halves[1].From, k.Halves[1].Num = 0, 8 }},
		{"halves with one name", func(k *impl.Keeper) { k.Halves = append(k.Halves, k.Halves[0]) }},
		{"halves with one name", func(k *impl.Keeper) {
			k.Halves = append(k.Halves, impl.Half{From: 3, Num: 9, To: 2, Until: 99, Size: 1})
		}},
		{"blocks with one number", func(k *impl.Keeper) { k.Halves[0].Got[0].Num = k.Halves[0].Got[1].Num }},
		{"blocks with one number", func(k *impl.Keeper) { k.Halves[1].Got = append(k.Halves[1].Got, k.Halves[1].Got[0]) }},
		{"blocks with one number", func(k *impl.Keeper) { k.Halves[1].Got[2].Num = k.Halves[1].Got[0].Num }},
		{"blocks length", func(k *impl.Keeper) { k.Halves[0].Got = encode(alphabet, someNumbers(15)...) }},
		{"blocks length", func(k *impl.Keeper) { k.Halves[1].Got = encode(alphabet, firstNums(200)...) }},
	}
	for _, data := range []string{"", "a", "abc", "abcde", "\x00\x00\x00", "\u00e4\u00e4\u00e4", strings.Repeat("x", 260)} {
		broken = append(broken, brokenNode{"block data", func(k *impl.Keeper) { k.Halves[0].Got[1].Data = data }})
	}
	put := func(fault string, field func(k *impl.Keeper) *int, bad ...int) {
		for _, number := range append(bad, outOfRange...) {
			broken = append(broken, brokenNode{fault, func(k *impl.Keeper) { *field(k) = number }})
		}
	}
	put("half from", func(k *impl.Keeper) *int { return &k.Halves[1].From }, 4, 5)
	put("half to", func(k *impl.Keeper) *int { return &k.Halves[0].To }, 4, 5)
	put("half num", func(k *impl.Keeper) *int { return &k.Halves[1].Num }, 0, 100, 101)
	put("half until", func(k *impl.Keeper) *int { return &k.Halves[0].Until }, 0, 1000, 1001)
	put("half size", func(k *impl.Keeper) *int { return &k.Halves[0].Size }, 0, 25, 26)
	put("block num", func(k *impl.Keeper) *int { return &k.Halves[1].Got[2].Num }, 1000, 1001)
	return broken
}

// wantInvalidNode holds all functions against an invalid node.
func wantInvalidNode(t *testing.T, k impl.Keeper) {
	t.Helper()
	if impl.KeeperOk(k) {
		t.Errorf("KeeperOk(%+v) is true", k)
	}
	if has := impl.KeeperHas(k); !isZeroKeep(has) {
		t.Errorf("KeeperHas(%+v) is %+v, want the zero value", k, has)
	}
	for _, a := range everyAction() {
		argument := roomyKeeper(k)
		after, o := a.call(argument)
		if !strings.HasPrefix(a.what, "KeeperMix") && !isZeroKeeper(after) || !sameOutcome(o, outcome{}) {
			t.Errorf("%s of %+v is %+v, %+v, want zero values", a.what, k, after, o)
		}
		if !isUntouchedKeeper(argument, k) {
			t.Errorf("%s of %+v changes its argument", a.what, k)
		}
	}
}

func TestInvalidNodes(t *testing.T) {
	broken := map[string]int{}
	for _, c := range append(brokenLogs(), brokenHalves()...) {
		k := changedNode(c.change)
		if faults := nodeFaults(k); !slices.Equal(faults, []string{c.fault}) {
			t.Errorf("%+v has the faults %q, want %q alone", k, faults, c.fault)
		}
		broken[c.fault]++
		wantInvalidNode(t, k)
	}
	if len(broken) != 14 {
		t.Errorf("%d conditions are broken alone: %v", len(broken), broken)
	}
	for _, id := range append([]int{impl.NoteKeepers, impl.NoteKeepers + 1}, outOfRange...) {
		wantInvalidNode(t, impl.Keeper{Id: id})
		wantInvalidNode(t, impl.Keeper{Id: id, Up: true})
		wantInvalidNode(t, changedNode(func(k *impl.Keeper) { k.Id = id }))
	}
}

// Records that cannot be applied are durable, or not, or only some are; those of another node are no better.
func TestLogsThatNoStateHas(t *testing.T) {
	for _, recs := range [][]string{
		{"what"}, {"time 1", "time 1"}, {"time 2", "time 1"}, {"next 1"}, {"let 0 1 9"},
		{"take 0 1 3 9 a", "take 0 1 3 9 a"}, {"take 0 1 3 9 a", "let 0 1 9", "let 0 1 9"}, {"what", "time 1"}, {"time 1", "what", "time 2"},
	} {
		for _, s := range shelvesOf(recs) {
			for _, up := range []bool{true, false} {
				wantInvalidNode(t, impl.Keeper{Id: 1, Up: up, Shelf: s})
			}
		}
	}
	for _, s := range invalidShelves() {
		if k := (impl.Keeper{Id: 1, Up: true, Shelf: s}); impl.KeeperOk(k) || !isZeroKeep(impl.KeeperHas(k)) {
			t.Errorf("a node with the log %.100q, forced %d, is valid", s.Log, s.Forced)
		}
	}
	recs := []string{"own 1 1 3 9 a", "take 0 1 2 9 b"}
	for id := range impl.NoteKeepers {
		if ok := impl.KeeperOk(durableNode(id, recs...)); ok != (id == 1) {
			t.Errorf("node %d with records of node 1 is %v", id, ok)
		}
	}
}

// P46
func TestStateOfANodeIsWhatItsRecordsSay(t *testing.T) {
	for _, k := range sampleNodes() {
		recs := recordsOf(k)
		want, ok := stateByHand(k.Id, recs)
		argument := roomyKeeper(k)
		has := impl.KeeperHas(argument)
		if !ok || !sameKeep(has, want) {
			t.Errorf("KeeperHas(%+v) is %+v, want %+v", k, has, want)
		}
		if of, ok := impl.KeepOf(k.Id, recs); !ok || !sameKeep(has, of) {
			t.Errorf("KeeperHas(%+v) is %+v, KeepOf %+v", k, has, of)
		}
		again := impl.KeeperHas(argument)
		scribble(again)
		if !sameKeep(has, want) || !isUntouchedKeeper(argument, k) {
			t.Errorf("KeeperHas(%+v) changes its argument or shares memory", k)
		}
		scribble(impl.Keep{Held: has.Held})
		if !slices.Equal(has.Inbox, want.Inbox) {
			t.Errorf("the lists of KeeperHas(%+v) share memory", k)
		}
	}
	if has := impl.KeeperHas(plainNode()); len(has.Held) != 4 || len(has.Marks) != 4 || len(has.Inbox) != 3 || has.Time != 4 || has.Next != 6 {
		t.Errorf("the plain node has %+v", has)
	}
}

// P46: what is not durable counts too, and so it does in a node that is not running.
func TestStateHasAllRecords(t *testing.T) {
	recs := []string{"time 3", "own 1 1 3 9 a", "take 0 4 1 8 b"}
	want := impl.Keep{Id: 1, Time: 3, Next: 2, Held: []impl.Note{{From: 1, Num: 1, To: 3, Until: 9, Text: "a"}}, Marks: []impl.Mark{{From: 0, Num: 4, Until: 8}}, Inbox: []impl.Note{{From: 0, Num: 4, To: 1, Until: 8, Text: "b"}}}
	for durable := range len(recs) + 1 {
		k := nodeOf(1, durable, recs...)
		if has := impl.KeeperHas(k); !sameKeep(has, want) {
			t.Errorf("KeeperHas(%+v) is %+v, want %+v", k, has, want)
		}
		k.Up = false
		if has := impl.KeeperHas(k); !sameKeep(has, want) {
			t.Errorf("KeeperHas(%+v) is %+v, want %+v", k, has, want)
		}
	}
}

// manyKeeps is numbers of bytes that a crash may keep: each one up to a few records, and far more and far less.
func manyKeeps() []int {
	list := []int{math.MinInt, -2400, -1, 2399, 2400, 2401, math.MaxInt}
	for keep := range 70 {
		list = append(list, keep)
	}
	return list
}

// P47, P48: a message of each node to each node.
func TestOwnMessageIsDurable(t *testing.T) {
	for id := range impl.NoteKeepers {
		for to := range impl.NoteKeepers {
			k := impl.KeeperStart(id)
			for num := 1; num <= 5; num++ {
				own := impl.Note{From: id, Num: num, To: to, Until: 9 + num, Text: alphabet[:num]}
				after, o := run(t, k, owning(own.To, own.Until, own.Text))
				if o.num != num || after.Shelf.Log != k.Shelf.Log+logOf("own "+wantText(own)) || after.Shelf.Forced != len(after.Shelf.Log) {
					t.Errorf("KeeperOwn of %+v is %+v, %d", own, after, o.num)
				}
				for _, keep := range manyKeeps() {
					wantThere(t, impl.KeeperFall(after, keep), own)
					wantThere(t, impl.KeeperRise(impl.KeeperFall(after, keep)), own)
				}
				k = after
			}
		}
	}
}

// wantThere wants a message held, or here and marked if this is where it was to come.
func wantThere(t *testing.T, k impl.Keeper, n impl.Note) {
	t.Helper()
	has := impl.KeeperHas(k)
	held, arrived, marked := slices.Contains(has.Held, n), slices.Contains(has.Inbox, n), slices.Contains(has.Marks, markOf(n))
	if here := n.To == k.Id; held == here || arrived != here || marked != here {
		t.Errorf("%+v is not there in %+v", n, has)
	}
}

// P47: what was not durable before becomes so too.
func TestOwnMessageMakesTheWholeLogDurable(t *testing.T) {
	k := plainNode()
	after, o := run(t, k, owning(0, 9, " a b "))
	want := k.Shelf.Log + logOf("own 1 6 0 9  a b ")
	if o.num != 6 || after.Shelf != (impl.Shelf{Log: want, Forced: len(want)}) || !slices.EqualFunc(after.Halves, k.Halves, sameHalf) {
		t.Errorf("KeeperOwn of the plain node is %+v, %d", after, o.num)
	}
}

// P48
func TestNoNumberIsAssignedTwice(t *testing.T) {
	r := rand.New(rand.NewPCG(41, 42))
	for id := range impl.NoteKeepers {
		k := impl.KeeperStart(id)
		used := map[int]int{}
		for step := 0; len(used) < impl.NoteMaxNum && step < 400; step++ {
			after, num := impl.KeeperOwn(k, r.IntN(4), impl.KeeperHas(k).Time+1, "x")
			if num > 0 {
				used[num]++
				if num != len(used) || used[num] > 1 {
					t.Fatalf("number %d comes behind %d others: %+v", num, len(used)-1, k)
				}
			}
			after, _ = impl.KeeperTime(after)
			for _, n := range impl.KeeperHas(after).Inbox {
				after, _, _ = impl.KeeperEat(after, n.From, n.Num)
			}
			if r.IntN(3) == 0 {
				after = impl.KeeperRise(impl.KeeperFall(after, r.IntN(30)-1))
			}
			if r.IntN(9) == 0 {
				after, _ = impl.KeeperPack(after)
			}
			k = after
		}
		if len(used) != impl.NoteMaxNum {
			t.Errorf("node %d has assigned %d numbers", id, len(used))
		}
		wantUnchanged(t, k, owning(id, 999, "x"), owning((id+1)%4, 999, "x"))
	}
}

// P48: the last number is assigned, and none behind it.
func TestLastNumber(t *testing.T) {
	for to := range impl.NoteKeepers {
		k, o := run(t, durableNode(1, "next 98"), owning(to, 9, "a"))
		if o.num != 98 {
			t.Errorf("number 98 is %d", o.num)
		}
		k, o = run(t, k, owning(to, 9, "b"))
		if o.num != 99 || impl.KeeperHas(k).Next != 100 {
			t.Errorf("number 99 is %d", o.num)
		}
		wantUnchanged(t, k, owning(to, 9, "c"))
		wantUnchanged(t, durableNode(1, "next 100"), owning(to, 9, "c"))
	}
}

// P47: what cannot be a message is none, and changes nothing.
func TestImpossibleOwnMessages(t *testing.T) {
	k := plainNode()
	for _, bad := range append([]int{4, 5}, outOfRange...) {
		wantUnchanged(t, k, owning(bad, 9, "a"))
	}
	for _, bad := range append([]int{0, 1, 2, 3, 4, 1000, 1001}, outOfRange...) {
		wantUnchanged(t, k, owning(3, bad, "a"), owning(1, bad, "a"))
	}
	for _, text := range invalidNoteTexts() {
		wantUnchanged(t, k, owning(3, 9, text))
	}
	for _, text := range noteTexts() {
		if _, o := run(t, k, owning(3, 5, text)); o.num != 6 {
			t.Errorf("KeeperOwn of %q is %d", text, o.num)
		}
	}
}

// P47: messages whose Until is around the time, also around the last one.
func TestUntilOfOwnMessages(t *testing.T) {
	for _, time := range []int{0, 1, 500, 997, 998, 999} {
		k := durableNode(2)
		if time > 0 {
			k = durableNode(2, fmt.Sprintf("time %d", time))
		}
		for to := range impl.NoteKeepers {
			for _, until := range []int{time - 1, time, time + 1, time + 2} {
				_, o := run(t, k, owning(to, until, "a"))
				if possible := until > time && until <= 999; possible != (o.num == 1) {
					t.Errorf("an own message until %d at time %d is %d", until, time, o.num)
				}
			}
		}
	}
}

// fullStates has states of node 2 that cannot accept a message for another node, or one for this one.
func fullStates() map[string]impl.Keep {
	return map[string]impl.Keep{
		"held":        {Id: 2, Next: 9, Held: notesFor(6, 0, 3, 9)},
		"marks":       {Id: 2, Next: 9, Marks: marksFor(12, 0, 9)},
		"together":    {Id: 2, Next: 9, Held: notesFor(5, 0, 3, 9), Marks: marksFor(7, 3, 9)},
		"inbox":       {Id: 2, Next: 9, Marks: marksFor(6, 0, 9), Inbox: notesFor(6, 0, 2, 9)},
		"old inbox":   {Id: 2, Next: 9, Time: 8, Inbox: notesFor(6, 0, 2, 8)},
		"all of them": {Id: 2, Next: 9, Held: notesFor(6, 0, 3, 9), Marks: marksFor(6, 1, 9), Inbox: notesFor(6, 1, 2, 9)},
	}
}

func TestOwnMessageNeedsSpace(t *testing.T) {
	for list, state := range fullStates() {
		k := packedNode(state)
		for to, possible := range map[int]bool{
			0: list == "inbox" || list == "old inbox",
			2: list == "held",
			3: list == "inbox" || list == "old inbox",
		} {
			if possible {
				if _, o := run(t, k, owning(to, 9, "a")); o.num != 9 {
					t.Errorf("KeeperOwn to %d with full lists (%s) is %d", to, list, o.num)
				}
			} else {
				wantUnchanged(t, k, owning(to, 9, "a"))
			}
		}
	}
}

// loggingActions has something for the plain node that logs a record of each kind, and what record that is.
func loggingActions() map[string]action {
	return map[string]action{
		"time 5":             ticking(),
		"own 1 6 0 9 a":      owning(0, 9, "a"),
		"own 1 6 1 9 a":      owning(1, 9, "a"),
		"eat 0 3 7":          eating(0, 3),
		"take 0 40 3 9 ab":   hearing(impl.Frame{Kind: 1, Src: 0, Dst: 1, From: 0, Num: 40, To: 3, Until: 9, Size: 2, Data: "ab\x00\x00"}),
		"take 0 40 1 9 ab":   hearing(impl.Frame{Kind: 1, Src: 0, Dst: 1, From: 0, Num: 40, To: 1, Until: 9, Size: 2, Data: "ab\x00\x00"}),
		"let 0 1 9":          hearing(impl.Frame{Kind: 2, Src: 2, Dst: 1, From: 0, Num: 1, To: 3, Until: 9}),
		"let 1 2 8":          hearing(impl.Frame{Kind: 2, Src: 0, Dst: 1, From: 1, Num: 2, To: 0, Until: 8}),
		"take 3 41 0 999 ~~": hearing(impl.Frame{Kind: 1, Src: 2, Dst: 1, From: 3, Num: 41, To: 0, Until: 999, Size: 2, Mix: 31, Data: "~~\x00\x00"}),
	}
}

// P49: a crash while the record of something is written.
func TestCrashWhileARecordIsWritten(t *testing.T) {
	for rec, a := range loggingActions() {
		before := plainNode()
		before.Shelf.Forced = len(before.Shelf.Log)
		after, _ := run(t, before, a)
		stored := logOf(rec)
		if after.Shelf.Log != before.Shelf.Log+stored {
			t.Fatalf("%s logs %q, want %q", a.what, after.Shelf.Log[len(before.Shelf.Log):], stored)
		}
		was, is := impl.KeeperHas(before), impl.KeeperHas(after)
		if sameKeep(was, is) {
			t.Errorf("%s changes no state", a.what)
		}
		after.Shelf.Forced = before.Shelf.Forced
		for keep := range len(stored) + 2 {
			fallen, _ := run(t, after, falling(keep))
			want := was
			if keep >= len(stored) {
				want = is
			}
			if has := impl.KeeperHas(fallen); !sameKeep(has, want) {
				t.Errorf("%s, of which %d bytes are written, leaves %+v, want %+v", a.what, keep, has, want)
			}
		}
	}
}

// P49, P58: a release is not durable by itself; all others are.
func TestWhatIsDurableAfterwards(t *testing.T) {
	for rec, a := range loggingActions() {
		for _, before := range []impl.Keeper{plainNode(), changedNode(func(k *impl.Keeper) { k.Shelf.Forced = 0 }), changedNode(func(k *impl.Keeper) { k.Shelf.Forced = len(k.Shelf.Log) })} {
			after, _ := run(t, before, a)
			want := len(after.Shelf.Log)
			if strings.HasPrefix(rec, "let") {
				want = before.Shelf.Forced
			}
			if after.Shelf.Forced != want {
				t.Errorf("behind %s, %d of %d bytes are durable, want %d", a.what, after.Shelf.Forced, len(after.Shelf.Log), want)
			}
		}
	}
}

// P50
func TestClockAdvancesByOne(t *testing.T) {
	for _, k := range sampleNodes() {
		has := impl.KeeperHas(k)
		after, o := run(t, k, ticking())
		want := k.Up && has.Time < impl.NoteMaxTime && isTimePossible(has)
		if o.ok != want {
			t.Errorf("KeeperTime(%+v) is %v, want %v", k, o.ok, want)
		}
		if !o.ok {
			wantUnchanged(t, k, ticking())
			continue
		}
		if after.Shelf.Forced != len(after.Shelf.Log) || !slices.EqualFunc(after.Halves, k.Halves, sameHalf) {
			t.Errorf("KeeperTime(%+v) is %+v", k, after)
		}
		for _, keep := range []int{math.MinInt, -1, 0, 1, 9, 2400} {
			fallen := impl.KeeperHas(impl.KeeperFall(after, keep))
			if fallen.Time != has.Time+1 || fallen.Next != has.Next {
				t.Errorf("a crash with %d behind KeeperTime(%+v) leaves time %d", keep, k, fallen.Time)
			}
		}
	}
}

// isTimePossible tells whether no message in the inbox would outlive its mark: records of a log may lead there, though no function does.
func isTimePossible(k impl.Keep) bool {
	_, ok := doByHand(k, fmt.Sprintf("time %d", k.Time+1))
	return ok
}

// P50, P51: from the first time to the last one, by a log that is full again and again.
func TestClockOfAFullLog(t *testing.T) {
	for _, recs := range [][]string{nil, {"own 1 1 3 999 " + alphabet, "take 0 2 1 999 " + alphabet, "take 0 3 2 999 a"}} {
		k := durableNode(1, recs...)
		packed := 0
		for time := range impl.NoteMaxTime {
			after, ok := impl.KeeperTime(k)
			has := impl.KeeperHas(after)
			if !ok || has.Time != time+1 || after.Shelf.Forced != len(after.Shelf.Log) {
				t.Fatalf("at time %d KeeperTime is %+v, %v", time, after, ok)
			}
			if len(after.Shelf.Log) < len(k.Shelf.Log) {
				packed++
				want := logOf(append(recsByHand(impl.KeeperHas(k)), fmt.Sprintf("time %d", time+1))...)
				if after.Shelf.Log != want || len(k.Shelf.Log)+11 <= impl.ShelfMax {
					t.Errorf("a log of %d bytes becomes %q, want %q", len(k.Shelf.Log), after.Shelf.Log, want)
				}
			} else if want := k.Shelf.Log + logOf(fmt.Sprintf("time %d", time+1)); after.Shelf.Log != want {
				t.Errorf("a log of %d bytes becomes another one", len(k.Shelf.Log))
			}
			if fallen := impl.KeeperFall(after, 0); !sameKeep(impl.KeeperHas(fallen), has) {
				t.Errorf("a crash at time %d leaves %+v", time+1, impl.KeeperHas(fallen))
			}
			k = after
		}
		if packed < 4 {
			t.Errorf("the log was packed %d times", packed)
		}
		wantUnchanged(t, k, ticking())
	}
}

// A log that has ShelfMax bytes is valid, and still takes a record: it is packed first.
func TestLogThatIsFullToItsLastByte(t *testing.T) {
	k := fullNode(0, 0)
	if len(k.Shelf.Log) != impl.ShelfMax {
		t.Fatalf("the log has %d bytes", len(k.Shelf.Log))
	}
	time := impl.KeeperHas(k).Time
	after, _ := run(t, k, ticking())
	if want := logOf(fmt.Sprintf("time %d", time), fmt.Sprintf("time %d", time+1)); after.Shelf != (impl.Shelf{Log: want, Forced: len(want)}) {
		t.Errorf("KeeperTime is %+v, want the log %q", after, want)
	}
}

// Each record is put behind the others as long as it has space, and otherwise behind those of the state.
func TestLogIsPackedOnlyWithoutSpace(t *testing.T) {
	own := []string{"own 1 1 3 999 hello", "take 0 1 2 999 held", "take 0 2 1 999 arrived", "take 3 1 1 999 arrived", "eat 3 1 999"}
	for _, c := range []struct {
		a   action
		rec string
	}{
		{ticking(), "time %d"},
		{owning(0, 999, "a"), "own 1 2 0 999 a"},
		{owning(1, 999, alphabet), "own 1 2 1 999 " + alphabet},
		{eating(0, 2), "eat 0 2 999"},
		{hearing(impl.Frame{Kind: 1, Src: 0, Dst: 1, From: 0, Num: 40, To: 3, Until: 999, Size: 2, Data: "ab\x00\x00"}), "take 0 40 3 999 ab"},
		{hearing(impl.Frame{Kind: 1, Src: 2, Dst: 1, From: 3, Num: 40, To: 1, Until: 999, Size: 2, Data: "ab\x00\x00"}), "take 3 40 1 999 ab"},
		{hearing(impl.Frame{Kind: 2, Src: 2, Dst: 1, From: 0, Num: 1, To: 2, Until: 999}), "let 0 1 999"},
	} {
		for room := range 70 {
			for _, forced := range []int{0, len(logOf(own...)), 2400 - room} {
				k := fullNode(1, room, own...)
				k.Shelf.Forced = forced
				has := impl.KeeperHas(k)
				rec := c.rec
				if strings.Contains(rec, "%d") {
					rec = fmt.Sprintf(rec, has.Time+1)
				}
				after, _ := run(t, k, c.a)
				want, durable := k.Shelf.Log+logOf(rec), forced
				if room < len(logOf(rec)) {
					want = logOf(append(recsByHand(has), rec)...)
					durable = len(want) - len(logOf(rec))
				}
				if !strings.HasPrefix(rec, "let") {
					durable = len(want)
				}
				if after.Shelf != (impl.Shelf{Log: want, Forced: durable}) {
					t.Fatalf("%s with space for %d bytes leaves the log %q, forced %d, want %q, forced %d", c.a.what, room, after.Shelf.Log, after.Shelf.Forced, want, durable)
				}
			}
		}
	}
}

// What cannot be done does not pack a full log.
func TestImpossibleRecordDoesNotPack(t *testing.T) {
	k := fullNode(1, 0, "next 100", "take 0 1 3 999 a")
	wantUnchanged(t, k, owning(3, 999, "a"), owning(1, 999, "a"), owning(4, 999, "a"), eating(0, 1), eating(1, 1),
		hearing(impl.Frame{Kind: 2, Src: 2, Dst: 1, From: 0, Num: 1, To: 3, Until: 998}),
		hearing(impl.Frame{Kind: 2, Src: 2, Dst: 1, From: 0, Num: 1, To: 2, Until: 999}),
		hearing(impl.Frame{Kind: 1, Src: 0, Dst: 1, From: 0, Num: 2, To: 3, Until: 999, Size: 1, Data: "\x01\x00\x00\x00"}))
	own := "own 1 1 1 999 a"
	last := durableNode(1, slices.Concat([]string{own}, fillers(2400-len(logOf(own, "time 999"))), []string{"time 999"})...)
	if len(last.Shelf.Log) != impl.ShelfMax {
		t.Errorf("the log has %d bytes", len(last.Shelf.Log))
	}
	wantUnchanged(t, last, ticking(), owning(1, 999, "a"))
}

// A log is never full when it is packed: the records of a state with all that it can have leave space for each other record.
func TestPackedLogHasSpace(t *testing.T) {
	state := greatestKeep()
	state.Time = 997
	k := packedNode(state)
	if len(k.Shelf.Log) != 760 {
		t.Errorf("the greatest state has %d bytes", len(k.Shelf.Log))
	}
	run(t, k, packing(), ticking(), eating(1, 91), forcing(), ticking())
	wantUnchanged(t, k, owning(2, 999, "a"), owning(3, 999, "a"), forcing())
	// A mark of each held message would be one too many.
	wantUnchanged(t, k, hearing(impl.Frame{Kind: 2, Src: 3, Dst: 2, From: 0, Num: 91, To: 3, Until: 999}))
}

// P52
func TestMessageThatIsTakenFromTheInboxIsGone(t *testing.T) {
	k := plainNode()
	for _, want := range impl.KeeperHas(k).Inbox {
		after, o := run(t, k, eating(want.From, want.Num))
		if !o.ok || o.note != want || after.Shelf.Log != k.Shelf.Log+logOf("eat "+markWords(markOf(want))) || after.Shelf.Forced != len(after.Shelf.Log) {
			t.Errorf("KeeperEat of %+v is %+v, %+v", want, after, o)
		}
		for _, keep := range manyKeeps() {
			for _, gone := range []impl.Keeper{impl.KeeperFall(after, keep), impl.KeeperRise(impl.KeeperFall(after, keep)), after} {
				has := impl.KeeperHas(gone)
				if slices.Contains(has.Inbox, want) || len(has.Inbox) != 2 || len(has.Marks) != 4 || len(has.Held) != 4 {
					t.Errorf("KeeperEat of %+v leaves %+v", want, has)
				}
			}
		}
		wantUnchanged(t, after, eating(want.From, want.Num))
	}
}

// P52: until it expires, it is confirmed but not accepted; afterwards it is late.
func TestMessageThatWasTakenIsNotAcceptedAgain(t *testing.T) {
	n := impl.Note{From: 0, Num: 5, To: 2, Until: 4, Text: "hello world"}
	k := hearAll(t, impl.KeeperStart(2), piecesOf(n, 1, firstNums(3)))
	k, _ = run(t, k, eating(0, 5))
	for time := range 6 {
		for _, f := range piecesOf(n, 1, []int{0, 1, 2, 2, 1, 0, 7, 900}) {
			after, o := run(t, k, hearing(f))
			kind := impl.FrameHave
			if time >= n.Until {
				kind = impl.FrameLate
			}
			if len(o.frames) != 1 || o.frames[0].Kind != kind || !sameKeeper(after, k) {
				t.Errorf("at time %d %+v makes %+v of %+v, %+v", time, f, after, k, o.frames)
			}
		}
		if has := impl.KeeperHas(k); len(has.Inbox) != 0 || len(has.Held) != 0 {
			t.Errorf("at time %d it is there again: %+v", time, has)
		}
		k, _ = run(t, k, falling(0), rising(), ticking())
	}
}

// P52: what is not in the inbox cannot be taken.
func TestImpossibleEating(t *testing.T) {
	k := plainNode()
	for from := -1; from <= 4; from++ {
		for num := -1; num <= 101; num++ {
			there := slices.ContainsFunc(impl.KeeperHas(k).Inbox, func(n impl.Note) bool { return nameOf(n) == name{from, num} })
			if _, _, ok := impl.KeeperEat(k, from, num); ok != there {
				t.Errorf("KeeperEat(%d, %d) is %v", from, num, ok)
			}
		}
	}
	wantUnchanged(t, k, eating(0, 1), eating(1, 2), eating(0, 7), eating(2, 1), eating(0, 8), eating(-1, 2), eating(4, 2), eating(0, 0), eating(0, 100), eating(math.MinInt, math.MaxInt), eating(256, 2))
	for _, start := range []impl.Keeper{impl.KeeperStart(0), durableNode(0, "own 0 1 3 9 a")} {
		wantUnchanged(t, start, eating(0, 1), eating(0, 0), eating(3, 1))
	}
}

// P53
func TestOfferedBlocks(t *testing.T) {
	for id := range impl.NoteKeepers {
		for to := range impl.NoteKeepers {
			if to == id {
				continue
			}
			for size := 1; size <= impl.MixMaxText; size++ {
				own := impl.Note{From: id, Num: 1, To: to, Until: 9, Text: alphabet[:size]}
				k := durableNode(id, "own "+wantText(own))
				wantOffers(t, k, own)
			}
		}
	}
	for _, k := range sampleNodes() {
		if k.Up {
			for _, n := range impl.KeeperHas(k).Held {
				wantOffers(t, k, n)
			}
		}
	}
}

// wantOffers wants each kind of block of a held message to go on, and the first ones to be enough.
func wantOffers(t *testing.T, k impl.Keeper, n impl.Note) {
	t.Helper()
	var list []impl.Mixed
	for _, mix := range []int{0, 1, 2, 3, 4, 5, 6, 7, 100, 998, 999} {
		_, o := run(t, k, mixing(n.From, n.Num, mix))
		want := impl.Frame{Kind: 1, Src: k.Id, Dst: impl.NoteNext(k.Id, n.To), From: n.From, Num: n.Num, To: n.To, Until: n.Until, Size: len(n.Text), Mix: mix, Data: impl.MixMake(n.Text, mix)}
		if !o.ok || o.frame != want || !impl.FrameOk(o.frame) {
			t.Errorf("KeeperMix(%+v, %d, %d, %d) is %+v, %v, want %+v", k, n.From, n.Num, mix, o.frame, o.ok, want)
		}
		if mix < blocksOf(n.Text) {
			list = append(list, impl.Mixed{Num: o.frame.Mix, Data: o.frame.Data})
		}
	}
	if text, ok := impl.MixText(len(n.Text), list); !ok || text != n.Text {
		t.Errorf("the first blocks of %q give %q, %v", n.Text, text, ok)
	}
}

// P53: each number is that of a block.
func TestEachNumberIsOffered(t *testing.T) {
	k := durableNode(3, "take 2 7 3 9 here", "own 3 1 0 9 "+alphabet)
	for mix := range impl.MixMaxNum + 1 {
		if f, ok := impl.KeeperMix(k, 3, 1, mix); !ok || f != pieceByHand(impl.Note{From: 3, Num: 1, To: 0, Until: 9, Text: alphabet}, 3, mix) {
			t.Errorf("KeeperMix of number %d is %+v, %v", mix, f, ok)
		}
	}
}

// P53: nothing else is offered.
func TestImpossibleOffers(t *testing.T) {
	k := plainNode()
	for _, mix := range append([]int{impl.MixMaxNum + 1, impl.MixMaxNum + 2}, outOfRange...) {
		wantUnchanged(t, k, mixing(0, 1, mix), mixing(1, 2, mix))
	}
	for from := -1; from <= 4; from++ {
		for num := -1; num <= 101; num++ {
			there := slices.ContainsFunc(impl.KeeperHas(k).Held, func(n impl.Note) bool { return nameOf(n) == name{from, num} })
			if f, ok := impl.KeeperMix(k, from, num, 0); ok != there || !ok && f != (impl.Frame{}) {
				t.Errorf("KeeperMix(%d, %d, 0) is %+v, %v", from, num, f, ok)
			}
		}
	}
	// Marked, in the inbox, partial, and no message at all.
	wantUnchanged(t, k, mixing(2, 1, 0), mixing(0, 2, 0), mixing(0, 3, 0), mixing(0, 8, 0), mixing(3, 9, 0), mixing(-1, 1, 0), mixing(4, 1, 0), mixing(0, math.MaxInt, 0), mixing(256, 1, 0))
}

// P64
func TestPackingKeepsTheState(t *testing.T) {
	for _, k := range sampleNodes() {
		if !k.Up {
			wantUnchanged(t, k, packing())
			continue
		}
		has := impl.KeeperHas(k)
		after, o := run(t, k, packing())
		if !o.ok || !sameKeep(impl.KeeperHas(after), has) || !slices.EqualFunc(after.Halves, k.Halves, sameHalf) {
			t.Errorf("KeeperPack(%+v) is %+v, %v", k, after, o.ok)
		}
		if log := logOf(recsByHand(has)...); after.Shelf != (impl.Shelf{Log: log, Forced: len(log)}) {
			t.Errorf("KeeperPack(%+v) has the log %+v, want %q", k, after.Shelf, log)
		}
		if !sameKeep(impl.KeeperHas(impl.KeeperFall(after, 0)), has) {
			t.Errorf("a crash behind KeeperPack(%+v) leaves %+v", k, impl.KeeperFall(after, 0))
		}
		if again, o := run(t, after, packing()); !o.ok || !sameKeeper(again, after) {
			t.Errorf("KeeperPack of %+v is %+v", after, again)
		}
	}
}

// P64: what the records of a state are.
func TestPackedRecords(t *testing.T) {
	k := nodeOf(1, 2, "own 1 1 3 9 a", "time 2", "take 0 4 3 9 b", "take 0 2 1 7 c", "time 3", "own 1 2 1 5 d", "let 0 4 9", "eat 1 2 5", "time 4")
	after, o := run(t, k, packing())
	want := "6:time 4;6:next 3;10:mark 0 2 7;10:mark 0 4 9;10:mark 1 2 5;14:held 1 1 3 9 a;15:inbox 0 2 1 7 c;"
	if !o.ok || after.Shelf != (impl.Shelf{Log: want, Forced: len(want)}) {
		t.Errorf("KeeperPack(%+v) is %+v, want the log %q", k, after, want)
	}
	empty, o := run(t, impl.KeeperStart(1), packing())
	if !o.ok || empty.Shelf != (impl.Shelf{}) {
		t.Errorf("KeeperPack of an empty log is %+v, %v", empty, o.ok)
	}
}

// P65
func TestForcingChangesNothingButDurability(t *testing.T) {
	for _, k := range sampleNodes() {
		for _, end := range ends(recordsOf(k)) {
			k.Shelf.Forced = end
			after, o := run(t, k, forcing())
			if !k.Up || end == len(k.Shelf.Log) {
				wantUnchanged(t, k, forcing())
				continue
			}
			want := cloneKeeper(k)
			want.Shelf.Forced = len(k.Shelf.Log)
			if !o.ok || !sameKeeper(after, want) {
				t.Errorf("KeeperForce(%+v) is %+v, %v", k, after, o.ok)
			}
			wantUnchanged(t, after, forcing())
			if len(k.Shelf.Log) > 1000 {
				break
			}
		}
	}
}

// P66
func TestCrashedNodeKeepsTheDurableRecords(t *testing.T) {
	for _, k := range append(sampleNodes(), changedNode(func(k *impl.Keeper) { k.Shelf.Forced = 0 })) {
		recs := recordsOf(k)
		for _, keep := range append(manyKeeps(), len(k.Shelf.Log)-k.Shelf.Forced-1, len(k.Shelf.Log)-k.Shelf.Forced) {
			fallen := impl.KeeperFall(k, keep)
			want := fallenByHand(recs, k.Shelf.Forced, keep)
			if !sameKeeper(fallen, impl.Keeper{Id: k.Id, Shelf: want}) || !impl.KeeperOk(fallen) {
				t.Errorf("KeeperFall(%+v, %d) is %+v, want the log %+v", k, keep, fallen, want)
			}
			left := recordsOf(fallen)
			if !strings.HasPrefix(fallen.Shelf.Log, k.Shelf.Log[:k.Shelf.Forced]) || !slices.Equal(left, recs[:len(left)]) {
				t.Errorf("KeeperFall(%+v, %d) has the records %q", k, keep, left)
			}
			if again := impl.KeeperFall(fallen, keep); !sameKeeper(again, fallen) {
				t.Errorf("KeeperFall(%+v, %d) is %+v", fallen, keep, again)
			}
		}
	}
	run(t, plainNode(), falling(3), falling(0), rising(), rising(), falling(-1), rising())
}

// P66: a node that is not running falls too, as far as its log is not durable.
func TestCrashOfANodeThatIsNotRunning(t *testing.T) {
	k := nodeOf(1, 1, "time 1", "time 2", "time 3")
	k.Up = false
	for keep, time := range map[int]int{-1: 1, 0: 1, 8: 1, 9: 2, 17: 2, 18: 3, 99: 3} {
		fallen, _ := run(t, k, falling(keep))
		if has := impl.KeeperHas(fallen); has.Time != time || fallen.Up {
			t.Errorf("KeeperFall(%+v, %d) is %+v", k, keep, fallen)
		}
	}
}

// P67
func TestRestartedNodeHasTheStateOfItsLog(t *testing.T) {
	for _, k := range sampleNodes() {
		risen, _ := run(t, k, rising())
		want := cloneKeeper(k)
		want.Up = true
		if !sameKeeper(risen, want) {
			t.Errorf("KeeperRise(%+v) is %+v", k, risen)
		}
		for _, keep := range []int{0, 10, 25, 2400} {
			fallen := impl.KeeperFall(k, keep)
			risen := impl.KeeperRise(fallen)
			state, _ := stateByHand(k.Id, recordsOf(fallen))
			if has := impl.KeeperHas(risen); !sameKeep(has, state) || !risen.Up || len(risen.Halves) != 0 || risen.Shelf != fallen.Shelf {
				t.Errorf("KeeperRise(%+v) is %+v", fallen, risen)
			}
		}
	}
}

// P68
func TestNodeThatIsNotRunningDoesNothing(t *testing.T) {
	for _, k := range sampleNodes() {
		k.Up, k.Halves = false, nil
		has := impl.KeeperHas(k)
		if len(has.Held) > 0 {
			wantUnchanged(t, k, mixing(has.Held[0].From, has.Held[0].Num, 0))
		}
		if len(has.Inbox) > 0 {
			wantUnchanged(t, k, eating(has.Inbox[0].From, has.Inbox[0].Num))
		}
	}
	asleep := changedNode(func(k *impl.Keeper) { k.Up, k.Halves = false, nil })
	for _, k := range []impl.Keeper{{}, {Id: 3}, asleep} {
		for _, a := range everyAction() {
			if !a.atRest {
				wantUnchanged(t, k, a)
			}
		}
		for _, a := range loggingActions() {
			wantUnchanged(t, k, a)
		}
	}
	if !impl.KeeperOk(asleep) || impl.KeeperHas(asleep).Time != 4 {
		t.Error("a node that is not running is not valid, or has no state")
	}
}

// One thing after the other, as by hand; P48 and P54 to P59 are held on the way.
func TestNodeIsAsItsModel(t *testing.T) {
	r := rand.New(rand.NewPCG(43, 44))
	seen := map[string]int{}
	for id := range impl.NoteKeepers {
		for range 4 {
			k := impl.KeeperStart(id)
			m := modelOfNode(k)
			for range 500 {
				a := anyAction(r, m.state)
				before := cloneKeeper(k)
				after, o := runModel(t, k, m, a)
				wantStep(t, before, after, a)
				countStep(seen, before, after, a, o)
				k = after
				if !k.Up {
					k, _ = runModel(t, k, m, rising())
				}
			}
		}
	}
	for _, what := range []string{"own", "time", "eat", "take", "let", "packed", "late", "have", "fell", "whole, not taken", "first partial message dropped"} {
		if seen[what] < 5 {
			t.Errorf("%q was seen %d times: %v", what, seen[what], seen)
		}
	}
}

// wantStep wants what holds for all that can be done: no number is used twice, and nothing is released but by confirmation.
func wantStep(t *testing.T, before impl.Keeper, after impl.Keeper, a action) {
	t.Helper()
	was, is := impl.KeeperHas(before), impl.KeeperHas(after)
	if is.Time < was.Time && after.Up || is.Next < was.Next {
		t.Errorf("%s makes time %d, next %d of time %d, next %d", a.what, is.Time, is.Next, was.Time, was.Next)
	}
	for _, n := range was.Held {
		if !slices.Contains(is.Held, n) && is.Time < n.Until && !strings.Contains(a.what, "Kind:2") {
			t.Errorf("%s releases %+v", a.what, n)
		}
	}
}

func countStep(seen map[string]int, before impl.Keeper, after impl.Keeper, a action, o outcome) {
	recs := recordsOf(after)
	if len(after.Shelf.Log) > len(before.Shelf.Log) {
		word, _, _ := strings.Cut(recs[len(recs)-1], " ")
		seen[word]++
	}
	if len(after.Shelf.Log) < len(before.Shelf.Log) && after.Up {
		seen["packed"]++
	}
	if len(after.Shelf.Log) < len(before.Shelf.Log) && !after.Up {
		seen["fell"]++
	}
	for _, f := range o.frames {
		seen[[]string{"", "piece", "have", "late"}[f.Kind]]++
	}
	if strings.HasPrefix(a.what, "KeeperHear") && len(after.Halves) < len(before.Halves) && after.Shelf == before.Shelf {
		seen["whole, not taken"]++
	}
	if len(before.Halves) == 3 && len(after.Halves) == 3 && !sameHalf(before.Halves[0], after.Halves[0]) && sameHalf(before.Halves[1], after.Halves[0]) {
		seen["first partial message dropped"]++
	}
}
