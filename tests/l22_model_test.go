package tests

import (
	"fmt"
	"math/rand/v2"
	"slices"
	"strings"
	"testing"

	"loop.example/bargeman/impl"
)

// knownStates has states that were found by hand, by node and log: long logs are met again and again, often with one record more.
var knownStates = map[string]impl.Keep{}

// stateByHand is the state that records lead to, apart from the program.
func stateByHand(id int, recs []string) (impl.Keep, bool) {
	key := fmt.Sprint(id, logOf(recs...))
	if k, ok := knownStates[key]; ok {
		return k, true
	}
	k, from := impl.Keep{Id: id, Next: 1}, 0
	if last := len(recs) - 1; last > 0 {
		if shorter, ok := knownStates[fmt.Sprint(id, logOf(recs[:last]...))]; ok {
			k, from = shorter, last
		}
	}
	for _, rec := range recs[from:] {
		after, ok := doByHand(k, rec)
		if !ok {
			return impl.Keep{}, false
		}
		k = after
	}
	knownStates[key] = k
	return k, true
}

// nodeFaults is what is wrong with a node, each condition of the document apart from the program.
func nodeFaults(k impl.Keeper) []string {
	found := faultSet{}
	add := found.add
	add(k.Id < 0 || k.Id > 3, "id")
	recs, size := readByHand(k.Shelf.Log)
	add(size < len(k.Shelf.Log) || size > 2400 || !slices.Contains(ends(recs), k.Shelf.Forced), "log")
	if len(found) == 0 {
		_, ok := stateByHand(k.Id, recs)
		add(!ok, "records")
		_, ok = stateByHand(k.Id, recs[:slices.Index(ends(recs), k.Shelf.Forced)])
		add(!ok, "durable records")
	}
	add(len(k.Halves) > 3, "halves length")
	add(len(k.Halves) > 0 && !k.Up, "halves while not running")
	names := map[name]int{}
	for _, h := range k.Halves {
		names[name{h.From, h.Num}]++
		add(h.From < 0 || h.From > 3, "half from")
		add(h.To < 0 || h.To > 3, "half to")
		add(h.Num < 1 || h.Num > 99, "half num")
		add(h.Until < 1 || h.Until > 999, "half until")
		add(h.Size < 1 || h.Size > 24, "half size")
		add(len(h.Got) > 14, "blocks length")
		nums := map[int]int{}
		for _, m := range h.Got {
			nums[m.Num]++
			add(m.Num < 0 || m.Num > 999, "block num")
			add(len(m.Data) != 4, "block data")
		}
		add(len(nums) < len(h.Got), "blocks with one number")
	}
	add(len(names) < len(k.Halves), "halves with one name")
	return found.list()
}

// nodeModel is a node as its records, of which the first ones are durable, and its state, apart from the program.
type nodeModel struct {
	model
	up     bool
	state  impl.Keep
	halves []impl.Half
}

// modelOfNode is the model of a valid node.
func modelOfNode(k impl.Keeper) *nodeModel {
	recs, _ := readByHand(k.Shelf.Log)
	state, _ := stateByHand(k.Id, recs)
	durable := slices.Index(ends(recs), k.Shelf.Forced)
	return &nodeModel{model: model{recs: recs, durable: durable}, up: k.Up, state: state, halves: cloneHalves(k.Halves)}
}

func (m *nodeModel) keeper() impl.Keeper {
	return impl.Keeper{Id: m.state.Id, Up: m.up, Shelf: m.shelf(), Halves: cloneHalves(m.halves)}
}

func (m *nodeModel) force() {
	m.durable = len(m.recs)
}

func (m *nodeModel) pack() {
	m.recs = recsByHand(m.state)
	m.force()
}

func (m *nodeModel) log(rec string) bool {
	after, ok := doByHand(m.state, rec)
	if !ok {
		return false
	}
	if len(logOf(m.recs...))+len(logOf(rec)) > 2400 {
		m.pack()
	}
	m.recs = append(slices.Clone(m.recs), rec)
	m.state = after
	return true
}

func (m *nodeModel) logAndForce(rec string) bool {
	if !m.log(rec) {
		return false
	}
	m.force()
	return true
}

// textByHand is MixText, apart from the program but for the numbers that select blocks.
func textByHand(size int, list []impl.Mixed) (string, bool) {
	blocks := peelByHand((size+3)/4, list)
	text := strings.Join(blocks, "")
	if slices.Contains(blocks, "") || strings.Trim(text[size:], "\x00") != "" {
		return "", false
	}
	return text[:size], true
}

func (m *nodeModel) holds(at name) (impl.Note, bool) {
	n, ok := modelOf(m.state).held[at]
	return n, ok
}

func (m *nodeModel) marks(at name) bool {
	return modelOf(m.state).marks[at] != 0
}

// hear is KeeperHear, as the document tells it, sentence by sentence.
func (m *nodeModel) hear(f impl.Frame) []impl.Frame {
	if len(frameFaults(f)) > 0 || f.Dst != m.state.Id {
		return nil
	}
	at := name{f.From, f.Num}
	if f.Kind == 2 {
		n, ok := m.holds(at)
		if ok && n.To == f.To && n.Until == f.Until {
			m.log("let " + markWords(markOf(n)))
		}
	}
	if f.Kind != 1 {
		return nil
	}
	answer := impl.Frame{Src: f.Dst, Dst: f.Src, From: f.From, Num: f.Num, To: f.To, Until: f.Until}
	if f.Until <= m.state.Time {
		answer.Kind = 3
		return []impl.Frame{answer}
	}
	answer.Kind = 2
	if _, held := m.holds(at); held || m.marks(at) {
		m.force()
		return []impl.Frame{answer}
	}
	if f.From == m.state.Id {
		return nil
	}
	text, ok := m.collect(f)
	if ok && m.logAndForce("take "+wantText(impl.Note{From: f.From, Num: f.Num, To: f.To, Until: f.Until, Text: text})) {
		return []impl.Frame{answer}
	}
	return nil
}

func (m *nodeModel) collect(f impl.Frame) (string, bool) {
	place := slices.IndexFunc(m.halves, func(h impl.Half) bool { return h.From == f.From && h.Num == f.Num })
	if place < 0 {
		m.halves = append(slices.Clone(m.halves), impl.Half{From: f.From, Num: f.Num, To: f.To, Until: f.Until, Size: f.Size})
		if len(m.halves) > 3 {
			m.halves = m.halves[1:]
		}
		place = len(m.halves) - 1
	}
	h := m.halves[place]
	if h.To != f.To || h.Until != f.Until || h.Size != f.Size {
		return "", false
	}
	var got []impl.Mixed
	for _, block := range h.Got {
		if block.Num != f.Mix {
			got = append(got, block)
		}
	}
	got = append(got, impl.Mixed{Num: f.Mix, Data: f.Data})
	got = got[max(0, len(got)-14):]
	m.halves = slices.Clone(m.halves)
	m.halves[place].Got = got
	text, ok := textByHand(f.Size, got)
	if ok {
		m.halves = slices.Delete(m.halves, place, place+1)
	}
	return text, ok
}

func cloneHalves(halves []impl.Half) []impl.Half {
	copies := slices.Clone(halves)
	for i := range copies {
		copies[i].Got = slices.Clone(copies[i].Got)
	}
	return copies
}

func cloneKeeper(k impl.Keeper) impl.Keeper {
	k.Halves = cloneHalves(k.Halves)
	return k
}

func sameHalf(a impl.Half, b impl.Half) bool {
	return a.From == b.From && a.Num == b.Num && a.To == b.To && a.Until == b.Until && a.Size == b.Size && slices.Equal(a.Got, b.Got)
}

func sameKeeper(a impl.Keeper, b impl.Keeper) bool {
	return a.Id == b.Id && a.Up == b.Up && a.Shelf == b.Shelf && slices.EqualFunc(a.Halves, b.Halves, sameHalf)
}

func isZeroKeeper(k impl.Keeper) bool {
	return sameKeeper(k, impl.Keeper{})
}

// spareHalf and spareMixed are put behind the ends of lists, where no call may change them.
var spareHalf = impl.Half{From: 77, Num: 77, To: 77, Until: 77, Size: 77}

var spareMixed = impl.Mixed{Num: 77, Data: "spare"}

// roomyKeeper is a node whose lists have room for more behind their ends.
func roomyKeeper(k impl.Keeper) impl.Keeper {
	halves := append(slices.Clone(k.Halves), spareHalf, spareHalf)
	for i := range halves {
		got := append(slices.Clone(halves[i].Got), spareMixed, spareMixed)
		halves[i].Got = got[:len(got)-2]
	}
	k.Halves = halves[:len(k.Halves)]
	return k
}

// isUntouchedKeeper tells whether a roomy node is as it was, also behind the ends of its lists.
func isUntouchedKeeper(k impl.Keeper, was impl.Keeper) bool {
	halves := k.Halves[:len(k.Halves)+2]
	for i, h := range halves {
		behind := h.Got[len(h.Got) : len(h.Got)+2]
		if behind[0] != spareMixed || behind[1] != spareMixed || i >= len(k.Halves) && !sameHalf(h, spareHalf) {
			return false
		}
	}
	return sameKeeper(k, was)
}

// scribbleBlocks changes all memory of a list of blocks, up to its capacity.
func scribbleBlocks(list []impl.Mixed) {
	list = list[:cap(list)]
	for i := range list {
		list[i] = impl.Mixed{Num: 66, Data: "scribble"}
	}
}

// scribbleKeeper changes all memory of a node.
func scribbleKeeper(k impl.Keeper) {
	halves := k.Halves[:cap(k.Halves)]
	for i := range halves {
		scribbleBlocks(halves[i].Got)
		halves[i] = impl.Half{From: 66, Num: 66, To: 66, Until: 66, Size: 66}
	}
}

// outcome is what a function answers beside the node.
type outcome struct {
	num    int
	ok     bool
	note   impl.Note
	frame  impl.Frame
	frames []impl.Frame
}

func cloneOutcome(o outcome) outcome {
	o.frames = slices.Clone(o.frames)
	return o
}

func sameOutcome(a outcome, b outcome) bool {
	return a.num == b.num && a.ok == b.ok && a.note == b.note && a.frame == b.frame && slices.Equal(a.frames, b.frames)
}

// action is a call of a function of a node: by the program, and by hand of one that is running.
type action struct {
	what   string
	call   func(k impl.Keeper) (impl.Keeper, outcome)
	byHand func(m *nodeModel) outcome
	// atRest tells whether byHand is for a node that is not running too.
	atRest bool
}

func owning(to int, until int, text string) action {
	return action{
		what: fmt.Sprintf("KeeperOwn(%d, %d, %q)", to, until, text),
		call: func(k impl.Keeper) (impl.Keeper, outcome) {
			after, num := impl.KeeperOwn(k, to, until, text)
			return after, outcome{num: num}
		},
		byHand: func(m *nodeModel) outcome {
			num := m.state.Next
			if m.logAndForce("own " + wantText(impl.Note{From: m.state.Id, Num: num, To: to, Until: until, Text: text})) {
				return outcome{num: num}
			}
			return outcome{}
		},
	}
}

func ticking() action {
	return action{
		what: "KeeperTime()",
		call: func(k impl.Keeper) (impl.Keeper, outcome) {
			after, ok := impl.KeeperTime(k)
			return after, outcome{ok: ok}
		},
		byHand: func(m *nodeModel) outcome {
			return outcome{ok: m.logAndForce(fmt.Sprintf("time %d", m.state.Time+1))}
		},
	}
}

func eating(from int, num int) action {
	return action{
		what: fmt.Sprintf("KeeperEat(%d, %d)", from, num),
		call: func(k impl.Keeper) (impl.Keeper, outcome) {
			after, n, ok := impl.KeeperEat(k, from, num)
			return after, outcome{note: n, ok: ok}
		},
		byHand: func(m *nodeModel) outcome {
			n, ok := modelOf(m.state).inbox[name{from, num}]
			if !ok || !m.logAndForce("eat "+markWords(markOf(n))) {
				return outcome{}
			}
			return outcome{note: n, ok: true}
		},
	}
}

// mixing answers the node that it is given: KeeperMix answers none.
func mixing(from int, num int, mix int) action {
	return action{
		what: fmt.Sprintf("KeeperMix(%d, %d, %d)", from, num, mix),
		call: func(k impl.Keeper) (impl.Keeper, outcome) {
			f, ok := impl.KeeperMix(k, from, num, mix)
			return cloneKeeper(k), outcome{frame: f, ok: ok}
		},
		byHand: func(m *nodeModel) outcome {
			n, ok := m.holds(name{from, num})
			if !ok || mix < 0 || mix > 999 {
				return outcome{}
			}
			return outcome{frame: pieceByHand(n, m.state.Id, mix), ok: true}
		},
	}
}

// pieceByHand is the piece of a message that goes on from a node.
func pieceByHand(n impl.Note, at int, mix int) impl.Frame {
	next := at + 1
	if n.To < at {
		next = at - 1
	}
	return impl.Frame{Kind: 1, Src: at, Dst: next, From: n.From, Num: n.Num, To: n.To, Until: n.Until, Size: len(n.Text), Mix: mix, Data: blockByHand(n.Text, mix)}
}

// blockByHand is MixMake, apart from the program but for the numbers that select blocks.
func blockByHand(text string, mix int) string {
	data := "\x00\x00\x00\x00"
	for _, block := range impl.MixOf(blocksOf(text), mix) {
		data = xorOf(data, sourceBlock(text, block))
	}
	return data
}

func hearing(f impl.Frame) action {
	return action{
		what: fmt.Sprintf("KeeperHear(%+v)", f),
		call: func(k impl.Keeper) (impl.Keeper, outcome) {
			after, frames := impl.KeeperHear(k, f)
			return after, outcome{frames: frames}
		},
		byHand: func(m *nodeModel) outcome { return outcome{frames: m.hear(f)} },
	}
}

func packing() action {
	return action{
		what: "KeeperPack()",
		call: func(k impl.Keeper) (impl.Keeper, outcome) {
			after, ok := impl.KeeperPack(k)
			return after, outcome{ok: ok}
		},
		byHand: func(m *nodeModel) outcome {
			m.pack()
			return outcome{ok: true}
		},
	}
}

func forcing() action {
	return action{
		what: "KeeperForce()",
		call: func(k impl.Keeper) (impl.Keeper, outcome) {
			after, ok := impl.KeeperForce(k)
			return after, outcome{ok: ok}
		},
		byHand: func(m *nodeModel) outcome {
			was := m.durable
			m.force()
			return outcome{ok: was < m.durable}
		},
	}
}

func falling(keep int) action {
	return action{
		what: fmt.Sprintf("KeeperFall(%d)", keep),
		call: func(k impl.Keeper) (impl.Keeper, outcome) {
			return impl.KeeperFall(k, keep), outcome{}
		},
		byHand: func(m *nodeModel) outcome {
			m.fall(keep)
			m.state, _ = stateByHand(m.state.Id, m.recs)
			m.up, m.halves = false, nil
			return outcome{}
		},
		atRest: true,
	}
}

func rising() action {
	return action{
		what: "KeeperRise()",
		call: func(k impl.Keeper) (impl.Keeper, outcome) {
			return impl.KeeperRise(k), outcome{}
		},
		byHand: func(m *nodeModel) outcome {
			m.up = true
			return outcome{}
		},
		atRest: true,
	}
}

// everyAction has each function of a node, and some of them with arguments that are valid and others that are not.
func everyAction() []action {
	actions := []action{
		owning(3, 999, "x"), owning(0, 998, alphabet), owning(4, 999, "x"), owning(1, 1, ""),
		ticking(), eating(0, 2), eating(9, 9), mixing(0, 1, 5), mixing(0, 1, 1000), packing(), forcing(), rising(),
		falling(-1), falling(0), falling(12), falling(2400),
	}
	for _, f := range append(slices.Clone(plainFrames), impl.Frame{}) {
		actions = append(actions, hearing(f))
	}
	for _, h := range hops {
		actions = append(actions,
			hearing(impl.Frame{Kind: 1, Src: h.from, Dst: h.next, From: h.from, Num: 1, To: h.to, Until: 999, Size: 1, Data: "a\x00\x00\x00"}),
			hearing(impl.Frame{Kind: 2, Src: h.next, Dst: h.from, From: h.from, Num: 1, To: h.to, Until: 9}))
	}
	return actions
}

// answered is what a function answers of a node: it must leave its argument alone and answer new memory.
func answered(t *testing.T, k impl.Keeper, a action) (impl.Keeper, outcome) {
	t.Helper()
	argument := roomyKeeper(k)
	first, firstOutcome := a.call(argument)
	after, o := cloneKeeper(first), cloneOutcome(firstOutcome)
	again, againOutcome := a.call(argument)
	if !sameKeeper(again, after) || !sameOutcome(againOutcome, o) {
		t.Errorf("%s of %+v is %+v, %+v, and then %+v, %+v", a.what, k, after, o, again, againOutcome)
	}
	scribbleKeeper(again)
	for i := range againOutcome.frames[:cap(againOutcome.frames)] {
		againOutcome.frames[:cap(againOutcome.frames)][i] = impl.Frame{Kind: 66}
	}
	if !sameKeeper(first, after) || !sameOutcome(firstOutcome, o) {
		t.Errorf("two answers of %s of %+v share memory", a.what, k)
	}
	if !isUntouchedKeeper(argument, k) {
		t.Errorf("%s of %+v changes its argument or shares memory with it", a.what, k)
	}
	wantOwnBlocks(t, first, a.what)
	return after, o
}

// wantOwnBlocks wants no two partial messages of a node to share the memory of their blocks.
func wantOwnBlocks(t *testing.T, k impl.Keeper, what string) {
	t.Helper()
	was := cloneKeeper(k)
	for i, h := range k.Halves {
		scribbleBlocks(h.Got)
		for j := i + 1; j < len(k.Halves); j++ {
			if !sameHalf(k.Halves[j], was.Halves[j]) {
				t.Errorf("two partial messages of %s of a node share memory: %+v", what, was)
			}
		}
	}
}

// runModel does something with a node, and wants what it does of its model too.
func runModel(t *testing.T, k impl.Keeper, m *nodeModel, a action) (impl.Keeper, outcome) {
	t.Helper()
	after, o := answered(t, k, a)
	var want outcome
	if m.up || a.atRest {
		want = a.byHand(m)
	}
	if !sameKeeper(after, m.keeper()) || !sameOutcome(o, want) {
		t.Fatalf("%s of %+v is %+v, %+v, want %+v, %+v", a.what, k, after, o, m.keeper(), want)
	}
	if has := impl.KeeperHas(after); !sameKeep(has, m.state) || !impl.KeeperOk(after) {
		t.Fatalf("%s of %+v has the state %+v, want %+v; valid: %v", a.what, k, has, m.state, impl.KeeperOk(after))
	}
	return after, o
}

// run does something with a valid node, which must be as by hand.
func run(t *testing.T, k impl.Keeper, actions ...action) (impl.Keeper, outcome) {
	t.Helper()
	m := modelOfNode(k)
	var o outcome
	for _, a := range actions {
		k, o = runModel(t, k, m, a)
	}
	return k, o
}

// wantUnchanged wants nothing to be done with a node, and nothing to be answered.
func wantUnchanged(t *testing.T, k impl.Keeper, actions ...action) {
	t.Helper()
	for _, a := range actions {
		if after, o := run(t, k, a); !sameKeeper(after, k) || !sameOutcome(o, outcome{}) {
			t.Errorf("%s of %+v is %+v, %+v, want it unchanged", a.what, k, after, o)
		}
	}
}

// nodeOf is a running node with records, of which the first ones are durable.
func nodeOf(id int, durable int, recs ...string) impl.Keeper {
	return impl.Keeper{Id: id, Up: true, Shelf: impl.Shelf{Log: logOf(recs...), Forced: ends(recs)[durable]}}
}

// durableNode is a running node with records that are all durable.
func durableNode(id int, recs ...string) impl.Keeper {
	return nodeOf(id, len(recs), recs...)
}

// packedNode is a running node with a state.
func packedNode(k impl.Keep) impl.Keeper {
	return durableNode(k.Id, recsByHand(k)...)
}

func recordsOf(k impl.Keeper) []string {
	recs, _ := readByHand(k.Shelf.Log)
	return recs
}

// fillers is records that change the time alone, and have as many bytes together.
func fillers(size int) []string {
	for ones := 0; ones <= 9; ones++ {
		for tens := 0; tens <= 11; tens++ {
			rest := size - 9*ones - 10*tens
			if rest >= 0 && rest%11 == 0 {
				var recs []string
				for i := range ones {
					recs = append(recs, fmt.Sprintf("time %d", 1+i))
				}
				for i := range tens {
					recs = append(recs, fmt.Sprintf("time %d", 10+i))
				}
				for i := range rest / 11 {
					recs = append(recs, fmt.Sprintf("time %d", 100+i))
				}
				return recs
			}
		}
	}
	return nil
}

// fullNode is a node whose log has room for so many bytes only, behind records without a time.
func fullNode(id int, room int, recs ...string) impl.Keeper {
	return durableNode(id, append(recs, fillers(2400-room-len(logOf(recs...)))...)...)
}

func halfOf(n impl.Note, nums ...int) impl.Half {
	return impl.Half{From: n.From, Num: n.Num, To: n.To, Until: n.Until, Size: len(n.Text), Got: encode(n.Text, nums...)}
}

// plainNode is a running node 1 with the plain state, records that are not durable, and partial messages.
func plainNode() impl.Keeper {
	recs := append(recsByHand(plainKeep()), "take 0 7 2 9 late", "let 0 7 9", "own 1 5 3 9 own")
	k := nodeOf(1, len(recs)-2, recs...)
	k.Halves = []impl.Half{
		halfOf(impl.Note{From: 0, Num: 8, To: 2, Until: 9, Text: "hello world"}, 2, 0),
		halfOf(impl.Note{From: 3, Num: 9, To: 1, Until: 12, Text: alphabet}, 7, 3, 900),
	}
	return k
}

func changedNode(change func(k *impl.Keeper)) impl.Keeper {
	k := plainNode()
	change(&k)
	return k
}

// sampleNodes has nodes with all kinds of states and logs, running and not.
func sampleNodes() []impl.Keeper {
	nodes := []impl.Keeper{plainNode(), {}}
	for id := range impl.NoteKeepers {
		nodes = append(nodes,
			durableNode(id), durableNode(id, "time 998"), durableNode(id, "time 999"), durableNode(id, "next 99"), durableNode(id, "next 100"),
			fullNode(id, 0), fullNode(id, 9), fullNode(id, 21, fmt.Sprintf("own %d 1 %d 999 a", id, id), fmt.Sprintf("own %d 2 %d 999 b", id, (id+1)%4)))
	}
	for i, k := range sampleKeeps() {
		recs := recsByHand(k)
		node := nodeOf(k.Id, i%(len(recs)+1), recs...)
		if i%3 == 0 {
			node.Halves = []impl.Half{halfOf(impl.Note{From: (k.Id + 1) % 4, Num: 50, To: k.Id, Until: 999, Text: "hello world"}, 1, 2)}
		}
		nodes = append(nodes, node)
		if i%4 == 1 {
			node.Up, node.Halves = false, nil
			nodes = append(nodes, node)
		}
	}
	return nodes
}

// smallText is the text that each message of a small world has, so that its blocks fit together.
func smallText(n impl.Note) string {
	return alphabet[n.From : n.From+[]int{1, 4, 7, 11, 18}[n.Num%5]]
}

// anyPieceFor is a piece to a node, of a message of a small world; some have what others of the message do not have.
func anyPieceFor(r *rand.Rand, k impl.Keep) impl.Frame {
	var near []hop
	for _, h := range hops {
		if h.next == k.Id {
			near = append(near, h)
		}
	}
	h := near[r.IntN(len(near))]
	n := impl.Note{From: r.IntN(4), Num: 1 + r.IntN(6), To: h.to, Until: (k.Time/30)*30 + 30}
	n.Text = smallText(n)
	f := impl.Frame{Kind: 1, Src: h.from, Dst: h.next, From: n.From, Num: n.Num, To: n.To, Until: min(n.Until, 999), Size: len(n.Text), Mix: r.IntN(7)}
	if r.IntN(3) == 0 {
		f.Mix = r.IntN(1000)
	}
	f.Data = blockByHand(n.Text, f.Mix)
	switch r.IntN(24) {
	case 0:
		f.Until = min(max(1, k.Time-1+r.IntN(4)), 999)
	case 1:
		f.Size = 1 + r.IntN(24)
	case 2:
		f.Data = string([]byte{byte(r.IntN(256)), 'a', byte(r.IntN(2)), 0})
	}
	return f
}

// anyFrameFor is a frame that often means something to a node.
func anyFrameFor(r *rand.Rand, k impl.Keep) impl.Frame {
	switch r.IntN(12) {
	case 0, 1:
		n := anyElement(r, k.Held, anyNote(r))
		next := impl.NoteNext(k.Id, n.To)
		f := impl.Frame{Kind: 2, Src: next, Dst: k.Id, From: n.From, Num: n.Num, To: n.To, Until: n.Until}
		switch r.IntN(10) {
		case 0:
			f.Kind = 3
		case 1:
			f.Until += 1 - 2*r.IntN(2)
		case 2:
			f.To = r.IntN(4)
		}
		return f
	case 2:
		return anyFrame(r)
	case 3:
		return brokenFields(plainPiece)[r.IntN(100)].frame
	}
	return anyPieceFor(r, k)
}

// anyAction is something that often can be done with a node.
func anyAction(r *rand.Rand, k impl.Keep) action {
	n := anyElement(r, k.Held, anyNote(r))
	switch r.IntN(40) {
	case 0, 1, 2, 3, 4:
		return ticking()
	case 5, 6, 7:
		own := impl.Note{From: k.Id, Num: k.Next, To: r.IntN(5), Until: k.Time + r.IntN(40)}
		return owning(own.To, own.Until, smallText(own))
	case 8, 9, 10:
		arrived := anyElement(r, k.Inbox, n)
		return eating(arrived.From, arrived.Num)
	case 11, 12:
		return mixing(n.From, n.Num, r.IntN(1010)-5)
	case 13:
		if r.IntN(3) == 0 {
			return packing()
		}
		return forcing()
	case 14, 15:
		return falling(r.IntN(30) - 15)
	}
	return hearing(anyFrameFor(r, k))
}
