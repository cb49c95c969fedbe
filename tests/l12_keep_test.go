package tests

import (
	"cmp"
	"fmt"
	"maps"
	"math"
	"math/rand/v2"
	"regexp"
	"slices"
	"strconv"
	"strings"
	"testing"

	"loop.example/bargeman/impl"
)

// name is what a message is told by.
type name struct{ from, num int }

func nameOf(n impl.Note) name { return name{n.From, n.Num} }

func compareNames(a name, b name) int {
	return cmp.Or(cmp.Compare(a.from, b.from), cmp.Compare(a.num, b.num))
}

// faultSet is what is wrong with something.
type faultSet map[string]bool

func (s faultSet) add(wrong bool, fault string) {
	if wrong {
		s[fault] = true
	}
}

func (s faultSet) list() []string {
	return slices.Sorted(maps.Keys(s))
}

// keepFaults is what is wrong with a state, each condition of the document apart from the program.
func keepFaults(k impl.Keep) []string {
	found := faultSet{}
	add := found.add
	add(k.Id < 0 || k.Id > 3, "id")
	add(k.Time < 0 || k.Time > 999, "time")
	add(k.Next < 1 || k.Next > 100, "next")
	add(len(k.Held) > 6, "held length")
	add(len(k.Marks) > 12, "marks length")
	add(len(k.Inbox) > 6, "inbox length")
	marks := map[name]int{}
	var last name
	for _, m := range k.Marks {
		at := name{m.From, m.Num}
		marks[at] = m.Until
		add(m.From < 0 || m.From > 3 || m.Num < 1 || m.Num > 99 || m.Until < 1 || m.Until > 999, "marks element")
		add(compareNames(last, at) >= 0, "marks order")
		add(m.From == k.Id && m.Num >= k.Next, "marks number")
		add(m.Until <= k.Time, "marks expired")
		last = at
	}
	last = name{}
	for _, n := range k.Held {
		add(!impl.NoteOk(n), "held element")
		add(compareNames(last, nameOf(n)) >= 0, "held order")
		add(n.From == k.Id && n.Num >= k.Next, "held number")
		add(n.Until <= k.Time, "held expired")
		between := n.From < k.Id && k.Id < n.To || n.To < k.Id && k.Id < n.From
		add(k.Id == n.To || k.Id != n.From && !between, "held way")
		add(marks[nameOf(n)] != 0, "held marked")
		last = nameOf(n)
	}
	last = name{}
	for _, n := range k.Inbox {
		add(!impl.NoteOk(n), "inbox element")
		add(compareNames(last, nameOf(n)) >= 0, "inbox order")
		add(n.From == k.Id && n.Num >= k.Next, "inbox number")
		add(n.To != k.Id, "inbox way")
		add(n.Until > k.Time && marks[nameOf(n)] == 0, "inbox unmarked")
		last = nameOf(n)
	}
	return found.list()
}

// keepModel is a state in maps, where nothing has an order, apart from the program.
type keepModel struct {
	id, time, next int
	held, inbox    map[name]impl.Note
	marks          map[name]int
}

func modelOf(k impl.Keep) keepModel {
	m := keepModel{id: k.Id, time: k.Time, next: k.Next, held: map[name]impl.Note{}, inbox: map[name]impl.Note{}, marks: map[name]int{}}
	for _, n := range k.Held {
		m.held[nameOf(n)] = n
	}
	for _, n := range k.Inbox {
		m.inbox[nameOf(n)] = n
	}
	for _, mark := range k.Marks {
		m.marks[name{mark.From, mark.Num}] = mark.Until
	}
	return m
}

func (m keepModel) keep() impl.Keep {
	k := impl.Keep{Id: m.id, Time: m.time, Next: m.next}
	for _, at := range slices.SortedFunc(maps.Keys(m.held), compareNames) {
		k.Held = append(k.Held, m.held[at])
	}
	for _, at := range slices.SortedFunc(maps.Keys(m.inbox), compareNames) {
		k.Inbox = append(k.Inbox, m.inbox[at])
	}
	for _, at := range slices.SortedFunc(maps.Keys(m.marks), compareNames) {
		k.Marks = append(k.Marks, impl.Mark{From: at.from, Num: at.num, Until: m.marks[at]})
	}
	return k
}

func (m keepModel) has(at name) bool {
	_, held := m.held[at]
	_, arrived := m.inbox[at]
	return held || arrived
}

func (m keepModel) accept(n impl.Note) bool {
	at := nameOf(n)
	if n.Until <= m.time || m.has(at) || m.marks[at] != 0 || len(m.held)+len(m.marks)+1 > 12 {
		return false
	}
	if n.To == m.id {
		m.inbox[at] = n
		m.marks[at] = n.Until
	} else {
		m.held[at] = n
	}
	return true
}

func (m *keepModel) advance(time int) bool {
	if time <= m.time {
		return false
	}
	m.time = time
	maps.DeleteFunc(m.held, func(_ name, n impl.Note) bool { return n.Until <= time })
	maps.DeleteFunc(m.marks, func(_ name, until int) bool { return until <= time })
	return true
}

func (m *keepModel) doNumber(word string, number int) bool {
	if word == "time" {
		return m.advance(number)
	}
	if number <= m.next {
		return false
	}
	m.next = number
	return true
}

func (m *keepModel) doNote(word string, n impl.Note) bool {
	at := nameOf(n)
	switch word {
	case "own":
		if n.From != m.id || n.Num != m.next {
			return false
		}
		m.next++
		return m.accept(n)
	case "take":
		return n.From != m.id && m.accept(n)
	}
	if m.has(at) {
		return false
	}
	if word == "held" {
		m.held[at] = n
	} else {
		m.inbox[at] = n
	}
	return true
}

func (m *keepModel) doMark(word string, at name, until int) bool {
	switch word {
	case "let":
		if n, ok := m.held[at]; !ok || n.Until != until {
			return false
		}
		delete(m.held, at)
	case "eat":
		if n, ok := m.inbox[at]; !ok || n.Until != until {
			return false
		}
		delete(m.inbox, at)
		return true
	}
	if _, ok := m.marks[at]; ok {
		return false
	}
	m.marks[at] = until
	return true
}

// The forms of records stand for the document's words on them.
var (
	numberRecordForm = regexp.MustCompile(`^(time|next) (0|-?[1-9][0-9]*)$`)
	markRecordForm   = regexp.MustCompile(`^(let|eat|mark) (0|-?[1-9][0-9]*) (0|-?[1-9][0-9]*) (0|-?[1-9][0-9]*)$`)
	noteRecordForm   = regexp.MustCompile(`^(own|take|held|inbox) ([0-3]) ([1-9][0-9]?) ([0-3]) ([1-9][0-9]{0,2}) ([ -~]{1,24})$`)
)

// numbersOf is the numbers of a form; one that is too great for an int is the greatest one.
func numbersOf(texts []string) []int {
	var numbers []int
	for _, text := range texts {
		number, _ := strconv.Atoi(text)
		numbers = append(numbers, number)
	}
	return numbers
}

func (m *keepModel) do(rec string) bool {
	if f := numberRecordForm.FindStringSubmatch(rec); f != nil {
		return m.doNumber(f[1], numbersOf(f[2:])[0])
	}
	if f := markRecordForm.FindStringSubmatch(rec); f != nil {
		x := numbersOf(f[2:])
		return m.doMark(f[1], name{x[0], x[1]}, x[2])
	}
	if f := noteRecordForm.FindStringSubmatch(rec); f != nil {
		x := numbersOf(f[2:6])
		return m.doNote(f[1], impl.Note{From: x[0], Num: x[1], To: x[2], Until: x[3], Text: f[6]})
	}
	return false
}

// doByHand is KeepDo of a valid state, apart from the program.
func doByHand(k impl.Keep, rec string) (impl.Keep, bool) {
	m := modelOf(k)
	if !m.do(rec) || len(keepFaults(m.keep())) > 0 {
		return k, false
	}
	return m.keep(), true
}

// recsByHand is KeepRecs of a valid state, apart from the program.
func recsByHand(k impl.Keep) []string {
	var recs []string
	if k.Time > 0 {
		recs = append(recs, fmt.Sprintf("time %d", k.Time))
	}
	if k.Next > 1 {
		recs = append(recs, fmt.Sprintf("next %d", k.Next))
	}
	for _, m := range k.Marks {
		recs = append(recs, fmt.Sprintf("mark %d %d %d", m.From, m.Num, m.Until))
	}
	for _, n := range k.Held {
		recs = append(recs, "held "+wantText(n))
	}
	for _, n := range k.Inbox {
		recs = append(recs, "inbox "+wantText(n))
	}
	return recs
}

func sameKeep(a impl.Keep, b impl.Keep) bool {
	return a.Id == b.Id && a.Time == b.Time && a.Next == b.Next && slices.Equal(a.Held, b.Held) && slices.Equal(a.Marks, b.Marks) && slices.Equal(a.Inbox, b.Inbox)
}

func isZeroKeep(k impl.Keep) bool {
	return sameKeep(k, impl.Keep{})
}

func cloneKeep(k impl.Keep) impl.Keep {
	k.Held, k.Marks, k.Inbox = slices.Clone(k.Held), slices.Clone(k.Marks), slices.Clone(k.Inbox)
	return k
}

// spare is put behind the ends of lists, where no call may change it.
var spare = impl.Note{From: 77, Num: 77, To: 77, Until: 77, Text: "spare"}

var spareMark = impl.Mark{From: 77, Num: 77, Until: 77}

// roomy is a state whose lists have room for more behind their ends.
func roomy(k impl.Keep) impl.Keep {
	k.Held = append(slices.Clone(k.Held), spare, spare)[:len(k.Held)]
	k.Marks = append(slices.Clone(k.Marks), spareMark, spareMark)[:len(k.Marks)]
	k.Inbox = append(slices.Clone(k.Inbox), spare, spare)[:len(k.Inbox)]
	return k
}

// isUntouched tells whether a roomy state is as it was, also behind the ends of its lists.
func isUntouched(k impl.Keep, was impl.Keep) bool {
	behind := slices.Concat(k.Held[len(k.Held):len(k.Held)+2], k.Inbox[len(k.Inbox):len(k.Inbox)+2])
	marks := k.Marks[len(k.Marks) : len(k.Marks)+2]
	return sameKeep(k, was) && !slices.ContainsFunc(behind, func(n impl.Note) bool { return n != spare }) && marks[0] == spareMark && marks[1] == spareMark
}

// scribble changes all memory of a state, up to the capacity of its lists.
func scribble(k impl.Keep) {
	for _, list := range [][]impl.Note{k.Held[:cap(k.Held)], k.Inbox[:cap(k.Inbox)]} {
		for i := range list {
			list[i] = impl.Note{From: 66, Num: 66, To: 66, Until: 66, Text: "scribble"}
		}
	}
	marks := k.Marks[:cap(k.Marks)]
	for i := range marks {
		marks[i] = impl.Mark{From: 66, Num: 66, Until: 66}
	}
}

// do is KeepDo, which must leave its argument alone and answer new memory.
func do(t *testing.T, k impl.Keep, rec string) (impl.Keep, bool) {
	t.Helper()
	argument := roomy(k)
	after, ok := impl.KeepDo(argument, rec)
	kept := cloneKeep(after)
	again, okAgain := impl.KeepDo(argument, rec)
	if ok != okAgain || !sameKeep(after, again) {
		t.Errorf("KeepDo(%+v, %q) is %+v, and then %+v", k, rec, after, again)
	}
	scribble(again)
	if !sameKeep(after, kept) {
		t.Errorf("two answers of KeepDo(%+v, %q) share memory", k, rec)
	}
	if !isUntouched(argument, k) {
		t.Errorf("KeepDo(%+v, %q) changes its argument or shares memory with it", k, rec)
	}
	return kept, ok
}

func wantDone(t *testing.T, k impl.Keep, rec string, want impl.Keep) {
	t.Helper()
	if after, ok := do(t, k, rec); !ok || !sameKeep(after, want) {
		t.Errorf("KeepDo(%+v, %q) is %+v, %v, want %+v", k, rec, after, ok, want)
	}
}

func wantNotDone(t *testing.T, k impl.Keep, rec string) {
	t.Helper()
	if after, ok := do(t, k, rec); ok || !sameKeep(after, k) {
		t.Errorf("KeepDo(%+v, %q) is %+v, %v, want it unchanged and false", k, rec, after, ok)
	}
}

// wantAsByHand gives back the state that KeepDo and the model agree on.
func wantAsByHand(t *testing.T, k impl.Keep, rec string) (impl.Keep, bool) {
	t.Helper()
	want, possible := doByHand(k, rec)
	after, ok := do(t, k, rec)
	if ok != possible || !sameKeep(after, want) {
		t.Fatalf("KeepDo(%+v, %q) is %+v, %v, want %+v, %v", k, rec, after, ok, want, possible)
	}
	return after, ok
}

// done is the state behind records that must all be possible.
func done(t *testing.T, k impl.Keep, recs ...string) impl.Keep {
	t.Helper()
	for _, rec := range recs {
		after, ok := do(t, k, rec)
		if !ok {
			t.Fatalf("KeepDo(%+v, %q) is false", k, rec)
		}
		k = after
	}
	return k
}

func wantRestored(t *testing.T, k impl.Keep) {
	t.Helper()
	recs := impl.KeepRecs(k)
	if want := recsByHand(k); !slices.Equal(recs, want) {
		t.Errorf("KeepRecs(%+v) is %q, want %q", k, recs, want)
	}
	if most := len(k.Held) + len(k.Marks) + len(k.Inbox) + 2; len(recs) > most {
		t.Errorf("KeepRecs(%+v) has %d records, more than %d", k, len(recs), most)
	}
	if back, ok := impl.KeepOf(k.Id, recs); !ok || !sameKeep(back, k) {
		t.Errorf("KeepOf(%d, %q) is %+v, %v, want %+v", k.Id, recs, back, ok, k)
	}
}

// plainKeep is a state of node 1 with all that one can have: its own messages and those of others, held and arrived, and an expired one.
func plainKeep() impl.Keep {
	return impl.Keep{
		Id: 1, Time: 4, Next: 5,
		Held: []impl.Note{
			{From: 0, Num: 1, To: 3, Until: 9, Text: "theirs"},
			{From: 1, Num: 2, To: 0, Until: 8, Text: "mine"},
			{From: 3, Num: 6, To: 0, Until: 5, Text: "back"},
		},
		Marks: []impl.Mark{{From: 0, Num: 3, Until: 7}, {From: 1, Num: 3, Until: 6}, {From: 2, Num: 1, Until: 5}},
		Inbox: []impl.Note{
			{From: 0, Num: 2, To: 1, Until: 4, Text: "expired"},
			{From: 0, Num: 3, To: 1, Until: 7, Text: "for here"},
			{From: 1, Num: 3, To: 1, Until: 6, Text: "to myself"},
		},
	}
}

// changedKeep is the plain state with something changed.
func changedKeep(change func(k *impl.Keep)) impl.Keep {
	k := plainKeep()
	change(&k)
	return k
}

// notesFor has as many messages from a node to another, with numbers from 1 on.
func notesFor(count int, from int, to int, until int) []impl.Note {
	var notes []impl.Note
	for num := 1; num <= count; num++ {
		notes = append(notes, impl.Note{From: from, Num: num, To: to, Until: until, Text: "x"})
	}
	return notes
}

func marksFor(count int, from int, until int) []impl.Mark {
	var marks []impl.Mark
	for num := 1; num <= count; num++ {
		marks = append(marks, impl.Mark{From: from, Num: num, Until: until})
	}
	return marks
}

// fullKeeps has states of node 2 at their limits.
func fullKeeps() []impl.Keep {
	return []impl.Keep{
		{Id: 2, Next: 1, Held: notesFor(6, 0, 3, 9)},
		{Id: 2, Next: 100, Held: notesFor(6, 2, 0, 999), Time: 998},
		{Id: 2, Next: 1, Marks: marksFor(12, 0, 9)},
		{Id: 2, Next: 13, Marks: marksFor(12, 2, 999), Time: 3},
		{Id: 2, Next: 1, Marks: marksFor(6, 1, 9), Inbox: notesFor(6, 1, 2, 9)},
		{Id: 2, Next: 1, Time: 9, Inbox: notesFor(6, 1, 2, 9)},
		{Id: 2, Next: 1, Held: notesFor(6, 0, 3, 9), Marks: marksFor(6, 1, 9)},
		{Id: 2, Next: 1, Held: notesFor(5, 0, 3, 9), Marks: marksFor(6, 1, 9)},
		{Id: 2, Next: 1, Held: notesFor(6, 0, 3, 9), Marks: marksFor(12, 1, 9)},
		{Id: 2, Next: 1, Held: notesFor(1, 0, 3, 9), Marks: marksFor(11, 1, 9)},
		{Id: 2, Next: 1, Held: notesFor(1, 0, 3, 9), Marks: marksFor(12, 1, 9)},
		{Id: 2, Next: 7, Held: notesFor(6, 0, 3, 9), Marks: marksFor(6, 2, 9), Inbox: notesFor(6, 2, 2, 9)},
		{Id: 2, Next: 100, Time: 999, Inbox: notesFor(6, 2, 2, 999)},
	}
}

// sampleKeeps has states of all nodes, each of which records can lead to.
func sampleKeeps() []impl.Keep {
	list := append(fullKeeps(), plainKeep())
	for id := range impl.NoteKeepers {
		list = append(list, impl.Keep{Id: id, Next: 1}, impl.Keep{Id: id, Next: 100}, impl.Keep{Id: id, Next: 99}, impl.Keep{Id: id, Time: 999, Next: 1}, impl.Keep{Id: id, Time: 998, Next: 2})
		for until := 5; until <= 6; until++ {
			list = append(list,
				impl.Keep{Id: id, Time: 4, Next: 2, Marks: []impl.Mark{{From: id, Num: 1, Until: until}}, Inbox: notesFor(1, id, id, until)},
				impl.Keep{Id: id, Time: 4, Next: 2, Held: notesFor(1, id, (id+1)%4, until)},
				impl.Keep{Id: id, Time: 4, Next: 2, Inbox: notesFor(2, (id+1)%4, id, 4)})
		}
	}
	return append(list, walkedKeeps()...)
}

// anyNote is a message of a world so small that others are often met.
func anyNote(r *rand.Rand) impl.Note {
	return impl.Note{From: r.IntN(4), Num: 1 + r.IntN(4), To: r.IntN(4), Until: 1 + r.IntN(12), Text: string("ab "[r.IntN(3)])}
}

func anyElement[E any](r *rand.Rand, list []E, other E) E {
	if len(list) == 0 || r.IntN(4) == 0 {
		return other
	}
	return list[r.IntN(len(list))]
}

func markWords(m impl.Mark) string {
	return fmt.Sprintf("%d %d %d", m.From, m.Num, m.Until)
}

func markOf(n impl.Note) impl.Mark {
	return impl.Mark{From: n.From, Num: n.Num, Until: n.Until}
}

// anyRecord is a record that is often possible.
func anyRecord(r *rand.Rand, k impl.Keep) string {
	n := anyNote(r)
	switch r.IntN(16) {
	case 0:
		return fmt.Sprintf("time %d", k.Time-1+r.IntN(4))
	case 1:
		return fmt.Sprintf("next %d", k.Next-1+r.IntN(3))
	case 2, 3:
		if r.IntN(3) > 0 {
			n.From, n.Num = k.Id, k.Next
		}
		n.Until += k.Time
		return "own " + wantText(n)
	case 4, 5, 6, 7:
		n.Until += k.Time - 1
		if r.IntN(2) == 0 {
			n.To = k.Id
		}
		return "take " + wantText(n)
	case 8, 9:
		return "let " + markWords(markOf(anyElement(r, k.Held, n)))
	case 10, 11:
		return "eat " + markWords(markOf(anyElement(r, k.Inbox, n)))
	case 12:
		return "mark " + markWords(anyElement(r, k.Marks, markOf(n)))
	case 13:
		n.Until += k.Time - 1
		return "mark " + markWords(markOf(n))
	case 14:
		n.Until += k.Time - 1
		return "held " + wantText(anyElement(r, append(slices.Clone(k.Held), n, n), n))
	}
	n.To = k.Id
	if len(k.Marks) > 0 && r.IntN(2) == 0 {
		m := k.Marks[r.IntN(len(k.Marks))]
		n.From, n.Num, n.Until = m.From, m.Num, m.Until+r.IntN(2)
	}
	return "inbox " + wantText(n)
}

// walkedKeeps has states to which the model comes by records.
func walkedKeeps() []impl.Keep {
	r := rand.New(rand.NewPCG(21, 22))
	var list []impl.Keep
	for id := range impl.NoteKeepers {
		k := impl.Keep{Id: id, Next: 1}
		for step := range 400 {
			k, _ = doByHand(k, anyRecord(r, k))
			if step%20 == 0 {
				list = append(list, k)
			}
		}
	}
	return list
}

// smallRecords is all records of a small world, which have each word and each reason for which they are not possible.
func smallRecords() []string {
	var recs []string
	for number := range 4 {
		recs = append(recs, fmt.Sprintf("time %d", number), fmt.Sprintf("next %d", number))
	}
	for _, until := range []int{2, 3} {
		for _, text := range []string{
			fmt.Sprintf("0 1 1 %d a", until), fmt.Sprintf("0 1 3 %d a", until), fmt.Sprintf("1 1 1 %d a", until), fmt.Sprintf("1 1 3 %d b", until),
		} {
			for _, word := range []string{"own", "take", "held", "inbox"} {
				recs = append(recs, word+" "+text)
			}
		}
		for _, from := range []int{0, 1} {
			for _, word := range []string{"let", "eat", "mark"} {
				recs = append(recs, fmt.Sprintf("%s %d 1 %d", word, from, until))
			}
		}
	}
	return append(recs, "own 1 2 3 3 c", "own 1 2 1 3 c", "take 0 1 0 3 a", "held 2 1 3 3 a")
}

// smallStates is all states to which the records of the small world lead node 1.
func smallStates(t *testing.T) []impl.Keep {
	t.Helper()
	start := impl.Keep{Id: 1, Next: 1}
	list := []impl.Keep{start}
	seen := map[string]int{fmt.Sprint(start): 1}
	for i := 0; i < len(list); i++ {
		for _, rec := range smallRecords() {
			after, ok := doByHand(list[i], rec)
			if ok && seen[fmt.Sprint(after)] == 0 {
				seen[fmt.Sprint(after)]++
				list = append(list, after)
			}
		}
	}
	if len(list) < 200 {
		t.Errorf("only %d states", len(list))
	}
	return list
}

// sampleSteps calls what it is given with each sample and records that are often possible of it, and with the small world.
func sampleSteps(t *testing.T, hold func(k impl.Keep, rec string)) {
	t.Helper()
	r := rand.New(rand.NewPCG(23, 24))
	for _, k := range sampleKeeps() {
		for range 60 {
			hold(k, anyRecord(r, k))
		}
		for _, rec := range append(smallRecords(), recsByHand(k)...) {
			hold(k, rec)
		}
		for _, n := range append(slices.Clone(k.Held), k.Inbox...) {
			for _, word := range []string{"let", "eat", "mark"} {
				hold(k, word+" "+markWords(markOf(n)))
			}
		}
		for _, time := range []int{k.Time + 1, 998, 999, 1000} {
			hold(k, fmt.Sprintf("time %d", time))
		}
	}
	for _, k := range smallStates(t) {
		for _, rec := range smallRecords() {
			hold(k, rec)
		}
	}
}

func TestKeepConstants(t *testing.T) {
	if impl.KeepMaxHeld != 6 || impl.KeepMaxMarks != 12 || impl.KeepMaxInbox != 6 {
		t.Errorf("%d held, %d marks, %d in the inbox", impl.KeepMaxHeld, impl.KeepMaxMarks, impl.KeepMaxInbox)
	}
}

func TestKeepStart(t *testing.T) {
	for id := range impl.NoteKeepers {
		k := impl.KeepStart(id)
		if !sameKeep(k, impl.Keep{Id: id, Next: 1}) || !impl.KeepOk(k) {
			t.Errorf("KeepStart(%d) is %+v", id, k)
		}
		if recs := impl.KeepRecs(k); len(recs) != 0 {
			t.Errorf("KeepRecs of the initial state is %q", recs)
		}
		for _, none := range [][]string{nil, {}} {
			if got, ok := impl.KeepOf(id, none); !ok || !sameKeep(got, k) {
				t.Errorf("KeepOf(%d) of no records is %+v, %v", id, got, ok)
			}
		}
	}
}

func TestNoSuchKeeper(t *testing.T) {
	for _, id := range append([]int{impl.NoteKeepers, impl.NoteKeepers + 1}, outOfRange...) {
		if k := impl.KeepStart(id); !isZeroKeep(k) {
			t.Errorf("KeepStart(%d) is %+v, want the zero value", id, k)
		}
		for _, recs := range [][]string{nil, {}, {"time 1"}, {"next 2"}, {"take 0 1 3 9 a"}, {"mark 0 1 9"}, {"what"}} {
			if k, ok := impl.KeepOf(id, recs); ok || !isZeroKeep(k) {
				t.Errorf("KeepOf(%d, %q) is %+v, %v, want the zero value and false", id, recs, k, ok)
			}
		}
	}
}

func TestKeepOkHoldsForValidStates(t *testing.T) {
	for _, k := range append(sampleKeeps(), smallStates(t)...) {
		if faults := keepFaults(k); len(faults) > 0 || !impl.KeepOk(k) {
			t.Errorf("KeepOk(%+v) is %v, by hand it has the faults %q", k, impl.KeepOk(k), faults)
		}
	}
	empty := impl.Keep{Id: 3, Next: 1, Held: []impl.Note{}, Marks: []impl.Mark{}, Inbox: []impl.Note{}}
	if !impl.KeepOk(empty) {
		t.Error("a state with empty lists that are not nil is invalid")
	}
}

// What is at the edge of each condition is still valid.
func TestKeepOkAtTheEdges(t *testing.T) {
	for _, change := range []func(k *impl.Keep){
		func(k *impl.Keep) { k.Next = 4 },
		func(k *impl.Keep) { k.Next = 100 },
		func(k *impl.Keep) { k.Held[2].Until = 999 },
		func(k *impl.Keep) { k.Held[2].Num = 99 },
		func(k *impl.Keep) { k.Held[1].Num = 4 },
		func(k *impl.Keep) { k.Held[1].Num = 1 },
		func(k *impl.Keep) { k.Held[0].To = 2 },
		func(k *impl.Keep) { k.Held[2].From = 2 },
		func(k *impl.Keep) { k.Marks[0].Until = 5 },
		func(k *impl.Keep) { k.Marks[0].Until = 999 },
		func(k *impl.Keep) { k.Marks[2].Num = 99 },
		func(k *impl.Keep) { k.Inbox[0].Until = 1 },
		func(k *impl.Keep) { k.Inbox[0].From, k.Inbox[0].Num = 0, 1 }, // as the message held, but expired
		func(k *impl.Keep) { k.Inbox[1].Until = 999 },                 // later than its mark
		func(k *impl.Keep) { k.Inbox[1].Until = 5 },
		func(k *impl.Keep) { k.Inbox[2].Until = 3 },
		func(k *impl.Keep) { k.Marks[0].Num, k.Inbox[1].Until = 9, 4 }, // expired, its mark is of another message
	} {
		if k := changedKeep(change); !impl.KeepOk(k) || len(keepFaults(k)) > 0 {
			t.Errorf("KeepOk(%+v) is %v, by hand it has the faults %q", k, impl.KeepOk(k), keepFaults(k))
		}
	}
}

// brokenKeeps has states with each condition broken alone; by its name the test makes sure of that.
var brokenKeeps = []struct {
	fault  string
	change func(k *impl.Keep)
}{
	{"time", func(k *impl.Keep) { *k = impl.Keep{Id: 1, Time: -1, Next: 1} }},
	{"time", func(k *impl.Keep) { *k = impl.Keep{Id: 1, Time: 1000, Next: 1} }},
	{"time", func(k *impl.Keep) { k.Time, k.Inbox = -1, nil }},
	{"next", func(k *impl.Keep) { *k = impl.Keep{Id: 1, Next: 0} }},
	{"next", func(k *impl.Keep) { k.Next = 101 }},
	{"held length", func(k *impl.Keep) { *k = impl.Keep{Id: 1, Next: 1, Held: notesFor(7, 0, 3, 9)} }},
	{"held length", func(k *impl.Keep) { *k = impl.Keep{Id: 1, Next: 1, Held: notesFor(99, 0, 3, 9)} }},
	{"marks length", func(k *impl.Keep) { *k = impl.Keep{Id: 1, Next: 1, Marks: marksFor(13, 0, 9)} }},
	{"marks length", func(k *impl.Keep) { *k = impl.Keep{Id: 1, Next: 1, Marks: marksFor(99, 3, 9)} }},
	{"inbox length", func(k *impl.Keep) {
		*k = impl.Keep{Id: 1, Next: 1, Marks: marksFor(7, 0, 9), Inbox: notesFor(7, 0, 1, 9)}
	}},
	{"inbox length", func(k *impl.Keep) { *k = impl.Keep{Id: 1, Next: 1, Time: 9, Inbox: notesFor(7, 0, 1, 9)} }},
	{"held element", func(k *impl.Keep) { k.Held[0].Text = "" }},
	{"held element", func(k *impl.Keep) { k.Held[2].Text = alphabet + "y" }},
	{"held element", func(k *impl.Keep) { k.Held[1].Text = "a\n" }},
	{"held element", func(k *impl.Keep) { k.Held[0].To = 4 }},
	{"held element", func(k *impl.Keep) { k.Held[2].To = -1 }},
	{"held element", func(k *impl.Keep) { k.Held[2].From = 4 }},
	{"held element", func(k *impl.Keep) { k.Held[2].Num = 100 }},
	{"held element", func(k *impl.Keep) { k.Held[2].Num = 0 }},
	{"held element", func(k *impl.Keep) { k.Held[0].Until = 1000 }},
	{"held element", func(k *impl.Keep) { k.Held[0].Until = math.MaxInt }},
	{"held order", func(k *impl.Keep) { k.Held[0], k.Held[1] = k.Held[1], k.Held[0] }},
	{"held order", func(k *impl.Keep) { k.Held[1], k.Held[2] = k.Held[2], k.Held[1] }},
	{"held order", func(k *impl.Keep) { k.Held[1] = k.Held[0] }},
	{"held order", func(k *impl.Keep) { k.Held = append(k.Held, k.Held[2]) }},
	{"held order", func(k *impl.Keep) { k.Held[1] = k.Held[0]; k.Held[1].To, k.Held[1].Until = 2, 10 }},
	{"held order", func(k *impl.Keep) { k.Held[1] = k.Held[0]; k.Held[0].Num = 2 }},
	{"held number", func(k *impl.Keep) { k.Held[1].Num = 5 }},
	{"held number", func(k *impl.Keep) { k.Held[1].Num = 99 }},
	{"held expired", func(k *impl.Keep) { k.Held[1].Until = 4 }},
	{"held expired", func(k *impl.Keep) { k.Held[0].Until = 1 }},
	{"held way", func(k *impl.Keep) { k.Held[0].To = 0 }},
	{"held way", func(k *impl.Keep) { k.Held[0].To = 1 }},
	{"held way", func(k *impl.Keep) { k.Held[1].To = 1 }},
	{"held way", func(k *impl.Keep) { k.Held[2].To = 1 }},
	{"held way", func(k *impl.Keep) { k.Held[2].To = 2 }},
	{"held way", func(k *impl.Keep) { k.Held[2].To = 3 }},
	{"held marked", func(k *impl.Keep) { k.Held[0].Num = 3 }},
	{"held marked", func(k *impl.Keep) { k.Marks[0] = impl.Mark{From: 0, Num: 1, Until: 9}; k.Inbox = nil }},
	{"held marked", func(k *impl.Keep) { k.Marks[2] = impl.Mark{From: 3, Num: 6, Until: 999} }},
	{"marks element", func(k *impl.Keep) { k.Marks = append(k.Marks, impl.Mark{From: 4, Num: 1, Until: 9}) }},
	{"marks element", func(k *impl.Keep) { k.Marks[2].Num = 100 }},
	{"marks element", func(k *impl.Keep) { k.Marks[2].Num = 0 }},
	{"marks element", func(k *impl.Keep) { k.Marks[2].Num = math.MaxInt }},
	{"marks element", func(k *impl.Keep) { k.Marks[2].Until = 1000 }},
	{"marks order", func(k *impl.Keep) { k.Marks[0], k.Marks[1] = k.Marks[1], k.Marks[0] }},
	{"marks order", func(k *impl.Keep) { k.Marks[1], k.Marks[2] = k.Marks[2], k.Marks[1] }},
	{"marks order", func(k *impl.Keep) { k.Marks = append(k.Marks, k.Marks[2]) }},
	{"marks order", func(k *impl.Keep) { k.Marks = append(k.Marks, impl.Mark{From: 2, Num: 1, Until: 6}) }},
	{"marks number", func(k *impl.Keep) { k.Marks = slices.Insert(k.Marks, 2, impl.Mark{From: 1, Num: 5, Until: 9}) }},
	{"marks number", func(k *impl.Keep) { k.Marks = slices.Insert(k.Marks, 2, impl.Mark{From: 1, Num: 99, Until: 9}) }},
	{"marks expired", func(k *impl.Keep) { k.Marks[2].Until = 4 }},
	{"marks expired", func(k *impl.Keep) { k.Marks[2].Until = 1 }},
	{"inbox element", func(k *impl.Keep) { k.Inbox[1].Text = "" }},
	{"inbox element", func(k *impl.Keep) { k.Inbox[0].Until = 0 }},
	{"inbox element", func(k *impl.Keep) { k.Inbox[0].Until = math.MinInt }},
	{"inbox element", func(k *impl.Keep) { k.Inbox[1].Until = 1000 }},
	{"inbox order", func(k *impl.Keep) { k.Inbox[0], k.Inbox[1] = k.Inbox[1], k.Inbox[0] }},
	{"inbox order", func(k *impl.Keep) { k.Inbox[0], k.Inbox[2] = k.Inbox[2], k.Inbox[0] }},
	{"inbox order", func(k *impl.Keep) { k.Inbox[0] = k.Inbox[1] }},
	{"inbox order", func(k *impl.Keep) { k.Inbox[0].Num = 3 }},
	{"inbox number", func(k *impl.Keep) { k.Inbox[2].Num, k.Inbox[2].Until = 5, 4 }},
	{"inbox number", func(k *impl.Keep) { k.Inbox[2].Num, k.Inbox[2].Until = 99, 1 }},
	{"inbox way", func(k *impl.Keep) { k.Inbox[1].To = 2 }},
	{"inbox way", func(k *impl.Keep) { k.Inbox[0].To = 0 }},
	{"inbox way", func(k *impl.Keep) { k.Inbox[0].To = 3 }},
	{"inbox unmarked", func(k *impl.Keep) { k.Inbox[0].Until = 5 }},
	{"inbox unmarked", func(k *impl.Keep) { k.Inbox[0].Until = 999 }},
	{"inbox unmarked", func(k *impl.Keep) { k.Marks = k.Marks[1:] }},
	{"inbox unmarked", func(k *impl.Keep) { k.Marks[0].Num = 4 }},
	{"inbox unmarked", func(k *impl.Keep) { k.Inbox[2].Num = 4 }},
	{"inbox unmarked", func(k *impl.Keep) { k.Inbox[1].Num = 1; k.Inbox = k.Inbox[1:] }}, // held, and so not marked
}

// wantInvalid holds all functions against an invalid state.
func wantInvalid(t *testing.T, k impl.Keep) {
	t.Helper()
	if impl.KeepOk(k) {
		t.Errorf("KeepOk(%+v) is true", k)
	}
	if recs := impl.KeepRecs(k); len(recs) != 0 {
		t.Errorf("KeepRecs(%+v) is %q, want an empty slice", k, recs)
	}
	for _, rec := range []string{"time 5", "time 999", "next 50", "take 0 40 3 90 a", "mark 3 40 90", "eat 0 2 4", "let 0 1 9", "", "what"} {
		if after, ok := do(t, k, rec); ok || !isZeroKeep(after) {
			t.Errorf("KeepDo(%+v, %q) is %+v, %v, want the zero value and false", k, rec, after, ok)
		}
	}
}

func TestInvalidStates(t *testing.T) {
	broken := map[string]int{}
	for _, c := range brokenKeeps {
		k := changedKeep(c.change)
		if faults := keepFaults(k); !slices.Equal(faults, []string{c.fault}) {
			t.Errorf("%+v has the faults %q, want %q alone", k, faults, c.fault)
		}
		broken[c.fault]++
		wantInvalid(t, k)
	}
	if len(broken) != 20 {
		t.Errorf("%d conditions are broken alone", len(broken))
	}
	wantInvalid(t, impl.Keep{})
	for _, id := range append([]int{impl.NoteKeepers, impl.NoteKeepers + 1}, outOfRange...) {
		wantInvalid(t, impl.Keep{Id: id, Next: 1})
		wantInvalid(t, changedKeep(func(k *impl.Keep) { k.Id = id }))
	}
	for _, number := range outOfRange {
		wantInvalid(t, changedKeep(func(k *impl.Keep) { k.Next = number }))
		wantInvalid(t, changedKeep(func(k *impl.Keep) { k.Time = number }))
	}
	for _, bad := range invalidNotes() {
		wantInvalid(t, impl.Keep{Id: 1, Next: 100, Held: []impl.Note{bad}})
		wantInvalid(t, impl.Keep{Id: 0, Time: 999, Next: 100, Inbox: []impl.Note{bad}})
	}
	for _, bad := range outOfRange {
		wantInvalid(t, impl.Keep{Id: 1, Next: 100, Marks: []impl.Mark{{From: bad, Num: 1, Until: 1}}})
		wantInvalid(t, impl.Keep{Id: 1, Next: 100, Marks: []impl.Mark{{From: 0, Num: bad, Until: 1}}})
		wantInvalid(t, impl.Keep{Id: 1, Next: 100, Marks: []impl.Mark{{From: 0, Num: 1, Until: bad}}})
	}
}

// anyKeep is a state that is valid about as often as not.
func anyKeep(r *rand.Rand) impl.Keep {
	m := keepModel{id: r.IntN(4), time: r.IntN(4), next: 1 + r.IntN(6), held: map[name]impl.Note{}, inbox: map[name]impl.Note{}, marks: map[name]int{}}
	for range r.IntN(4) {
		n := anyNote(r)
		m.marks[nameOf(n)] = n.Until + 2
	}
	for range r.IntN(2) {
		n := anyNote(r)
		m.held[nameOf(n)] = n
	}
	for range r.IntN(3) {
		n := anyNote(r)
		n.To = m.id
		m.inbox[nameOf(n)] = n
	}
	return m.keep()
}

// Any states are as valid as by hand, and what is valid takes records as by hand.
func TestAnyStateIsAsByHand(t *testing.T) {
	r := rand.New(rand.NewPCG(25, 26))
	valid, invalid, twice := 0, 0, 0
	for range 40000 {
		k := anyKeep(r)
		ok := len(keepFaults(k)) == 0
		if impl.KeepOk(k) != ok {
			t.Fatalf("KeepOk(%+v) is %v, by hand it has the faults %q", k, !ok, keepFaults(k))
		}
		if !ok {
			invalid++
			continue
		}
		valid++
		wantAsByHand(t, k, anyRecord(r, k))
		if slices.ContainsFunc(k.Held, func(n impl.Note) bool {
			return slices.ContainsFunc(k.Inbox, func(o impl.Note) bool { return nameOf(n) == nameOf(o) })
		}) {
			twice++
			continue
		}
		wantRestored(t, k)
	}
	if valid < 5000 || invalid < 5000 || twice > valid/20 {
		t.Errorf("%d valid states, of which %d have a message twice, and %d invalid ones", valid, twice, invalid)
	}
}

// No records lead to a state in which a message is both held and, expired, in the inbox; its records are told all the same, but not taken.
func TestMessageThatIsHeldAndInTheInbox(t *testing.T) {
	k := impl.Keep{Id: 1, Time: 4, Next: 1, Held: notesFor(1, 0, 3, 9), Inbox: notesFor(1, 0, 1, 4)}
	if !impl.KeepOk(k) {
		t.Error("it is invalid")
	}
	recs := impl.KeepRecs(k)
	if !slices.Equal(recs, []string{"time 4", "held 0 1 3 9 x", "inbox 0 1 1 4 x"}) {
		t.Errorf("its records are %q", recs)
	}
	if got, ok := impl.KeepOf(1, recs); ok || !isZeroKeep(got) {
		t.Errorf("KeepOf of its records is %+v, %v", got, ok)
	}
	wantDone(t, k, "eat 0 1 4", impl.Keep{Id: 1, Time: 4, Next: 1, Held: k.Held})
	wantDone(t, k, "let 0 1 9", impl.Keep{Id: 1, Time: 4, Next: 1, Marks: marksFor(1, 0, 9), Inbox: k.Inbox})
}

// Each kind of record, when it is possible.
func TestPossibleRecords(t *testing.T) {
	for _, c := range []struct {
		rec    string
		change func(k *impl.Keep)
	}{
		{"time 5", func(k *impl.Keep) { k.Time, k.Held, k.Marks = 5, k.Held[:2], k.Marks[:2] }},
		{"time 6", func(k *impl.Keep) { k.Time, k.Held, k.Marks = 6, k.Held[:2], k.Marks[:1] }},
		{"time 8", func(k *impl.Keep) { k.Time, k.Held, k.Marks = 8, k.Held[:1], nil }},
		{"time 9", func(k *impl.Keep) { k.Time, k.Held, k.Marks = 9, nil, nil }},
		{"time 999", func(k *impl.Keep) { k.Time, k.Held, k.Marks = 999, nil, nil }},
		{"next 6", func(k *impl.Keep) { k.Next = 6 }},
		{"next 100", func(k *impl.Keep) { k.Next = 100 }},
		{"own 1 5 3 9 new", func(k *impl.Keep) {
			k.Next, k.Held = 6, slices.Insert(k.Held, 2, impl.Note{From: 1, Num: 5, To: 3, Until: 9, Text: "new"})
		}},
		{"own 1 5 0 5  a b ", func(k *impl.Keep) {
			k.Next, k.Held = 6, slices.Insert(k.Held, 2, impl.Note{From: 1, Num: 5, To: 0, Until: 5, Text: " a b "})
		}},
		{"own 1 5 1 999 new", func(k *impl.Keep) {
			k.Next, k.Inbox = 6, append(k.Inbox, impl.Note{From: 1, Num: 5, To: 1, Until: 999, Text: "new"})
			k.Marks = slices.Insert(k.Marks, 2, impl.Mark{From: 1, Num: 5, Until: 999})
		}},
		{"take 0 9 2 5 new", func(k *impl.Keep) {
			k.Held = slices.Insert(k.Held, 1, impl.Note{From: 0, Num: 9, To: 2, Until: 5, Text: "new"})
		}},
		{"take 2 99 0 5 2 99 0 5", func(k *impl.Keep) {
			k.Held = slices.Insert(k.Held, 2, impl.Note{From: 2, Num: 99, To: 0, Until: 5, Text: "2 99 0 5"})
		}},
		{"take 3 1 1 5 new", func(k *impl.Keep) {
			k.Inbox = append(k.Inbox, impl.Note{From: 3, Num: 1, To: 1, Until: 5, Text: "new"})
			k.Marks = append(k.Marks, impl.Mark{From: 3, Num: 1, Until: 5})
		}},
		{"take 0 4 1 5 new", func(k *impl.Keep) {
			k.Inbox = slices.Insert(k.Inbox, 2, impl.Note{From: 0, Num: 4, To: 1, Until: 5, Text: "new"})
			k.Marks = slices.Insert(k.Marks, 1, impl.Mark{From: 0, Num: 4, Until: 5})
		}},
		{"let 0 1 9", func(k *impl.Keep) {
			k.Held, k.Marks = k.Held[1:], slices.Insert(k.Marks, 0, impl.Mark{From: 0, Num: 1, Until: 9})
		}},
		{"let 1 2 8", func(k *impl.Keep) {
			k.Held, k.Marks = slices.Delete(k.Held, 1, 2), slices.Insert(k.Marks, 1, impl.Mark{From: 1, Num: 2, Until: 8})
		}},
		{"let 3 6 5", func(k *impl.Keep) {
			k.Held, k.Marks = k.Held[:2], append(k.Marks, impl.Mark{From: 3, Num: 6, Until: 5})
		}},
		{"eat 0 2 4", func(k *impl.Keep) { k.Inbox = k.Inbox[1:] }},
		{"eat 0 3 7", func(k *impl.Keep) { k.Inbox = slices.Delete(k.Inbox, 1, 2) }},
		{"eat 1 3 6", func(k *impl.Keep) { k.Inbox = k.Inbox[:2] }},
		{"mark 0 2 9", func(k *impl.Keep) { k.Marks = slices.Insert(k.Marks, 0, impl.Mark{From: 0, Num: 2, Until: 9}) }},
		{"mark 1 4 5", func(k *impl.Keep) { k.Marks = slices.Insert(k.Marks, 2, impl.Mark{From: 1, Num: 4, Until: 5}) }},
		{"mark 3 99 999", func(k *impl.Keep) { k.Marks = append(k.Marks, impl.Mark{From: 3, Num: 99, Until: 999}) }},
		{"held 0 9 3 5 new", func(k *impl.Keep) {
			k.Held = slices.Insert(k.Held, 1, impl.Note{From: 0, Num: 9, To: 3, Until: 5, Text: "new"})
		}},
		{"held 1 4 3 999 new", func(k *impl.Keep) {
			k.Held = slices.Insert(k.Held, 2, impl.Note{From: 1, Num: 4, To: 3, Until: 999, Text: "new"})
		}},
		{"inbox 2 1 1 5 marked", func(k *impl.Keep) {
			k.Inbox = append(k.Inbox, impl.Note{From: 2, Num: 1, To: 1, Until: 5, Text: "marked"})
		}},
		{"inbox 2 1 1 999 marked", func(k *impl.Keep) {
			k.Inbox = append(k.Inbox, impl.Note{From: 2, Num: 1, To: 1, Until: 999, Text: "marked"})
		}},
		{"inbox 3 1 1 4 expired", func(k *impl.Keep) {
			k.Inbox = append(k.Inbox, impl.Note{From: 3, Num: 1, To: 1, Until: 4, Text: "expired"})
		}},
		{"inbox 1 4 1 1 expired", func(k *impl.Keep) {
			k.Inbox = append(k.Inbox, impl.Note{From: 1, Num: 4, To: 1, Until: 1, Text: "expired"})
		}},
	} {
		wantDone(t, plainKeep(), c.rec, changedKeep(c.change))
		wantAsByHand(t, plainKeep(), c.rec)
	}
}

// Each kind of record, when it is not possible or its result is not valid.
func TestImpossibleRecords(t *testing.T) {
	for _, rec := range []string{
		"time 4", "time 3", "time 0", "time -1", "time 1000", "time 9223372036854775807", "time -9223372036854775808",
		"next 5", "next 4", "next 1", "next 0", "next -6", "next 101", "next 9223372036854775807",
		"own 1 4 3 9 a", "own 1 6 3 9 a", "own 1 1 3 9 a", "own 0 5 3 9 a", "own 2 5 0 9 a", "own 1 5 3 4 a", "own 1 5 1 4 a", "own 1 5 3 1 a",
		"take 1 4 3 9 a", "take 1 5 3 9 a", "take 1 9 1 9 a", // from the node itself
		"take 0 1 3 9 theirs", "take 0 1 2 9 a", "take 0 1 3 8 a", "take 0 1 1 9 a", // held
		"take 0 2 1 4 expired", "take 0 2 1 9 a", "take 0 2 3 9 a", // in the inbox
		"take 0 3 1 7 for here", "take 0 3 3 7 a", "take 2 1 0 9 a", "take 2 1 1 5 a", // marked
		"take 0 9 3 4 a", "take 0 9 1 4 a", "take 3 9 1 1 a", // expired
		"take 0 9 0 9 a", "take 2 9 3 9 a", "take 3 9 2 9 a", "take 3 9 3 9 a", "take 2 9 2 9 a", // not on their way here
		"let 0 1 8", "let 0 1 10", "let 0 2 9", "let 0 9 9", "let 1 1 8", "let 2 2 8", "let 0 2 4", "let 0 3 7", "let -1 1 9", "let 0 0 0",
		"eat 0 2 5", "eat 0 2 3", "eat 0 3 6", "eat 0 3 8", "eat 0 1 9", "eat 0 4 7", "eat 1 2 8", "eat 2 1 5", "eat 0 0 0", "eat -1 -1 -1",
		"mark 0 3 7", "mark 0 3 8", "mark 0 3 6", "mark 2 1 9", // marked
		"mark 0 1 9", "mark 1 2 8", "mark 3 6 9", // held
		"mark 1 5 9", "mark 1 99 9", // numbers that are not used yet
		"mark 0 9 4", "mark 0 9 1", "mark 0 9 0", "mark 0 9 1000", "mark 0 0 9", "mark 0 100 9", "mark 4 9 9", "mark -1 9 9", "mark 0 -1 9", "mark 0 9 -9",
		"held 0 1 3 9 theirs", "held 0 1 2 5 a", "held 0 2 3 9 a", "held 0 3 3 9 a", "held 2 1 0 9 a", // held, in the inbox, marked
		"held 0 9 3 4 a", "held 0 9 1 9 a", "held 1 4 1 9 a", "held 1 5 3 9 a", "held 0 9 0 9 a", "held 2 9 3 9 a", "held 3 9 2 9 a",
		"inbox 0 2 1 4 expired", "inbox 0 2 1 3 a", "inbox 0 3 1 7 a", "inbox 0 1 1 4 a", "inbox 1 2 1 4 a", // held or in the inbox
		"inbox 3 9 1 5 a", "inbox 3 9 1 999 a", "inbox 1 4 1 5 a", // not expired and not marked
		"inbox 3 9 0 4 a", "inbox 3 9 2 4 a", "inbox 2 1 0 5 a", "inbox 2 1 3 4 a", // not addressed to the node
		"inbox 1 5 1 4 a", "inbox 1 99 1 1 a", // numbers that are not used yet
	} {
		wantNotDone(t, plainKeep(), rec)
		if _, ok := doByHand(plainKeep(), rec); ok {
			t.Errorf("%q is possible by hand", rec)
		}
		if k, ok := impl.KeepOf(1, append(recsByHand(plainKeep()), rec)); ok || !isZeroKeep(k) {
			t.Errorf("KeepOf with %q is %+v, %v", rec, k, ok)
		}
	}
}

// malformedRecords is like records that are possible, but for their form.
func malformedRecords() []string {
	recs := []string{
		"", " ", "  ", "what", "what 5", "Time 5", "TIME 5", "times 5", "tim 5", "time5", "time\t5", "time\n5", "time:5", "5", "5 time", "0 1 9", "0 9 2 5 a",
		"time", "next", "own", "take", "let", "eat", "mark", "held", "inbox",
		"time ", "next ", "own ", "take ", "let ", "eat ", "mark ", "held ", "inbox ",
		"time 5 6", "time 5 time 6", "time 5;", "time 5\n", "time 5\x00", "time five", "time 5.0", "time 0x5", "time 5_0", "time 5e0", "time \u0665", "time \uff15",
		"next 6 7", "next 6\n", "next six", "next 6.",
		"let 0", "let 0 1", "let 0 1 9 9", "let 0 1 9\n", "let 0,1,9", "let 0 1 nine", "let zero 1 9", "let 0 x 9", "let 019",
		"eat 0", "eat 0 2", "eat 0 2 4 expired", "eat 0 2 1 4 expired", "eat 0 2 4x",
		"mark 0", "mark 0 2", "mark 0 2 9 a", "mark 0 2 9 ", "mark 3 9", "mark 3 9 x",
		"own 1", "own 1 5", "own 1 5 3", "own 1 5 3 9", "own 1 5 3 9 ", "own a", "own 1 5 3 9 a\n", "own 1 5 3 9 " + alphabet + "y",
		"take 0 9 2 5", "take 0 9 2 5 ", "take 0 9 2", "held 0 9 3 5", "inbox 2 1 1 5", "inbox 2 1 1 5 ", "held hello world",
		"takes 0 9 2 5 a", "take take 0 9 2 5 a", "own take 0 9 2 5 a",
	}
	const great = "99999999999999999999"
	for _, form := range []string{"time %s", "next %s", "let %s 1 9", "let 0 %s 9", "let 0 1 %s", "eat %s 2 4", "eat 0 %s 4", "eat 0 2 %s", "mark %s 9 9", "mark 3 %s 9", "mark 3 9 %s", "own %s 5 3 9 a", "own 1 %s 3 9 a", "own 1 5 %s 9 a", "own 1 5 3 %s a", "take %s 9 2 5 a", "take 0 9 2 %s a", "held 0 %s 3 5 a", "inbox 2 1 1 %s a"} {
		for _, number := range []string{great, "-" + great, "9223372036854775808", "18446744073709551621", "4294967301", strings.Repeat("9", 1000), "", "-", "+", "-0", "+0", "00", " ", "x"} {
			recs = append(recs, fmt.Sprintf(form, number))
		}
	}
	for _, rec := range formedRecords {
		words := strings.Split(rec, " ")
		recs = append(recs, " "+rec, "\n"+rec, "\x00"+rec, strings.ToUpper(rec[:1])+rec[1:], strings.Join(words, "\t"), strings.Join(words, "  "))
		for i := 1; i < min(len(words), 5); i++ {
			for _, sign := range []string{"+", "0", "00", " ", "-0", "\t", "x"} {
				worse := slices.Clone(words)
				worse[i] = sign + worse[i]
				recs = append(recs, strings.Join(worse, " "))
			}
		}
		if !noteRecordForm.MatchString(rec) {
			recs = append(recs, rec+" ", rec+"\n", rec+"\x00", rec+" 5", rec+"  ", rec+".")
		}
	}
	return recs
}

// formedRecords is all possible of the plain state.
var formedRecords = []string{"time 5", "next 6", "own 1 5 3 9 a", "take 0 9 2 5 a", "let 0 1 9", "eat 0 2 4", "mark 3 9 9", "held 0 9 3 5 a", "inbox 2 1 1 5 a"}

func TestMalformedRecords(t *testing.T) {
	for _, rec := range formedRecords {
		if _, ok := wantAsByHand(t, plainKeep(), rec); !ok {
			t.Errorf("%q is not possible", rec)
		}
	}
	for _, rec := range malformedRecords() {
		wantNotDone(t, plainKeep(), rec)
		wantNotDone(t, impl.Keep{Id: 1, Next: 5}, rec)
		for _, recs := range [][]string{{rec}, {"time 1", rec}, {rec, "time 1"}} {
			if k, ok := impl.KeepOf(1, recs); ok || !isZeroKeep(k) {
				t.Errorf("KeepOf(1, %q) is %+v, %v, want the zero value and false", recs, k, ok)
			}
		}
	}
	for _, n := range invalidNotes() {
		for _, word := range []string{"own ", "take ", "held ", "inbox "} {
			wantNotDone(t, plainKeep(), word+wantText(n))
		}
	}
}

// Records that differ by a byte or two are as by hand.
func TestRecordsNearOthersAreAsByHand(t *testing.T) {
	possible, impossible := 0, 0
	k := plainKeep()
	hold := func(rec string) {
		if _, ok := wantAsByHand(t, k, rec); ok {
			possible++
		} else {
			impossible++
		}
	}
	for _, rec := range formedRecords {
		for _, near := range nearTexts(rec, noteBytes) {
			hold(near)
		}
	}
	for _, rec := range []string{"time 5", "eat 0 2 4"} {
		for _, near := range nearTexts(rec, " 05-x") {
			for _, nearer := range nearTexts(near, " 05-x") {
				hold(nearer)
			}
		}
	}
	if possible < 300 || impossible < 5000 {
		t.Errorf("%d records are possible and %d not: both kinds must be tested", possible, impossible)
	}
}

func TestAnyTextIsNoRecordUnlessByHand(t *testing.T) {
	r := rand.New(rand.NewPCG(27, 28))
	for range 10000 {
		word := strings.Split(formedRecords[r.IntN(len(formedRecords))], " ")[0]
		wantAsByHand(t, plainKeep(), word+" "+anyText(r, "0123  9"))
		wantAsByHand(t, plainKeep(), anyText(r, "time next"))
	}
}

// P28
func TestRecordKeepsTheStateValid(t *testing.T) {
	possible := map[string]int{}
	impossible := map[string]int{}
	sampleSteps(t, func(k impl.Keep, rec string) {
		word, _, _ := strings.Cut(rec, " ")
		after, ok := wantAsByHand(t, k, rec)
		if !impl.KeepOk(after) || after.Id != k.Id || after.Time < k.Time || after.Next < k.Next {
			t.Errorf("KeepDo(%+v, %q) is %+v", k, rec, after)
		}
		if ok {
			possible[word]++
		} else {
			impossible[word]++
		}
	})
	for _, rec := range formedRecords {
		word, _, _ := strings.Cut(rec, " ")
		if possible[word] < 50 || impossible[word] < 50 {
			t.Errorf("%q is possible %d times and not %d times: both must be tested", word, possible[word], impossible[word])
		}
	}
}

// P28, P37: one record after the other.
func TestStateIsAsItsModel(t *testing.T) {
	r := rand.New(rand.NewPCG(29, 30))
	for id := range impl.NoteKeepers {
		for range 5 {
			k := impl.KeepStart(id)
			var recs []string
			for range 300 {
				rec := anyRecord(r, k)
				after, ok := wantAsByHand(t, k, rec)
				if ok {
					recs = append(recs, rec)
				}
				if len(keepFaults(after)) > 0 || after.Time < k.Time || after.Next < k.Next {
					t.Fatalf("KeepDo(%+v, %q) is %+v", k, rec, after)
				}
				k = after
			}
			if got, ok := impl.KeepOf(id, recs); !ok || !sameKeep(got, k) {
				t.Errorf("KeepOf(%d, %q) is %+v, %v, want %+v", id, recs, got, ok, k)
			}
			wantRestored(t, k)
		}
	}
}

// P29
func TestStateIsRestoredFromItsRecords(t *testing.T) {
	for _, k := range append(sampleKeeps(), smallStates(t)...) {
		wantRestored(t, k)
	}
	want := []string{
		"time 4", "next 5", "mark 0 3 7", "mark 1 3 6", "mark 2 1 5",
		"held 0 1 3 9 theirs", "held 1 2 0 8 mine", "held 3 6 0 5 back",
		"inbox 0 2 1 4 expired", "inbox 0 3 1 7 for here", "inbox 1 3 1 6 to myself",
	}
	if recs := impl.KeepRecs(plainKeep()); !slices.Equal(recs, want) {
		t.Errorf("KeepRecs of the plain state is %q, want %q", recs, want)
	}
	k := impl.Keep{Id: 1, Next: 2, Held: []impl.Note{{From: 1, Num: 1, To: 0, Until: 1, Text: "  " + alphabet[:20] + "  "}}}
	wantRestored(t, k)
}

// greatestKeep is a state of node 2 whose records have as many bytes as those of a state can have.
func greatestKeep() impl.Keep {
	long := func(notes []impl.Note) []impl.Note {
		for i := range notes {
			notes[i].Num += 90
			notes[i].Text = alphabet
		}
		return notes
	}
	marks := append(marksFor(6, 1, 999), marksFor(6, 3, 999)...)
	for i := range marks {
		marks[i].Num += 90
	}
	return impl.Keep{Id: 2, Time: 998, Next: 100, Held: long(notesFor(6, 0, 3, 999)), Marks: marks, Inbox: long(notesFor(6, 1, 2, 999))}
}

// P29: records of a state go into a log.
func TestRecordsOfAStateFitIntoALog(t *testing.T) {
	k := greatestKeep()
	wantRestored(t, k)
	s, ok := impl.ShelfPack(impl.Shelf{}, impl.KeepRecs(k))
	if !ok {
		t.Fatal("the records of a full state do not fit into a log")
	}
	recs, _ := impl.ShelfRead(s.Log)
	if back, ok := impl.KeepOf(2, recs); !ok || !sameKeep(back, k) {
		t.Errorf("the log restores %+v, %v, want %+v", back, ok, k)
	}
}

// P30
func TestRecordCannotBeAppliedTwice(t *testing.T) {
	twice := map[string]int{}
	sampleSteps(t, func(k impl.Keep, rec string) {
		if after, ok := do(t, k, rec); ok {
			wantNotDone(t, after, rec)
			word, _, _ := strings.Cut(rec, " ")
			twice[word]++
		}
	})
	if len(twice) != len(formedRecords) {
		t.Errorf("only some kinds of records were possible: %v", twice)
	}
}

// P31
func TestExpiredMessageIsNotAccepted(t *testing.T) {
	for id := range impl.NoteKeepers {
		for _, time := range []int{0, 1, 2, 500, 998, 999} {
			k := impl.Keep{Id: id, Time: time, Next: 3}
			for from := range impl.NoteKeepers {
				for to := range impl.NoteKeepers {
					for _, until := range []int{time - 1, time, time + 1, time + 2, 1, 999} {
						n := impl.Note{From: from, Num: 3, To: to, Until: until, Text: "a"}
						word := "take "
						if from == id {
							word = "own "
						}
						there := slices.Contains(way(t, from, to), id)
						after, ok := do(t, k, word+wantText(n))
						if want := impl.NoteOk(n) && until > time && there; ok != want {
							t.Errorf("%s%v at time %d is %v, want %v: %+v", word, n, time, ok, want, after)
						}
					}
				}
			}
		}
	}
}

// P31, P34: a message is accepted until the time before it expires, and is gone at its time.
func TestUntilIsTheTimeAtWhichAMessageExpires(t *testing.T) {
	k := done(t, impl.KeepStart(1), "take 0 1 3 5 a", "take 0 2 1 5 b", "time 4", "take 0 3 3 5 c", "take 0 4 1 5 d")
	if len(k.Held) != 2 || len(k.Marks) != 2 || len(k.Inbox) != 2 {
		t.Errorf("%+v", k)
	}
	after := done(t, k, "time 5")
	if len(after.Held) != 0 || len(after.Marks) != 0 || !slices.Equal(after.Inbox, k.Inbox) {
		t.Errorf("at time 5: %+v", after)
	}
	wantNotDone(t, after, "take 0 5 3 5 a")
	wantNotDone(t, after, "take 0 5 1 5 a")
	wantNotDone(t, after, "own 1 1 3 5 a")
	done(t, after, "take 0 1 3 6 a")
	// What is in the inbox is not accepted again, though its mark is gone.
	wantNotDone(t, after, "take 0 2 1 6 b")
	wantNotDone(t, after, "take 0 2 3 6 b")
	done(t, after, "eat 0 2 5", "take 0 2 1 6 b")
}

// P32
func TestAcceptedMessageIsInTheInboxOrHeld(t *testing.T) {
	arrived, held := 0, 0
	accepted := func(k impl.Keep, rec string) {
		f := noteRecordForm.FindStringSubmatch(rec)
		if f == nil || f[1] != "own" && f[1] != "take" {
			return
		}
		after, ok := do(t, k, rec)
		if !ok {
			return
		}
		n, _ := impl.NoteRead(rec[len(f[1])+1:])
		marked := slices.Contains(after.Marks, markOf(n))
		inInbox, isHeld := slices.Contains(after.Inbox, n), slices.Contains(after.Held, n)
		if here := n.To == k.Id; inInbox != here || isHeld == here || marked != here {
			t.Errorf("KeepDo(%+v, %q) is %+v", k, rec, after)
		}
		if n.To == k.Id {
			arrived++
			wantLists(t, after, k, n, impl.Keep{Marks: []impl.Mark{markOf(n)}, Inbox: []impl.Note{n}})
		} else {
			held++
			wantLists(t, after, k, n, impl.Keep{Held: []impl.Note{n}})
		}
	}
	sampleSteps(t, accepted)
	if arrived < 100 || held < 100 {
		t.Errorf("%d messages have arrived and %d are held", arrived, held)
	}
}

// wantLists wants the lists as they were, with more of one message.
func wantLists(t *testing.T, after impl.Keep, k impl.Keep, n impl.Note, more impl.Keep) {
	t.Helper()
	without := func(list []impl.Note) []impl.Note {
		return slices.DeleteFunc(slices.Clone(list), func(o impl.Note) bool { return nameOf(o) == nameOf(n) })
	}
	marks := slices.DeleteFunc(slices.Clone(after.Marks), func(m impl.Mark) bool { return name{m.From, m.Num} == nameOf(n) })
	same := slices.Equal(without(after.Held), k.Held) && slices.Equal(without(after.Inbox), k.Inbox) && slices.Equal(marks, k.Marks)
	if !same || len(after.Held) != len(k.Held)+len(more.Held) || len(after.Marks) != len(k.Marks)+len(more.Marks) || len(after.Inbox) != len(k.Inbox)+len(more.Inbox) {
		t.Errorf("behind %+v, with %+v accepted, is %+v", k, n, after)
	}
}

// P32: messages to the node itself, by each kind of record.
func TestMessageToTheNodeItself(t *testing.T) {
	for id := range impl.NoteKeepers {
		start := impl.KeepStart(id)
		mine := impl.Note{From: id, Num: 1, To: id, Until: 5, Text: "mine"}
		theirs := impl.Note{From: (id + 1) % 4, Num: 1, To: id, Until: 5, Text: "theirs"}
		ownWant := impl.Keep{Id: id, Next: 2, Marks: []impl.Mark{markOf(mine)}, Inbox: []impl.Note{mine}}
		takeWant := impl.Keep{Id: id, Next: 1, Marks: []impl.Mark{markOf(theirs)}, Inbox: []impl.Note{theirs}}
		wantDone(t, start, "own "+wantText(mine), ownWant)
		wantDone(t, start, "take "+wantText(theirs), takeWant)
		wantNotDone(t, start, "take "+wantText(mine))
		used := impl.Keep{Id: id, Next: 2}
		for _, n := range []impl.Note{mine, theirs} {
			wantNotDone(t, used, "held "+wantText(n))
			wantNotDone(t, used, "inbox "+wantText(n))
			marked := done(t, used, "mark "+markWords(markOf(n)))
			wantNotDone(t, marked, "held "+wantText(n))
			wantDone(t, marked, "inbox "+wantText(n), impl.Keep{Id: id, Next: 2, Marks: []impl.Mark{markOf(n)}, Inbox: []impl.Note{n}})
			expired := impl.Keep{Id: id, Time: 5, Next: 2}
			wantDone(t, expired, "inbox "+wantText(n), impl.Keep{Id: id, Time: 5, Next: 2, Inbox: []impl.Note{n}})
			early := impl.Keep{Id: id, Time: 4, Next: 2}
			wantNotDone(t, early, "inbox "+wantText(n))
		}
		wantNotDone(t, start, "inbox "+wantText(mine))
		wantNotDone(t, impl.Keep{Id: id, Time: 5, Next: 1}, "inbox "+wantText(mine))
		// What the node has sent to itself stays marked behind eat, and is not taken again.
		eaten := done(t, ownWant, "eat "+markWords(markOf(mine)))
		if !sameKeep(eaten, impl.Keep{Id: id, Next: 2, Marks: ownWant.Marks}) {
			t.Errorf("eat: %+v", eaten)
		}
		wantNotDone(t, eaten, "own "+wantText(mine))
		wantNotDone(t, eaten, "take "+wantText(mine))
	}
}

// P33
func TestOrderOfTwoMessagesDoesNotMatter(t *testing.T) {
	r := rand.New(rand.NewPCG(31, 32))
	both := 0
	for _, k := range sampleKeeps() {
		for range 150 {
			notes := []impl.Note{anyNote(r), anyNote(r)}
			var recs []string
			for _, n := range notes {
				n.Until = min(999, n.Until+k.Time)
				if r.IntN(2) == 0 {
					n.To = k.Id
				}
				word := "take "
				if n.From == k.Id {
					word, n.Num = "own ", min(99, k.Next)
				}
				recs = append(recs, word+wantText(n))
			}
			first, ok1 := do(t, k, recs[0])
			second, ok2 := do(t, first, recs[1])
			if ok1 && ok2 {
				both++
				wantDone(t, done(t, k, recs[1]), recs[0], second)
			}
		}
	}
	if both < 1000 {
		t.Errorf("only %d pairs could be accepted", both)
	}
}

// P33: at the limits one of two messages is accepted, whichever is first.
func TestOnlyOneOfTwoMessagesHasSpace(t *testing.T) {
	for _, k := range []impl.Keep{
		{Id: 1, Next: 1, Held: notesFor(5, 0, 3, 9)},
		{Id: 1, Next: 1, Held: notesFor(5, 0, 3, 9), Marks: marksFor(6, 3, 9)},
		{Id: 1, Next: 1, Marks: marksFor(11, 3, 9)},
	} {
		for _, recs := range [][]string{{"take 2 1 0 9 a", "take 2 2 0 9 b"}, {"take 2 2 0 9 b", "take 2 1 0 9 a"}} {
			wantNotDone(t, done(t, k, recs[0]), recs[1])
		}
	}
}

// P34
func TestAdvancingTimeRemovesWhatHasExpired(t *testing.T) {
	for _, k := range append(sampleKeeps(), smallStates(t)...) {
		for _, time := range []int{k.Time + 1, k.Time + 2, k.Time + 3, k.Time + 5, k.Time + 9, 998, 999} {
			after, ok := do(t, k, fmt.Sprintf("time %d", time))
			if time <= k.Time || time > impl.NoteMaxTime {
				if ok {
					t.Errorf("time %d is possible in %+v", time, k)
				}
				continue
			}
			if !ok {
				wantMarkTooShort(t, k, time)
				continue
			}
			held := slices.DeleteFunc(slices.Clone(k.Held), func(n impl.Note) bool { return n.Until <= time })
			marks := slices.DeleteFunc(slices.Clone(k.Marks), func(m impl.Mark) bool { return m.Until <= time })
			want := impl.Keep{Id: k.Id, Time: time, Next: k.Next, Held: held, Marks: marks, Inbox: k.Inbox}
			if !sameKeep(after, want) {
				t.Errorf("time %d makes %+v of %+v, want %+v", time, after, k, want)
			}
		}
	}
}

// wantMarkTooShort wants a message in the inbox that would outlive its mark: nothing else stops the time.
func wantMarkTooShort(t *testing.T, k impl.Keep, time int) {
	t.Helper()
	for _, n := range k.Inbox {
		if n.Until > time && !slices.ContainsFunc(k.Marks, func(m impl.Mark) bool { return name{m.From, m.Num} == nameOf(n) && m.Until > time }) {
			return
		}
	}
	t.Errorf("time %d is not possible in %+v", time, k)
}

// A mark that ends before its message in the inbox holds up the time, until the message is taken or expires.
func TestMarkThatEndsBeforeItsMessage(t *testing.T) {
	k := done(t, impl.KeepStart(1), "mark 0 1 5", "inbox 0 1 1 9 a", "time 4")
	for time := 5; time <= 8; time++ {
		wantNotDone(t, k, fmt.Sprintf("time %d", time))
	}
	wantDone(t, k, "time 9", impl.Keep{Id: 1, Time: 9, Next: 1, Inbox: k.Inbox})
	done(t, k, "eat 0 1 9", "time 5")
}

// P35
func TestAtTheLastTimeNothingIsHeldOrMarked(t *testing.T) {
	for _, k := range append(sampleKeeps(), smallStates(t)...) {
		if k.Time == impl.NoteMaxTime {
			if len(k.Held)+len(k.Marks) > 0 {
				t.Errorf("%+v is valid", k)
			}
			wantNotDone(t, k, "time 999")
			wantNotDone(t, k, "time 1000")
			continue
		}
		wantDone(t, k, "time 999", impl.Keep{Id: k.Id, Time: 999, Next: k.Next, Inbox: k.Inbox})
	}
	last := done(t, plainKeep(), "time 999")
	for _, rec := range []string{"take 0 9 3 999 a", "take 0 9 1 999 a", "own 1 5 3 999 a", "own 1 5 1 999 a", "mark 0 9 999", "held 0 9 3 999 a"} {
		wantNotDone(t, last, rec)
	}
	done(t, last, "inbox 0 9 1 999 a", "eat 0 3 7", "next 9")
}

// P36
func TestHeldMessageCanBeReleased(t *testing.T) {
	released := 0
	for _, k := range append(sampleKeeps(), smallStates(t)...) {
		for i, n := range k.Held {
			rec := "let " + markWords(markOf(n))
			if len(k.Marks) == impl.KeepMaxMarks {
				wantNotDone(t, k, rec)
				continue
			}
			after, ok := do(t, k, rec)
			if !ok || !slices.Contains(after.Marks, markOf(n)) || !slices.Equal(after.Held, slices.Delete(slices.Clone(k.Held), i, i+1)) || len(after.Marks) != len(k.Marks)+1 || !slices.Equal(after.Inbox, k.Inbox) {
				t.Errorf("KeepDo(%+v, %q) is %+v, %v", k, rec, after, ok)
			}
			released++
			wantMarkedUntilExpired(t, after, n)
			for _, until := range []int{n.Until - 1, n.Until + 1, 0, -n.Until} {
				wantNotDone(t, k, fmt.Sprintf("let %d %d %d", n.From, n.Num, until))
			}
		}
	}
	if released < 100 {
		t.Errorf("only %d messages were released", released)
	}
}

// wantMarkedUntilExpired wants the mark at each time before Until at which the state can be, and the message refused there.
func wantMarkedUntilExpired(t *testing.T, k impl.Keep, n impl.Note) {
	t.Helper()
	for _, time := range []int{k.Time, k.Time + 1, n.Until - 1, n.Until, n.Until + 1} {
		if time > k.Time {
			after, ok := do(t, k, fmt.Sprintf("time %d", time))
			if !ok {
				continue
			}
			if slices.Contains(after.Marks, markOf(n)) != (time < n.Until) {
				t.Errorf("at time %d %+v is marked or not in %+v", time, n, after)
			}
			wantNotDone(t, after, "take "+wantText(n))
		} else {
			wantNotDone(t, k, "take "+wantText(n))
		}
	}
}

// P36: what was accepted can be released, all of it, at the limit too.
func TestAllAcceptedMessagesCanBeReleased(t *testing.T) {
	k := impl.KeepStart(1)
	for num := 1; num <= 6; num++ {
		k = done(t, k, fmt.Sprintf("take 0 %d 1 9 a", num), fmt.Sprintf("take 0 %d 3 9 a", num+6))
	}
	if len(k.Held) != 6 || len(k.Marks) != 6 || len(k.Inbox) != 6 {
		t.Fatalf("%+v", k)
	}
	wantNotDone(t, k, "take 0 13 3 9 a")
	wantNotDone(t, k, "take 0 13 1 9 a")
	wantNotDone(t, k, "own 1 1 3 9 a")
	wantNotDone(t, k, "own 1 1 1 9 a")
	for num := 12; num >= 7; num-- {
		k = done(t, k, fmt.Sprintf("let 0 %d 9", num))
	}
	if len(k.Held) != 0 || !slices.Equal(k.Marks, marksFor(12, 0, 9)) {
		t.Errorf("%+v", k)
	}
}

// Held, Marks and Inbox take as many as their limits say, and no more.
func TestFullLists(t *testing.T) {
	full := map[string]impl.Keep{
		"held":  {Id: 2, Next: 1, Held: notesFor(6, 0, 3, 9)},
		"marks": {Id: 2, Next: 1, Marks: marksFor(12, 0, 9)},
		"inbox": {Id: 2, Next: 1, Marks: marksFor(6, 0, 9), Inbox: notesFor(6, 0, 2, 9)},
		"both":  {Id: 2, Next: 1, Held: notesFor(6, 0, 3, 9), Marks: marksFor(6, 1, 9)},
	}
	for _, c := range []struct {
		list string
		rec  string
		ok   bool
	}{
		{"held", "take 0 7 3 9 a", false}, {"held", "own 2 1 3 9 a", false}, {"held", "held 0 7 3 9 a", false},
		{"held", "take 0 7 2 9 a", true}, {"held", "own 2 1 2 9 a", true}, {"held", "mark 0 7 9", true}, {"held", "let 0 6 9", true},
		{"marks", "take 0 13 3 9 a", false}, {"marks", "take 0 13 2 9 a", false}, {"marks", "own 2 1 0 9 a", false}, {"marks", "own 2 1 2 9 a", false}, {"marks", "mark 0 13 9", false},
		{"marks", "held 0 13 3 9 a", true}, {"marks", "inbox 0 12 2 9 a", true}, {"marks", "time 9", true},
		{"inbox", "take 0 7 2 9 a", false}, {"inbox", "own 2 1 2 9 a", false}, {"inbox", "inbox 3 1 2 9 a", false},
		{"inbox", "take 0 7 3 9 a", true}, {"inbox", "own 2 1 3 9 a", true}, {"inbox", "eat 0 6 9", true}, {"inbox", "mark 3 1 9", true},
		{"both", "take 1 7 2 9 a", false}, {"both", "take 1 7 3 9 a", false}, {"both", "own 2 1 2 9 a", false}, {"both", "own 2 1 0 9 a", false}, {"both", "held 1 7 3 9 a", false},
		{"both", "mark 1 7 9", true}, {"both", "let 0 1 9", true}, {"both", "inbox 1 6 2 9 a", true},
	} {
		if _, ok := wantAsByHand(t, full[c.list], c.rec); ok != c.ok {
			t.Errorf("%q with full lists (%s) is %v", c.rec, c.list, ok)
		}
	}
	// Twelve held and marked messages together leave no space, though Held alone would have some.
	for held := range impl.KeepMaxHeld {
		for marks := 12 - held - 1; marks <= 12; marks++ {
			k := impl.Keep{Id: 2, Next: 1, Held: notesFor(held, 0, 3, 9), Marks: marksFor(marks, 1, 9)}
			for _, rec := range []string{"take 3 1 0 9 a", "take 3 1 2 9 a", "own 2 1 0 9 a", "own 2 1 2 9 a"} {
				if _, ok := wantAsByHand(t, k, rec); ok != (held+marks < 12) {
					t.Errorf("%q with %d held and %d marks is %v", rec, held, marks, ok)
				}
			}
		}
	}
	// An inbox that is full of expired messages takes none, and frees no space by time.
	old := impl.Keep{Id: 2, Next: 1, Time: 9, Inbox: notesFor(6, 0, 2, 9)}
	wantNotDone(t, old, "take 1 1 2 99 a")
	wantNotDone(t, old, "inbox 1 1 2 9 a")
	done(t, old, "eat 0 3 9", "take 1 1 2 99 a")
	wantNotDone(t, done(t, old, "time 99"), "take 1 1 2 999 a")
}

// P37
func TestStateDependsOnlyOnTheRecords(t *testing.T) {
	r := rand.New(rand.NewPCG(33, 34))
	for id := range impl.NoteKeepers {
		k := impl.Keep{Id: id, Next: 1}
		var recs []string
		for len(recs) < 80 {
			rec := anyRecord(r, k)
			after, ok := doByHand(k, rec)
			if ok {
				k = after
				recs = append(recs, rec)
			}
		}
		whole, ok := impl.KeepOf(id, recs)
		if !ok || !sameKeep(whole, k) {
			t.Fatalf("KeepOf(%d, %q) is %+v, %v, want %+v", id, recs, whole, ok, k)
		}
		for cut := range len(recs) + 1 {
			part, ok := impl.KeepOf(id, recs[:cut])
			if !ok {
				t.Errorf("KeepOf of the first %d records is false", cut)
			}
			if got := done(t, part, recs[cut:]...); !sameKeep(got, whole) {
				t.Errorf("the first %d records, followed by the rest, give %+v, want %+v", cut, got, whole)
			}
			restored := append(impl.KeepRecs(part), recs[cut:]...)
			if got, ok := impl.KeepOf(id, restored); !ok || !sameKeep(got, whole) {
				t.Errorf("KeepRecs of the first %d records, followed by the rest, give %+v, %v, want %+v", cut, got, ok, whole)
			}
		}
	}
}

// P37: one record that is not possible, wherever it is, spoils all.
func TestImpossibleRecordAmongOthers(t *testing.T) {
	recs := []string{"time 1", "take 0 1 3 9 a", "own 1 1 3 9 b", "time 2", "let 0 1 9", "take 0 2 1 9 c", "eat 0 2 9"}
	if _, ok := impl.KeepOf(1, recs); !ok {
		t.Fatal("the records alone are not possible")
	}
	for at := range len(recs) + 1 {
		for _, bad := range []string{"", "time 0", "next 1", "let 3 3 3", "eat 3 3 3", "own 1 9 3 9 a", "take 1 1 3 9 a", "what"} {
			list := slices.Insert(slices.Clone(recs), at, bad)
			if k, ok := impl.KeepOf(1, list); ok || !isZeroKeep(k) {
				t.Errorf("KeepOf(1, %q) is %+v, %v, want the zero value and false", list, k, ok)
			}
		}
	}
}

// P38
func TestOwnMessagesHaveTheNextNumber(t *testing.T) {
	for id := range impl.NoteKeepers {
		k := impl.KeepStart(id)
		for num := 1; num <= impl.NoteMaxNum; num++ {
			to := num % 4
			for _, other := range []int{0, 1, num - 1, num + 1, 99, 100} {
				if other != num {
					wantNotDone(t, k, fmt.Sprintf("own %d %d %d %d a", id, other, to, num+1))
				}
			}
			after := done(t, k, fmt.Sprintf("own %d %d %d %d a", id, num, to, num+1))
			if k.Next != num || after.Next != num+1 {
				t.Fatalf("number %d: Next is %d, and then %d", num, k.Next, after.Next)
			}
			wantNumberIsUsed(t, after, num, to)
			k = done(t, after, fmt.Sprintf("time %d", num+1))
			wantNumberIsUsed(t, k, num, to)
			for _, n := range k.Inbox {
				k = done(t, k, "eat "+markWords(markOf(n)))
			}
			wantNumberIsUsed(t, k, num, to)
		}
		if k.Next != 100 || !impl.KeepOk(k) {
			t.Errorf("behind all numbers is %+v", k)
		}
		for _, num := range []int{1, 99, 100, 101} {
			for _, to := range []int{0, 1, 2, 3} {
				wantNotDone(t, k, fmt.Sprintf("own %d %d %d 900 a", id, num, to))
			}
		}
		wantNotDone(t, k, "next 100")
		wantNotDone(t, k, "next 101")
	}
}

// wantNumberIsUsed wants neither an own message with this number, nor one that came from elsewhere.
func wantNumberIsUsed(t *testing.T, k impl.Keep, num int, to int) {
	t.Helper()
	for _, word := range []string{"own", "take"} {
		for _, until := range []int{k.Time + 1, 999} {
			wantNotDone(t, k, fmt.Sprintf("%s %d %d %d %d a", word, k.Id, num, to, until))
		}
	}
	wantNotDone(t, k, fmt.Sprintf("next %d", num))
	wantNotDone(t, k, fmt.Sprintf("next %d", k.Next))
}

// P38: numbers of the node itself, below Next and from Next on, in each kind of record.
func TestOwnNumbersAgainstNext(t *testing.T) {
	for _, next := range []int{1, 2, 5, 98, 99, 100} {
		k := impl.Keep{Id: 1, Time: 4, Next: next}
		for _, num := range []int{1, next - 2, next - 1, next, next + 1, 98, 99, 100} {
			valid := num >= 1 && num <= impl.NoteMaxNum
			for _, c := range []struct {
				rec  string
				want bool
			}{
				{fmt.Sprintf("own 1 %d 3 9 a", num), valid && num == next},
				{fmt.Sprintf("own 1 %d 1 9 a", num), valid && num == next},
				{fmt.Sprintf("take 1 %d 3 9 a", num), false},
				{fmt.Sprintf("take 1 %d 1 9 a", num), false},
				{fmt.Sprintf("held 1 %d 3 9 a", num), valid && num < next},
				{fmt.Sprintf("inbox 1 %d 1 4 a", num), valid && num < next},
				{fmt.Sprintf("mark 1 %d 9", num), valid && num < next},
				{fmt.Sprintf("take 2 %d 0 9 a", num), valid},
				{fmt.Sprintf("held 2 %d 0 9 a", num), valid},
				{fmt.Sprintf("inbox 2 %d 1 4 a", num), valid},
				{fmt.Sprintf("mark 2 %d 9", num), valid},
			} {
				if _, ok := wantAsByHand(t, k, c.rec); ok != c.want {
					t.Errorf("%q with Next %d is %v, want %v", c.rec, next, ok, c.want)
				}
			}
		}
		for _, number := range []int{0, 1, next - 1, next, next + 1, 99, 100, 101, 1000} {
			if _, ok := wantAsByHand(t, k, fmt.Sprintf("next %d", number)); ok != (number > next && number <= 100) {
				t.Errorf("next %d with Next %d is %v", number, next, ok)
			}
		}
	}
}

// An unchanged state, KeepRecs and KeepOf answer new memory, as the states behind records do (see do).
func TestKeepAnswersNewMemory(t *testing.T) {
	k := roomy(plainKeep())
	if !impl.KeepOk(k) || !isUntouched(k, plainKeep()) {
		t.Errorf("KeepOk changes its argument: %+v", k)
	}
	recs := impl.KeepRecs(k)
	again := impl.KeepRecs(k)
	if !isUntouched(k, plainKeep()) {
		t.Errorf("KeepRecs changes its argument: %+v", k)
	}
	for i := range recs {
		recs[i] = "changed"
	}
	if !slices.Equal(again, recsByHand(plainKeep())) {
		t.Errorf("two answers of KeepRecs share memory: %q", again)
	}
	argument := slices.Clone(again)
	first, _ := impl.KeepOf(1, argument)
	second, _ := impl.KeepOf(1, argument)
	scribble(first)
	if !sameKeep(second, plainKeep()) || !slices.Equal(argument, again) {
		t.Errorf("KeepOf changes its argument or shares memory: %+v, %q", second, argument)
	}
}

// Lists of one answer share no memory either, up to their capacity.
func TestListsOfOneStateShareNoMemory(t *testing.T) {
	for _, rec := range append([]string{"what"}, formedRecords...) {
		k, _ := impl.KeepDo(roomy(plainKeep()), rec)
		was := cloneKeep(k)
		scribble(impl.Keep{Held: k.Held})
		if !slices.Equal(k.Inbox, was.Inbox) {
			t.Errorf("behind %q Held shares memory with the inbox", rec)
		}
		scribble(impl.Keep{Inbox: k.Inbox})
		if !slices.Equal(k.Marks, was.Marks) {
			t.Errorf("behind %q the inbox shares memory with the marks", rec)
		}
	}
}
