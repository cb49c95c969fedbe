package tests

import (
	"fmt"
	"math/rand/v2"
	"regexp"
	"slices"
	"strings"
	"testing"

	"loop.example/bargeman/impl"
)

// allPrintable is the bytes from 32 to 126, in order.
const allPrintable = " !\"#$%&'()*+,-./0123456789:;<=>?@ABCDEFGHIJKLMNOPQRSTUVWXYZ[\\]^_`abcdefghijklmnopqrstuvwxyz{|}~"

// noteForm is all texts of messages; it stands for the document's words on them.
var noteForm = regexp.MustCompile(`^[0-3] [1-9][0-9]? [0-3] [1-9][0-9]{0,2} [ -~]{1,24}$`)

var plainNote = impl.Note{From: 2, Num: 7, To: 0, Until: 30, Text: "hello world"}

// noteTexts has texts of each length, each byte that is allowed, and blanks and numbers where they could be mistaken.
func noteTexts() []string {
	texts := []string{
		"a", " ", "~", "0", "7", "~ ~", " a", "a ", " a ", "  a  ", "a  b", " a b ", "hello world",
		"5 6", "2 7 0 30 a", " 2 7 0 30", "0 1 0 1  ", "-1", "+1", "007", "1 ", " 1", "%d %s", "\\n", "\"a\"",
	}
	for size := 1; size <= impl.MixMaxText; size++ {
		texts = append(texts,
			alphabet[:size],
			strings.Repeat(" ", size),
			strings.Repeat("~", size),
			strings.Repeat("9", size),
			strings.Repeat(" ", size-1)+"x",
			"x"+strings.Repeat(" ", size-1))
	}
	for i := range len(allPrintable) {
		texts = append(texts, allPrintable[i:i+1], "a"+allPrintable[i:i+1]+"b")
	}
	return texts
}

// sampleNotes has each value of each field, beside the first and the last ones of the others.
func sampleNotes() []impl.Note {
	var notes []impl.Note
	for from := range impl.NoteKeepers {
		for to := range impl.NoteKeepers {
			for _, num := range []int{1, 9, 10, impl.NoteMaxNum} {
				for _, until := range []int{1, 9, 10, 99, 100, impl.NoteMaxTime} {
					notes = append(notes, impl.Note{From: from, Num: num, To: to, Until: until, Text: " a "})
				}
			}
		}
	}
	for num := 1; num <= impl.NoteMaxNum; num++ {
		notes = append(notes, impl.Note{From: 0, Num: num, To: 3, Until: 1, Text: "x"})
	}
	for until := 1; until <= impl.NoteMaxTime; until++ {
		notes = append(notes, impl.Note{From: 3, Num: 99, To: 0, Until: until, Text: "1"})
	}
	for _, text := range noteTexts() {
		notes = append(notes, impl.Note{From: 1, Num: 10, To: 2, Until: 100, Text: text})
	}
	return notes
}

// changed is the plain message with one field changed.
func changed(change func(n *impl.Note)) impl.Note {
	n := plainNote
	change(&n)
	return n
}

// invalidNotes has each field out of its range, the others being valid.
func invalidNotes() []impl.Note {
	notes := []impl.Note{{}, {Text: "a"}, {From: -1, Num: -1, To: -1, Until: -1, Text: "\n"}}
	for _, bad := range append([]int{impl.NoteKeepers, impl.NoteKeepers + 1}, outOfRange...) {
		notes = append(notes,
			changed(func(n *impl.Note) { n.From = bad }),
			changed(func(n *impl.Note) { n.To = bad }),
			changed(func(n *impl.Note) { n.From, n.To = bad, bad }))
	}
	for _, bad := range append([]int{0, impl.NoteMaxNum + 1}, outOfRange...) {
		notes = append(notes, changed(func(n *impl.Note) { n.Num = bad }))
	}
	for _, bad := range append([]int{0, impl.NoteMaxTime + 1}, outOfRange...) {
		notes = append(notes, changed(func(n *impl.Note) { n.Until = bad }))
	}
	for _, bad := range invalidNoteTexts() {
		notes = append(notes, changed(func(n *impl.Note) { n.Text = bad }))
	}
	return notes
}

// invalidNoteTexts has each forbidden byte alone, and at the start, in the middle and at the end of a text.
func invalidNoteTexts() []string {
	texts := []string{"", alphabet + "y", alphabet + " ", " " + alphabet, strings.Repeat(" ", 25), strings.Repeat("a", 5000), "\u00e4", "a\u00a0b", "\U0001f600"}
	for b := range 256 {
		if !strings.Contains(allPrintable, string([]byte{byte(b)})) {
			bad := string([]byte{byte(b)})
			texts = append(texts, bad, bad+"ab", "a"+bad+"b", "ab"+bad, alphabet[:23]+bad)
		}
	}
	return texts
}

// wantText is the text of a message, apart from the program.
func wantText(n impl.Note) string {
	return fmt.Sprintf("%d %d %d %d %s", n.From, n.Num, n.To, n.Until, n.Text)
}

func wantNoNote(t *testing.T, text string) {
	t.Helper()
	if n, ok := impl.NoteRead(text); ok || n != (impl.Note{}) {
		t.Errorf("NoteRead(%q) is %#v, %v, want the zero value and false", text, n, ok)
	}
}

func TestNoteConstants(t *testing.T) {
	if impl.NoteKeepers != 4 || impl.NoteMaxNum != 99 || impl.NoteMaxTime != 999 {
		t.Errorf("%d nodes, %d numbers, %d times", impl.NoteKeepers, impl.NoteMaxNum, impl.NoteMaxTime)
	}
	if len(allPrintable) != 126-32+1 || allPrintable[0] != 32 || allPrintable[len(allPrintable)-1] != 126 {
		t.Error("allPrintable is not the bytes from 32 to 126")
	}
}

func TestNoteOkHoldsForValidMessages(t *testing.T) {
	for _, n := range sampleNotes() {
		if !impl.NoteOk(n) {
			t.Errorf("NoteOk(%#v) is false", n)
		}
	}
}

func TestInvalidMessages(t *testing.T) {
	for _, n := range invalidNotes() {
		if impl.NoteOk(n) {
			t.Errorf("NoteOk(%#v) is true", n)
		}
		if text := impl.NoteWrite(n); text != "" {
			t.Errorf("NoteWrite(%#v) is %q, want an empty string", n, text)
		}
		wantNoNote(t, wantText(n))
	}
}

func TestNoteWriteValues(t *testing.T) {
	for _, c := range []struct {
		n    impl.Note
		want string
	}{
		{plainNote, "2 7 0 30 hello world"},
		{impl.Note{From: 0, Num: 1, To: 0, Until: 1, Text: " "}, "0 1 0 1  "},
		{impl.Note{From: 3, Num: 99, To: 3, Until: 999, Text: "~"}, "3 99 3 999 ~"},
		{impl.Note{From: 1, Num: 20, To: 3, Until: 400, Text: " a b "}, "1 20 3 400  a b "},
		{impl.Note{From: 0, Num: 10, To: 2, Until: 100, Text: alphabet}, "0 10 2 100 abcdefghijklmnopqrstuvwx"},
		{impl.Note{From: 3, Num: 4, To: 1, Until: 5, Text: "6 7"}, "3 4 1 5 6 7"},
	} {
		if got := impl.NoteWrite(c.n); got != c.want {
			t.Errorf("NoteWrite(%#v) is %q, want %q", c.n, got, c.want)
		}
		if got, ok := impl.NoteRead(c.want); !ok || got != c.n {
			t.Errorf("NoteRead(%q) is %#v, %v, want %#v", c.want, got, ok, c.n)
		}
	}
}

// P15
func TestMessageIsReadBack(t *testing.T) {
	for _, n := range sampleNotes() {
		text := impl.NoteWrite(n)
		if text != wantText(n) {
			t.Errorf("NoteWrite(%#v) is %q, want %q", n, text, wantText(n))
		}
		if got, ok := impl.NoteRead(text); !ok || got != n {
			t.Errorf("NoteRead(%q) is %#v, %v, want %#v", text, got, ok, n)
		}
	}
}

// P15
func TestMessageOfAnyFieldsIsReadBack(t *testing.T) {
	r := rand.New(rand.NewPCG(3, 4))
	for range 50000 {
		text := make([]byte, 1+r.IntN(impl.MixMaxText))
		for i := range text {
			text[i] = allPrintable[r.IntN(len(allPrintable))]
		}
		n := impl.Note{From: r.IntN(4), Num: 1 + r.IntN(99), To: r.IntN(4), Until: 1 + r.IntN(999), Text: string(text)}
		written := impl.NoteWrite(n)
		if got, ok := impl.NoteRead(written); !ok || got != n || written != wantText(n) {
			t.Fatalf("%#v is written as %q and read as %#v, %v", n, written, got, ok)
		}
	}
}

// wantAsTheFormSays holds NoteRead against the form of texts, and NoteWrite of what it accepts against the text.
func wantAsTheFormSays(t *testing.T, text string) bool {
	t.Helper()
	if !noteForm.MatchString(text) {
		wantNoNote(t, text)
		return false
	}
	n, ok := impl.NoteRead(text)
	if !ok || !impl.NoteOk(n) {
		t.Errorf("NoteRead(%q) is %#v, %v, want a valid message", text, n, ok)
	}
	if written := impl.NoteWrite(n); written != text {
		t.Errorf("%q is read as %#v, which is written as %q", text, n, written)
	}
	return true
}

// noteBytes is bytes that could be mistaken in the text of a message.
const noteBytes = " 01459-+.x\x00\n\t\x1f~\x7f\x80\xff"

// nearTexts has each text that differs from the given one by a byte that is left out, or by one of these that is inserted or put in its place.
func nearTexts(text string, bytes string) []string {
	var near []string
	for i := 0; i <= len(text); i++ {
		for _, b := range []byte(bytes) {
			near = append(near, text[:i]+string([]byte{b})+text[i:])
			if i < len(text) {
				near = append(near, text[:i]+string([]byte{b})+text[i+1:])
			}
		}
		if i < len(text) {
			near = append(near, text[:i]+text[i+1:])
		}
	}
	return near
}

// P16
func TestMessageHasOneText(t *testing.T) {
	accepted, refused := 0, 0
	hold := func(texts []string) {
		for _, text := range texts {
			if wantAsTheFormSays(t, text) {
				accepted++
			} else {
				refused++
			}
		}
	}
	for _, start := range []string{"2 7 0 30 hello world", "3 99 3 999 ~", "1 10 2 100  a b ", "3 9 1 99 " + alphabet} {
		hold(append(nearTexts(start, noteBytes), start))
	}
	for _, start := range []string{"0 1 0 1 a", "0 1 0 1  ", "2 50 2 9 6 7"} {
		for _, near := range nearTexts(start, noteBytes) {
			hold(nearTexts(near, noteBytes))
		}
	}
	if accepted < 10000 || refused < 10000 {
		t.Errorf("%d texts are accepted and %d refused: both kinds must be tested", accepted, refused)
	}
}

// P16
func TestDifferentMessagesHaveDifferentTexts(t *testing.T) {
	messages := map[string]impl.Note{}
	for _, n := range sampleNotes() {
		text := impl.NoteWrite(n)
		if other, found := messages[text]; found && other != n {
			t.Errorf("%#v and %#v have the text %q", n, other, text)
		}
		messages[text] = n
	}
}

func TestNoteReadOfInvalidTexts(t *testing.T) {
	const great = "99999999999999999999"
	for _, text := range []string{
		"", " ", "     ", "2", "2 ", "2 7", "2 7 0", "2 7 0 30", "2 7 0 30 ", "270 30 a", "2 7 0 30a", "2 7 0 30\x00a", "2\t7 0 30 a", "2\n7 0 30 a", "hello world", "a b c d e",
		" 2 7 0 30 a", "2  7 0 30 a", "2 7  0 30 a", "2 7 0  30 a", "\n2 7 0 30 a", "2 7 0 30 a\n", "2 7 0 30 a\x00", "2,7,0,30,a",
		"02 7 0 30 a", "2 07 0 30 a", "2 7 00 30 a", "2 7 0 030 a", "00 7 0 30 a", "2 7 0 000000000000000000000000000030 a",
		"+2 7 0 30 a", "2 +7 0 30 a", "2 7 +0 30 a", "2 7 0 +30 a", "-2 7 0 30 a", "2 -7 0 30 a", "2 7 -0 30 a", "2 7 0 -30 a", "-0 7 0 30 a",
		"x 7 0 30 a", "2 x 0 30 a", "2 7 x 30 a", "2 7 0 x a", "2 7 0 30x a", "0x2 7 0 30 a", "2 7 0 3_0 a", "2 7 0 3e1 a", "2. 7 0 30 a", "2 7.0 0 30 a",
		" 7 0 30 a", "2 7 \u0660 30 a", "2 7 0 \uff13\uff10 a",
		"4 7 0 30 a", "2 0 0 30 a", "2 100 0 30 a", "2 7 4 30 a", "2 7 0 0 a", "2 7 0 1000 a", "10 7 0 30 a", "-1 7 0 30 a", "2 7 -1 30 a", "2 7 0 -1 a",
		great + " 7 0 30 a", "2 " + great + " 0 30 a", "2 7 " + great + " 30 a", "2 7 0 " + great + " a",
		"-" + great + " 7 0 30 a", "2 -" + great + " 0 30 a", "2 7 -" + great + " 30 a", "2 7 0 -" + great + " a",
		// Multiples of 2 to the 64, and what is 2, 7 or 30 more, would come round to valid numbers.
		"18446744073709551618 7 0 30 a", "2 18446744073709551623 0 30 a", "2 7 18446744073709551616 30 a", "2 7 0 18446744073709551646 a",
		// So would 2 to the 32 and more in numbers of 32 bits.
		"4294967298 7 0 30 a", "2 4294967303 0 30 a", "2 7 4294967296 30 a", "2 7 0 4294967326 a",
		"2 7 0 30 " + alphabet + "y", "2 7 0 30 " + alphabet + " ", "2 7 0 30  " + alphabet, "2 7 0 30 " + strings.Repeat(" ", 25),
		strings.Repeat("2", 10000) + " 7 0 30 a", strings.Repeat(" ", 10000), "2 7 0 30 " + strings.Repeat("a", 10000),
	} {
		wantNoNote(t, text)
	}
}

// Blanks belong to the text from the one behind Until on: none may be taken off or added.
func TestBlanksAtTheEndsOfATextAreKept(t *testing.T) {
	for front := range impl.MixMaxText + 2 {
		for back := range impl.MixMaxText + 2 - front {
			for _, middle := range []string{"", "a", "a b", "3 4"} {
				body := strings.Repeat(" ", front) + middle + strings.Repeat(" ", back)
				text := "2 7 0 30 " + body
				got, ok := impl.NoteRead(text)
				if valid := len(body) >= 1 && len(body) <= impl.MixMaxText; ok != valid {
					t.Errorf("NoteRead(%q) is %v, want %v", text, ok, valid)
				} else if valid && (got.Text != body || impl.NoteWrite(got) != text) {
					t.Errorf("NoteRead(%q) has the text %q", text, got.Text)
				}
			}
		}
	}
}

// anyText has any bytes, but mostly usual ones: so that some of it can be read.
func anyText(r *rand.Rand, usual string) string {
	text := make([]byte, r.IntN(40))
	for i := range text {
		text[i] = byte(r.IntN(256))
		if r.IntN(4) > 0 {
			text[i] = usual[r.IntN(len(usual))]
		}
	}
	return string(text)
}

func TestNoteReadEndsForAnyText(t *testing.T) {
	r := rand.New(rand.NewPCG(5, 6))
	for range 50000 {
		wantAsTheFormSays(t, anyText(r, "0123  9"))
	}
}

func distance(a int, b int) int {
	return max(a, b) - min(a, b)
}

// way is the nodes from one to another, as NoteNext leads there.
func way(t *testing.T, from int, to int) []int {
	t.Helper()
	nodes := []int{from}
	for at := from; at != to; nodes = append(nodes, at) {
		if len(nodes) > impl.NoteKeepers {
			t.Fatalf("no end of the way from %d to %d: %v", from, to, nodes)
		}
		at = impl.NoteNext(at, to)
	}
	return nodes
}

func TestNoteNextValues(t *testing.T) {
	want := [impl.NoteKeepers][impl.NoteKeepers]int{
		{-1, 1, 1, 1},
		{0, -1, 2, 2},
		{1, 1, -1, 3},
		{2, 2, 2, -1},
	}
	for at, row := range want {
		for to, next := range row {
			if got := impl.NoteNext(at, to); got != next {
				t.Errorf("NoteNext(%d, %d) is %d, want %d", at, to, got, next)
			}
		}
	}
}

// P17
func TestEachHopIsOneNodeCloser(t *testing.T) {
	for from := range impl.NoteKeepers {
		for to := range impl.NoteKeepers {
			nodes := way(t, from, to)
			if len(nodes)-1 != distance(from, to) {
				t.Errorf("the way from %d to %d is %v, want %d hops", from, to, nodes, distance(from, to))
			}
			for hop := 1; hop < len(nodes); hop++ {
				if distance(nodes[hop], to) != distance(nodes[hop-1], to)-1 || distance(nodes[hop], nodes[hop-1]) != 1 {
					t.Errorf("the way from %d to %d is %v: hop %d", from, to, nodes, hop)
				}
			}
			if got := impl.NoteNext(nodes[len(nodes)-1], to); got != -1 {
				t.Errorf("the way from %d to %d goes on to %d", from, to, got)
			}
		}
	}
}

// P18
func TestWayBackHasTheSameNodes(t *testing.T) {
	for from := range impl.NoteKeepers {
		for to := range impl.NoteKeepers {
			there := way(t, from, to)
			back := way(t, to, from)
			slices.Reverse(back)
			if !slices.Equal(there, back) {
				t.Errorf("the way from %d to %d is %v, and back %v", from, to, there, back)
			}
		}
	}
}

func TestNoteNextOfNoNode(t *testing.T) {
	bad := append([]int{impl.NoteKeepers, impl.NoteKeepers + 1}, outOfRange...)
	for _, no := range bad {
		for node := range impl.NoteKeepers {
			if impl.NoteNext(no, node) != -1 || impl.NoteNext(node, no) != -1 {
				t.Errorf("NoteNext of %d and %d is %d, and the other way %d, want -1", no, node, impl.NoteNext(no, node), impl.NoteNext(node, no))
			}
		}
		for _, other := range bad {
			if got := impl.NoteNext(no, other); got != -1 {
				t.Errorf("NoteNext(%d, %d) is %d, want -1", no, other, got)
			}
		}
	}
}
