package tests

import (
	"slices"
	"strings"
	"testing"

	"loop.example/bargeman/impl"
)

func TestBoardOfTheStart(t *testing.T) {
	want := "keeper 0 up, time 0, next 1, log 0, forced 0, marks 0, halves 0\n" +
		"keeper 1 up, time 0, next 1, log 0, forced 0, marks 0, halves 0\n" +
		"keeper 2 up, time 0, next 1, log 0, forced 0, marks 0, halves 0\n" +
		"keeper 3 up, time 0, next 1, log 0, forced 0, marks 0, halves 0\n" +
		"links there there there\n" +
		"0 sent, 0 under way\n"
	if board := wantBoard(t, impl.RiverStart()); board != want {
		t.Errorf("RiverBoard of the start is %q, want %q", board, want)
	}
}

// P99: every kind of line, and every number in it another one.
func TestBoardOfAFullRun(t *testing.T) {
	w := impl.River{
		Time: 4321,
		Keepers: []impl.Keeper{
			nodeOf(0, 1, "own 0 1 3 50 a b  ", "time 7", "own 0 2 1 50 second", "own 0 3 0 60 to myself"),
			down(nodeOf(1, 0, "next 100")),
			durableNode(2, "take 3 7 2 9 for 2", "mark 1 1 3", "mark 1 2 3", "take 3 8 1 9 for 1", "take 0 9 2 9 from 0", "eat 3 7 9", "time 3"),
			durableNode(3, "time 999"),
		},
		Links: []bool{true, false, false},
		Radio: transitOf(12),
		Sent:  []impl.Note{far, back},
		Got:   []impl.Note{back, {From: 0, Num: 12, To: 2, Until: 999, Text: "~ got ~"}, far},
	}
	w.Keepers[2].Halves = []impl.Half{halfOf(far, 0)}
	want := "keeper 0 up, time 7, next 4, log 80, forced 22, marks 1, halves 0\n" +
		"  holds 0 1 3 50 a b  \n" +
		"  holds 0 2 1 50 second\n" +
		"  inbox 0 3 0 60 to myself\n" +
		"keeper 1 down, time 0, next 100, log 11, forced 0, marks 0, halves 0\n" +
		"keeper 2 up, time 3, next 1, log 116, forced 116, marks 2, halves 1\n" +
		"  holds 3 8 1 9 for 1\n" +
		"  inbox 0 9 2 9 from 0\n" +
		"keeper 3 up, time 999, next 1, log 11, forced 11, marks 0, halves 0\n" +
		"links there away away\n" +
		"got 3 1 1 6 back\n" +
		"got 0 12 2 999 ~ got ~\n" +
		"got 0 1 3 9 from end to end\n" +
		"2 sent, 12 under way\n"
	if board := wantBoard(t, w); board != want {
		t.Errorf("RiverBoard is %q, want %q", board, want)
	}
}

func TestBoardOfLinks(t *testing.T) {
	for links := range 8 {
		w := startByHand()
		line := "links"
		for i := range w.Links {
			w.Links[i] = links>>i&1 == 1
			line += []string{" away", " there"}[links>>i&1]
		}
		if lines := strings.Split(wantBoard(t, w), "\n"); lines[4] != line {
			t.Errorf("links %v are %q", w.Links, lines[4])
		}
	}
}

// wantLines wants a line for each node, each message, the links, each taken message and the numbers, and no other ones.
func wantLines(t *testing.T, w impl.River) {
	t.Helper()
	board := wantBoard(t, w)
	lines := strings.SplitAfter(board, "\n")
	count := map[string]int{}
	for _, line := range lines[:len(lines)-1] {
		count[line]++
	}
	held, inbox := placesOf(w, heldOf), placesOf(w, inboxOf)
	if want := 4 + len(held) + len(inbox) + 1 + len(w.Got) + 1; len(lines)-1 != want || lines[len(lines)-1] != "" {
		t.Errorf("RiverBoard(%+v) has %d lines, want %d: %q", w, len(lines)-1, want, board)
	}
	want := map[string]int{}
	for _, p := range held {
		want["  holds "+wantText(p.note)+"\n"]++
	}
	for _, p := range inbox {
		want["  inbox "+wantText(p.note)+"\n"]++
	}
	for _, n := range w.Got {
		want["got "+wantText(n)+"\n"]++
	}
	for line, times := range want {
		if count[line] != times {
			t.Errorf("RiverBoard(%+v) has %q %d times, want %d", w, line, count[line], times)
		}
	}
}

// P99: all nodes that there are samples of, runs that no events lead to, and the walks.
func TestBoardHasALineForEverything(t *testing.T) {
	for _, k := range sampleNodes() {
		wantLines(t, startWith(k))
		wantLines(t, changedRiver(func(w *impl.River) { w.Keepers[k.Id] = k }))
	}
	for _, w := range slices.Concat(sampleRivers(), sampleRuns(t, 10)) {
		wantLines(t, w)
		wantLines(t, impl.RiverCalm(w, 1))
	}
}

// The board does not hang on whether a run is safe, or on its time.
func TestBoardOfAnyTime(t *testing.T) {
	w := sentTo(far, back)
	board := wantBoard(t, w)
	for _, time := range []int{1, 79999, 99999} {
		w.Time = time
		if again := wantBoard(t, w); again != board {
			t.Errorf("RiverBoard(%+v) is %q, want %q", w, again, board)
		}
	}
	w.Sent, w.Got = nil, slices.Repeat([]impl.Note{far}, 6)
	wantLines(t, w)
}

func TestBoardOfInvalidRuns(t *testing.T) {
	for _, c := range brokenRuns() {
		for _, w := range []impl.River{startByHand(), sentTo(far), openRiver()} {
			c.change(&w)
			if board := asked(t, "RiverBoard", impl.RiverBoard, w); board != "" {
				t.Errorf("RiverBoard of %s is %q", c.what, board)
			}
		}
	}
}
