package tests

import (
	"fmt"
	"math"
	"math/rand/v2"
	"regexp"
	"slices"
	"strconv"
	"strings"
	"testing"

	"loop.example/bargeman/impl"
)

// logBytes is bytes that could be mistaken in a log.
const logBytes = "01269:;-+ x\x00\n\xff"

// lengthForm is all lengths of records, each with its colon; it stands for the document's words on them.
var lengthForm = regexp.MustCompile(`^([1-9]|[1-5][0-9]|60):`)

// logOf is the log of records, apart from the program.
func logOf(recs ...string) string {
	log := ""
	for _, rec := range recs {
		log += fmt.Sprintf("%d:%s;", len(rec), rec)
	}
	return log
}

// readByHand is ShelfRead, apart from the program.
func readByHand(log string) ([]string, int) {
	var recs []string
	at := 0
	for {
		length := lengthForm.FindStringSubmatch(log[at:])
		if length == nil {
			return recs, at
		}
		size, _ := strconv.Atoi(length[1])
		from := at + len(length[0])
		if len(log) <= from+size || log[from+size] != ';' {
			return recs, at
		}
		recs = append(recs, log[from:from+size])
		at = from + size + 1
	}
}

// ends is where each record of a log ends, and 0.
func ends(recs []string) []int {
	list := []int{0}
	for i, rec := range recs {
		list = append(list, list[i]+len(logOf(rec)))
	}
	return list
}

// trickyRecords could be mistaken for the end of a record, for the start of the next one, or for a whole one.
var trickyRecords = []string{
	"a", ";", ":", "1", "0", " ", "-", "\x00", "\n", "\r", "\xff", "\x80",
	";;", "::", ":;", ";:", "1:", "1;", ";1", ":1", "12", "00", "\x00\x00", "\n\n", "\x00;", ";\x00",
	"a;1:b", "1:x;", "1:x;1:y;", ";1:x;", ";1:x", "a;", "a:", ":a;", "5:a;1:b;", "2:ab;", "3:abc", "abc;", "60:", "60:;", "61:", "0:;", "01:x;", "-1:x;",
	"time 5", "let 1 2 3", "own 2 7 0 30  a b ", "1:x;\n1:y;\n", "\u00e4\u4e16\U0001f600", "line\nline\n", "10:0123456789;",
}

// sampleRecords has records of each length too, and each byte.
func sampleRecords() []string {
	recs := slices.Clone(trickyRecords)
	for size := 1; size <= impl.ShelfMaxRec; size++ {
		recs = append(recs,
			strings.Repeat("x", size),
			strings.Repeat(";", size),
			strings.Repeat("1:x;", size)[:size],
			strings.Repeat("0123456789", size)[:size])
	}
	for b := range 256 {
		one := string([]byte{byte(b)})
		recs = append(recs, one, "a"+one+"b", one+";1:"+one)
	}
	return recs
}

// noRecords has texts that are not records.
func noRecords() []string {
	texts := []string{""}
	for _, size := range []int{impl.ShelfMaxRec + 1, impl.ShelfMaxRec + 2, 99, 100, 255, 256, 257, impl.ShelfMax, 65537, 1 << 20} {
		texts = append(texts, strings.Repeat("x", size), strings.Repeat(";", size), strings.Repeat("1:x;", size)[:size], strings.Repeat("\x00", size))
	}
	return texts
}

// recordsOfSize has records whose log has exactly that many bytes, if that can be.
func recordsOfSize(size int) []string {
	var recs []string
	for size >= 64+64 {
		recs = append(recs, strings.Repeat("r", 60))
		size -= 64
	}
	for size > 0 {
		part := size
		if size > 64 || size == 13 {
			part = 4 + size%5
		}
		rec := strings.Repeat("s", part-3)
		if part > 12 {
			rec = strings.Repeat("t", part-4)
		}
		recs = append(recs, rec)
		size -= part
	}
	return recs
}

// sampleLogs has the records of valid logs.
func sampleLogs() [][]string {
	logs := [][]string{
		nil,
		{"a;1:b", "12345678901"},
		{"1:x;", "1:x;", "1:x;"},
		{";", ":", "1", "\x00", "\n"},
		trickyRecords,
		slices.Repeat([]string{"x"}, 20),
		{strings.Repeat("a", 60)},
		{strings.Repeat(";", 60), "b", strings.Repeat("1:x;", 15)},
		{"x", strings.Repeat("1", 9), strings.Repeat("2", 10), strings.Repeat("3", 11), strings.Repeat(":", 59)},
	}
	for _, rec := range trickyRecords {
		logs = append(logs, []string{rec}, []string{rec, "end"}, []string{"start", rec, rec})
	}
	return logs
}

// longLogs has the records of logs with as many bytes as may be, and with a few less.
func longLogs() [][]string {
	logs := [][]string{slices.Repeat([]string{";"}, 600), slices.Repeat([]string{"1:x;"}, 342)}
	for size := impl.ShelfMax - 5; size <= impl.ShelfMax; size++ {
		logs = append(logs, recordsOfSize(size))
	}
	return logs
}

// shelvesOf has a log with each possible Forced.
func shelvesOf(recs []string) []impl.Shelf {
	log := logOf(recs...)
	var shelves []impl.Shelf
	for _, end := range ends(recs) {
		shelves = append(shelves, impl.Shelf{Log: log, Forced: end})
	}
	return shelves
}

func sampleShelves() []impl.Shelf {
	var shelves []impl.Shelf
	for _, recs := range sampleLogs() {
		shelves = append(shelves, shelvesOf(recs)...)
	}
	for _, recs := range longLogs() {
		of := shelvesOf(recs)
		shelves = append(shelves, of[0], of[1], of[len(of)/2], of[len(of)-2], of[len(of)-1])
	}
	return shelves
}

// brokenStarts has what is no complete record, whatever follows it.
var brokenStarts = []string{
	";", ":", "::", ";;", "x", " ", "\x00", "\n", ":x;", ";1:x;", ":1:x;", "x;", "x:x;", " 1:x;", "\n1:x;", "\x001:x;",
	"1;x;", "1x;", "1 x;", "1 :x;", "1: x;", "1::x;", "1:x:", "1:xx", "1:xy;", "1:x ;", "1:\u00e4;", "2:x;x", "3:ab;x", "5:abcd;x", "1\x00:x;", "1\n:x;",
	"0:;", "0:x;", "00:;", "00:x;", "01:x;", "001:x;", "02:xy;", "010:0123456789;",
	"+1:x;", "-1:x;", "-1:;", "--1:x;", "+0:;", "-0:;", "-:x;", "+:x;", "1+:x;",
	"1a:x;", "a1:x;", "0x1:x;", "1_0:0123456789;", "1e1:0123456789;", "1.0:x;", "1,0:x;", "\uff11:x;", "\u0661:x;", "\xb1:x;",
	"61:" + strings.Repeat("a", 61) + ";", "99:" + strings.Repeat("a", 99) + ";", "100:" + strings.Repeat("a", 100) + ";", "600:" + strings.Repeat("a", 600) + ";",
	"61:" + strings.Repeat("a", 60) + ";", "060:" + strings.Repeat("a", 60) + ";", "+60:" + strings.Repeat("a", 60) + ";", "2396:" + strings.Repeat("a", 2396) + ";",
	"9223372036854775807:x;", "9223372036854775808:x;", "-9223372036854775808:x;", "99999999999999999999:x;", "-99999999999999999999:x;",
	// What is 1 more than 2 to the 64, 32, 16 or 8 would come round to 1.
	"18446744073709551617:x;", "4294967297:x;", "65537:x;", "257:x;", "-255:x;",
	strings.Repeat("1", 1000) + ":x;", strings.Repeat("0", 1000) + "1:x;", strings.Repeat("1", 5000), strings.Repeat("1:", 1000),
}

// brokenEnds has complete records of which the last byte or more is missing.
var brokenEnds = []string{"1", "1:", "1:x", "6", "60", "60:", "60:" + strings.Repeat("a", 60), "60:" + strings.Repeat("a", 59), "5:a;1:b", "5:a;1:", "12:1:x;1:y;1:z", "2:x;"}

func wantRead(t *testing.T, log string, wantRecs []string, wantSize int) {
	t.Helper()
	recs, size := impl.ShelfRead(log)
	if !slices.Equal(recs, wantRecs) || size != wantSize {
		t.Errorf("ShelfRead(%.300q) is %.300q, %d, want %.300q, %d", log, recs, size, wantRecs, wantSize)
	}
}

func wantReadAsByHand(t *testing.T, log string) {
	t.Helper()
	recs, size := readByHand(log)
	wantRead(t, log, recs, size)
}

func wantShelf(t *testing.T, what string, got impl.Shelf, want impl.Shelf) {
	t.Helper()
	if got != want {
		t.Errorf("%s is %.300q, forced %d, want %.300q, forced %d", what, got.Log, got.Forced, want.Log, want.Forced)
	}
}

// added is a log with a further record, which must be possible.
func added(t *testing.T, s impl.Shelf, rec string) impl.Shelf {
	t.Helper()
	longer, ok := impl.ShelfAdd(s, rec)
	if !ok {
		t.Errorf("ShelfAdd(%#v, %q) is false", s, rec)
	}
	return longer
}

func wantNotAdded(t *testing.T, s impl.Shelf, rec string) {
	t.Helper()
	got, ok := impl.ShelfAdd(s, rec)
	if ok {
		t.Errorf("ShelfAdd of %.100q to %d bytes is true", rec, len(s.Log))
	}
	wantShelf(t, "ShelfAdd that is not possible", got, s)
}

func wantNotPacked(t *testing.T, s impl.Shelf, recs []string) {
	t.Helper()
	got, ok := impl.ShelfPack(s, recs)
	if ok {
		t.Errorf("ShelfPack of %d records, %.100q, is true", len(recs), recs)
	}
	wantShelf(t, "ShelfPack that is not possible", got, s)
}

func TestShelfConstants(t *testing.T) {
	if impl.ShelfMax != 2400 || impl.ShelfMaxRec != 60 {
		t.Errorf("%d bytes of a log, %d bytes of a record", impl.ShelfMax, impl.ShelfMaxRec)
	}
	for _, recs := range append(sampleLogs(), longLogs()...) {
		if size := len(logOf(recs...)); size > impl.ShelfMax {
			t.Errorf("a log to be tested has %d bytes", size)
		}
	}
	for size := impl.ShelfMax - 200; size <= impl.ShelfMax+200; size++ {
		if got := len(logOf(recordsOfSize(size)...)); got != size {
			t.Errorf("a log to be tested has %d bytes, want %d", got, size)
		}
	}
}

func TestShelfReadValues(t *testing.T) {
	long := strings.Repeat("a", 60)
	for _, c := range []struct {
		log  string
		recs []string
		size int
	}{
		{"", nil, 0},
		{"1:x;", []string{"x"}, 4},
		{"5:a;1:b;", []string{"a;1:b"}, 8},
		{"5:a;1:b;11:12345678901;", []string{"a;1:b", "12345678901"}, 23},
		{"1:;;1::;1:1;", []string{";", ":", "1"}, 12},
		{"4:1:x;;", []string{"1:x;"}, 7},
		{"3:\x00\n\xff;", []string{"\x00\n\xff"}, 6},
		{"60:" + long + ";", []string{long}, 64},
		{"60:" + long + ";60:" + long + ";", []string{long, long}, 128},
		{"9:123456789;10:1234567890;", []string{"123456789", "1234567890"}, 26},
		{"1:x;1:y", []string{"x"}, 4},
		{"1:x;\n1:y;", []string{"x"}, 4},
		{"1:x;;", []string{"x"}, 4},
		{"1:x; ", []string{"x"}, 4},
		{"1:x;01:y;1:z;", []string{"x"}, 4},
		{"1:x;0:;1:z;", []string{"x"}, 4},
		{"2:\u00e4;1:x;", []string{"\u00e4", "x"}, 9},
	} {
		wantRead(t, c.log, c.recs, c.size)
	}
}

func TestStoredRecordIsReadBack(t *testing.T) {
	for _, rec := range sampleRecords() {
		log := logOf(rec)
		wantRead(t, log, []string{rec}, len(log))
		wantRead(t, log+log, []string{rec, rec}, 2*len(log))
		wantRead(t, log[:len(log)-1], nil, 0)
		wantShelf(t, "ShelfAdd of one record", added(t, impl.Shelf{}, rec), impl.Shelf{Log: log})
	}
}

func TestShelfReadStopsAtWhatIsNoCompleteRecord(t *testing.T) {
	for _, broken := range append(slices.Clone(brokenStarts), brokenEnds...) {
		wantRead(t, broken, nil, 0)
		for _, recs := range sampleLogs() {
			log := logOf(recs...)
			wantRead(t, log+broken, recs, len(log))
		}
	}
	for _, broken := range brokenStarts {
		wantRead(t, broken+"1:x;", nil, 0)
		wantRead(t, "1:x;"+broken+"1:x;", []string{"x"}, 4)
	}
}

func TestShelfReadOfEachShortLog(t *testing.T) {
	logs := []string{""}
	for from := 0; from < len(logs); from++ {
		wantReadAsByHand(t, logs[from])
		if len(logs[from]) < 8 {
			for _, b := range "012:;" {
				logs = append(logs, logs[from]+string(b))
			}
		}
	}
}

func TestShelfReadOfNearLogs(t *testing.T) {
	long := strings.Repeat("6:", 30)
	for _, start := range []string{"1:x;1:y;", "5:a;1:b;1:c;", "4:1:x;;10:1:;;;;;;;;;", "60:" + long + ";60:" + long + ";", "12:6:123456;123;1:;;"} {
		for _, near := range nearTexts(start, logBytes) {
			wantReadAsByHand(t, near)
		}
	}
	for _, near := range nearTexts("1:x;2:1:;", logBytes) {
		for _, nearer := range nearTexts(near, logBytes) {
			wantReadAsByHand(t, nearer)
		}
	}
}

func TestShelfReadOfAnyLog(t *testing.T) {
	r := rand.New(rand.NewPCG(11, 12))
	for range 50000 {
		wantReadAsByHand(t, logOf(trickyRecords[r.IntN(len(trickyRecords))])+anyText(r, "11234::;;;"))
	}
}

// ShelfRead has no limit of its own for the length of a log.
func TestShelfReadOfLongLogs(t *testing.T) {
	for size := impl.ShelfMax - 10; size <= impl.ShelfMax+100; size++ {
		recs := recordsOfSize(size)
		wantRead(t, logOf(recs...), recs, size)
	}
	wantRead(t, strings.Repeat("1:;;", 100000), slices.Repeat([]string{";"}, 100000), 400000)
	wantRead(t, strings.Repeat("1:;;", 100000)+"1:x", slices.Repeat([]string{";"}, 100000), 400000)
}

func TestShelfOkHoldsForValidLogs(t *testing.T) {
	for _, s := range append(sampleShelves(), impl.Shelf{}) {
		if !impl.ShelfOk(s) {
			t.Errorf("ShelfOk(%#v) is false", s)
		}
	}
}

// invalidShelves has logs that are too long, that do not end with a complete record, or of which no complete records are durable.
func invalidShelves() []impl.Shelf {
	shelves := []impl.Shelf{{Forced: 1}, {Forced: -1}, {Forced: math.MaxInt}, {Forced: math.MinInt}}
	for size := impl.ShelfMax + 1; size <= impl.ShelfMax+70; size++ {
		shelves = append(shelves, shelvesOf(recordsOfSize(size))...)
	}
	shelves = append(shelves, impl.Shelf{Log: strings.Repeat("1:x;", 601)}, impl.Shelf{Log: strings.Repeat("1:x;", 601), Forced: 2400}, impl.Shelf{Log: strings.Repeat("1:x;", 100000), Forced: 400000})
	for _, recs := range sampleLogs() {
		log := logOf(recs...)
		for _, forced := range append([]int{len(log) + 1, len(log) + 2, len(log) + 4, 2 * impl.ShelfMax}, outOfRange...) {
			shelves = append(shelves, impl.Shelf{Log: log, Forced: forced})
		}
		for forced := range log {
			if !slices.Contains(ends(recs), forced) {
				shelves = append(shelves, impl.Shelf{Log: log, Forced: forced})
			}
		}
	}
	for _, broken := range append(slices.Clone(brokenStarts), brokenEnds...) {
		log := "1:x;" + broken
		shelves = append(shelves,
			impl.Shelf{Log: broken}, impl.Shelf{Log: broken, Forced: len(broken)},
			impl.Shelf{Log: log}, impl.Shelf{Log: log, Forced: 4}, impl.Shelf{Log: log, Forced: len(log)})
	}
	for _, broken := range brokenStarts {
		shelves = append(shelves, impl.Shelf{Log: broken + "1:x;"}, impl.Shelf{Log: "1:x;" + broken + "1:x;", Forced: 4})
	}
	return shelves
}

func TestInvalidLogs(t *testing.T) {
	var zero impl.Shelf
	for _, s := range invalidShelves() {
		what := fmt.Sprintf("of the log %.100q with %d bytes, forced %d", s.Log, len(s.Log), s.Forced)
		if impl.ShelfOk(s) {
			t.Errorf("ShelfOk %s is true", what)
		}
		wantShelf(t, "ShelfForce "+what, impl.ShelfForce(s), zero)
		for _, keep := range []int{math.MinInt, -1, 0, 1, 4, impl.ShelfMax, math.MaxInt} {
			wantShelf(t, "ShelfFall "+what, impl.ShelfFall(s, keep), zero)
		}
		for _, rec := range []string{"x", "1:x;", "", strings.Repeat("x", 61)} {
			got, ok := impl.ShelfAdd(s, rec)
			wantShelf(t, "ShelfAdd "+what, got, zero)
			packed, okPacked := impl.ShelfPack(s, []string{rec})
			wantShelf(t, "ShelfPack "+what, packed, zero)
			if ok || okPacked {
				t.Errorf("ShelfAdd %s is %v, ShelfPack %v", what, ok, okPacked)
			}
		}
		if packed, ok := impl.ShelfPack(s, nil); ok || packed != zero {
			t.Errorf("ShelfPack of no records %s is %#v, %v", what, packed, ok)
		}
	}
}

// P19
func TestAddedRecordIsTheLastOne(t *testing.T) {
	for _, recs := range append(sampleLogs(), recordsOfSize(impl.ShelfMax-64)) {
		for _, s := range shelvesOf(recs) {
			for _, rec := range append([]string{strings.Repeat(":", 60), strings.Repeat("1:x;", 15)}, trickyRecords...) {
				longer := added(t, s, rec)
				wantShelf(t, "ShelfAdd", longer, impl.Shelf{Log: s.Log + logOf(rec), Forced: s.Forced})
				if !impl.ShelfOk(longer) {
					t.Errorf("ShelfAdd(%#v, %q) is invalid", s, rec)
				}
				wantRead(t, longer.Log, append(slices.Clone(recs), rec), len(longer.Log))
			}
		}
	}
}

// P20
func TestWhatIsNoRecordIsNotAdded(t *testing.T) {
	texts := noRecords()
	for _, s := range sampleShelves() {
		for _, no := range texts {
			wantNotAdded(t, s, no)
		}
	}
}

// P21
func TestRecordsAreInTheOrderInWhichTheyWereAdded(t *testing.T) {
	for _, first := range trickyRecords {
		for _, second := range trickyRecords {
			s := added(t, added(t, impl.Shelf{}, first), second)
			wantRead(t, s.Log, []string{first, second}, len(s.Log))
			behind := added(t, added(t, impl.Shelf{Log: "5:a;1:b;", Forced: 8}, first), second)
			wantRead(t, behind.Log, []string{"a;1:b", first, second}, len(behind.Log))
		}
	}
	var s impl.Shelf
	for _, rec := range trickyRecords {
		s = added(t, s, rec)
	}
	wantRead(t, s.Log, trickyRecords, len(s.Log))
}

// A log of exactly ShelfMax bytes is possible, and not one byte more.
func TestAddedRecordMustHaveSpace(t *testing.T) {
	for size := impl.ShelfMax - 70; size <= impl.ShelfMax; size++ {
		s := impl.Shelf{Log: logOf(recordsOfSize(size)...)}
		for length := 1; length <= impl.ShelfMaxRec; length++ {
			rec := strings.Repeat("x", length)
			if size+len(logOf(rec)) > impl.ShelfMax {
				wantNotAdded(t, s, rec)
				wantNotAdded(t, impl.ShelfForce(s), rec)
			} else if longer := added(t, s, rec); longer.Log != s.Log+logOf(rec) || !impl.ShelfOk(longer) {
				t.Errorf("ShelfAdd of %d bytes to %d is %#v", length, size, longer)
			}
		}
	}
}

func TestLogIsFilledUp(t *testing.T) {
	for length := 1; length <= impl.ShelfMaxRec; length++ {
		var s impl.Shelf
		rec := strings.Repeat(";", length)
		fit := impl.ShelfMax / len(logOf(rec))
		for range fit {
			s = added(t, s, rec)
		}
		wantNotAdded(t, s, rec)
		wantShelf(t, "a full log", s, impl.Shelf{Log: strings.Repeat(logOf(rec), fit)})
	}
}

// P22
func TestLogThatIsCutOffHasAPrefixOfItsRecords(t *testing.T) {
	for _, recs := range append(sampleLogs(), longLogs()...) {
		log := logOf(recs...)
		whole := ends(recs)
		count := 0
		for cut := 0; cut <= len(log); cut++ {
			if count < len(recs) && whole[count+1] <= cut {
				count++
			}
			wantRead(t, log[:cut], recs[:count], whole[count])
		}
	}
}

// keeps has how many bytes a crash may leave behind the durable ones: each number up to more than there are, if there are not too many.
func keeps(s impl.Shelf) []int {
	rest := len(s.Log) - s.Forced
	list := []int{math.MinInt, math.MinInt + 1, -impl.ShelfMax, -s.Forced - 1, -s.Forced, -2, -1, rest - 1, rest, rest + 1, len(s.Log), impl.ShelfMax, impl.ShelfMax + 1, math.MaxInt32, math.MaxInt - s.Forced, math.MaxInt - 1, math.MaxInt}
	for keep := range min(rest, 150) {
		list = append(list, keep)
	}
	return list
}

// fallenByHand is ShelfFall, apart from the program: it takes the last end of a record among what remains.
func fallenByHand(recs []string, forced int, keep int) impl.Shelf {
	left := 0
	for _, end := range ends(recs) {
		if end <= forced || keep > 0 && end-forced <= keep {
			left = end
		}
	}
	return impl.Shelf{Log: logOf(recs...)[:left], Forced: left}
}

// P23
func TestDurableBytesSurviveACrash(t *testing.T) {
	for _, s := range sampleShelves() {
		recs, _ := readByHand(s.Log)
		for _, keep := range keeps(s) {
			fallen := impl.ShelfFall(s, keep)
			what := fmt.Sprintf("ShelfFall of %.100q, forced %d, with %d", s.Log, s.Forced, keep)
			if !strings.HasPrefix(fallen.Log, s.Log[:s.Forced]) || !strings.HasPrefix(s.Log, fallen.Log) {
				t.Errorf("%s is %.100q", what, fallen.Log)
			}
			left, size := impl.ShelfRead(fallen.Log)
			if size != len(fallen.Log) || fallen.Forced != size || !slices.Equal(left, recs[:len(left)]) || !impl.ShelfOk(fallen) {
				t.Errorf("%s is %#v, with the records %q", what, fallen, left)
			}
			for _, again := range []int{math.MinInt, -1, 0, 1, impl.ShelfMax, math.MaxInt} {
				wantShelf(t, "a second crash behind "+what, impl.ShelfFall(fallen, again), fallen)
			}
		}
	}
}

// P23: a crash leaves all that it can.
func TestCrashLeavesAllRecordsThatAreComplete(t *testing.T) {
	for _, recs := range sampleLogs() {
		for _, s := range shelvesOf(recs) {
			for _, keep := range keeps(s) {
				wantShelf(t, fmt.Sprintf("ShelfFall of %.100q, forced %d, with %d", s.Log, s.Forced, keep), impl.ShelfFall(s, keep), fallenByHand(recs, s.Forced, keep))
			}
		}
	}
	for _, s := range sampleShelves() {
		wantShelf(t, "a crash that loses all it can", impl.ShelfFall(s, 0), impl.Shelf{Log: s.Log[:s.Forced], Forced: s.Forced})
		wantShelf(t, "a crash with a negative number", impl.ShelfFall(s, -1), impl.Shelf{Log: s.Log[:s.Forced], Forced: s.Forced})
		wantShelf(t, "a crash that loses nothing", impl.ShelfFall(s, impl.ShelfMax), impl.Shelf{Log: s.Log, Forced: len(s.Log)})
	}
}

func TestShelfFallValues(t *testing.T) {
	s := impl.Shelf{Log: "5:a;1:b;1:x;2:yz;", Forced: 8}
	for _, c := range []struct {
		keep int
		want string
	}{
		{math.MinInt, "5:a;1:b;"}, {-1, "5:a;1:b;"}, {0, "5:a;1:b;"}, {1, "5:a;1:b;"}, {3, "5:a;1:b;"},
		{4, "5:a;1:b;1:x;"}, {5, "5:a;1:b;1:x;"}, {8, "5:a;1:b;1:x;"},
		{9, s.Log}, {10, s.Log}, {math.MaxInt, s.Log},
	} {
		wantShelf(t, fmt.Sprintf("ShelfFall with %d", c.keep), impl.ShelfFall(s, c.keep), impl.Shelf{Log: c.want, Forced: len(c.want)})
	}
	// What looks like a complete record inside one that is cut off is lost with it.
	inside := impl.Shelf{Log: "8:1:x;1:y;;"}
	for keep := range len(inside.Log) {
		wantShelf(t, fmt.Sprintf("ShelfFall inside a record with %d", keep), impl.ShelfFall(inside, keep), impl.Shelf{})
	}
}

// P24
func TestShelfForceMakesAllDurable(t *testing.T) {
	for _, s := range sampleShelves() {
		forced := impl.ShelfForce(s)
		wantShelf(t, "ShelfForce", forced, impl.Shelf{Log: s.Log, Forced: len(s.Log)})
		wantShelf(t, "ShelfForce of ShelfForce", impl.ShelfForce(forced), forced)
		for _, keep := range []int{math.MinInt, -1, 0, 1, math.MaxInt} {
			wantShelf(t, "a crash behind ShelfForce", impl.ShelfFall(forced, keep), forced)
		}
	}
}

// P25
func TestDurableRecordIsThereAfterACrash(t *testing.T) {
	for _, recs := range sampleLogs() {
		for _, s := range shelvesOf(recs) {
			for _, rec := range []string{"x", ";", "a;1:b", "1:x;", "\x00", strings.Repeat("1:x;", 15)} {
				durable := impl.ShelfForce(added(t, s, rec))
				behind := added(t, durable, "9:lost")
				for _, keep := range []int{math.MinInt, -1, 0, 1, 8} {
					fallen := impl.ShelfFall(behind, keep)
					wantRead(t, fallen.Log, append(slices.Clone(recs), rec), len(durable.Log))
					wantShelf(t, "a crash behind ShelfForce", fallen, durable)
				}
			}
		}
	}
}

// P26
func TestPackedLogHasTheGivenRecords(t *testing.T) {
	for _, s := range sampleShelves() {
		for _, recs := range [][]string{nil, {}, {"x"}, {"1:x;"}, {";", ":", "\x00"}, trickyRecords, {strings.Repeat("1:x;", 15)}} {
			packed, ok := impl.ShelfPack(s, recs)
			log := logOf(recs...)
			wantShelf(t, "ShelfPack", packed, impl.Shelf{Log: log, Forced: len(log)})
			if !ok || !impl.ShelfOk(packed) {
				t.Errorf("ShelfPack of %q is %v, %#v", recs, ok, packed)
			}
			wantRead(t, packed.Log, recs, len(packed.Log))
		}
	}
	for _, recs := range append(sampleLogs(), longLogs()...) {
		log := logOf(recs...)
		packed, ok := impl.ShelfPack(impl.Shelf{Log: "1:x;1:y;", Forced: 4}, recs)
		wantShelf(t, "ShelfPack", packed, impl.Shelf{Log: log, Forced: len(log)})
		if !ok {
			t.Errorf("ShelfPack of %d bytes is false", len(log))
		}
	}
}

// P26
func TestPackedRecordsMustHaveSpace(t *testing.T) {
	for _, s := range []impl.Shelf{{}, {Log: "1:x;1:y;", Forced: 4}, {Log: strings.Repeat("1:x;", 600)}} {
		for length := 1; length <= impl.ShelfMaxRec; length++ {
			rec := strings.Repeat(":", length)
			fit := impl.ShelfMax / len(logOf(rec))
			recs := slices.Repeat([]string{rec}, fit+1)
			packed, ok := impl.ShelfPack(s, recs[:fit])
			if log := logOf(recs[:fit]...); !ok || packed != (impl.Shelf{Log: log, Forced: len(log)}) {
				t.Errorf("ShelfPack of %d records with %d bytes is %v", fit, length, ok)
			}
			wantNotPacked(t, s, recs)
		}
		for size := impl.ShelfMax + 1; size <= impl.ShelfMax+70; size++ {
			wantNotPacked(t, s, recordsOfSize(size))
		}
		wantNotPacked(t, s, slices.Repeat([]string{"x"}, 100000))
	}
}

// P20, P26
func TestWhatIsNoRecordIsNotPacked(t *testing.T) {
	shelves := []impl.Shelf{{}, {Log: "1:x;1:y;"}, {Log: "1:x;1:y;", Forced: 4}, {Log: "1:x;1:y;", Forced: 8}, {Log: strings.Repeat("1:x;", 600), Forced: 1200}}
	for _, no := range noRecords() {
		for _, s := range shelves {
			for _, recs := range [][]string{{no}, {no, no}, {"a", no}, {no, "a"}, {"a", no, "b"}, append(slices.Repeat([]string{"a"}, 599), no), append(slices.Repeat([]string{"a"}, 600), no)} {
				wantNotPacked(t, s, recs)
			}
		}
	}
}

// P27
func TestLogFollowedByAnotherHasTheRecordsOfBoth(t *testing.T) {
	for _, front := range sampleLogs() {
		log := logOf(front...)
		for _, back := range sampleLogs() {
			for _, behind := range []string{"", "x", "1:x", "01:x;"} {
				second := logOf(back...) + behind
				recs, size := impl.ShelfRead(second)
				wantRead(t, log+second, append(slices.Clone(front), recs...), len(log)+size)
			}
		}
		for _, broken := range brokenStarts {
			wantRead(t, log+broken, front, len(log))
		}
	}
}

// model is a log as the list of its records, of which the first ones are durable.
type model struct {
	recs    []string
	durable int
}

func (m model) shelf() impl.Shelf {
	return impl.Shelf{Log: logOf(m.recs...), Forced: len(logOf(m.recs[:m.durable]...))}
}

func (m *model) fall(keep int) {
	fallen := fallenByHand(m.recs, m.shelf().Forced, keep)
	m.recs, _ = readByHand(fallen.Log)
	m.durable = len(m.recs)
}

// step does something with a log and its model, and holds what it answers against the model.
func step(t *testing.T, r *rand.Rand, s impl.Shelf, m *model) impl.Shelf {
	t.Helper()
	recs := sampleRecords()
	switch r.IntN(20) {
	case 0:
		m.durable = len(m.recs)
		return impl.ShelfForce(s)
	case 1:
		keep := r.IntN(200) - 20
		m.fall(keep)
		return impl.ShelfFall(s, keep)
	case 2:
		if r.IntN(4) == 0 {
			m.recs = recs[r.IntN(20):][:r.IntN(30)]
			m.durable = len(m.recs)
			packed, ok := impl.ShelfPack(s, m.recs)
			if !ok {
				t.Errorf("ShelfPack of %q is false", m.recs)
			}
			return packed
		}
	}
	rec := recs[r.IntN(len(recs))]
	longer, ok := impl.ShelfAdd(s, rec)
	if fits := len(s.Log)+len(logOf(rec)) <= impl.ShelfMax; ok != fits {
		t.Errorf("ShelfAdd of %q to %d bytes is %v", rec, len(s.Log), ok)
	} else if fits {
		m.recs = append(slices.Clone(m.recs), rec)
	}
	return longer
}

// P19, P21, P23, P24, P25, P26: one thing after the other.
func TestLogIsAsItsModel(t *testing.T) {
	r := rand.New(rand.NewPCG(13, 14))
	for range 20 {
		var s impl.Shelf
		var m model
		for range 200 {
			s = step(t, r, s, &m)
			wantShelf(t, "the log behind a step", s, m.shelf())
			wantRead(t, s.Log, m.recs, len(s.Log))
			if !impl.ShelfOk(s) {
				t.Fatalf("%#v is invalid", s)
			}
		}
	}
}

func TestShelfAnswersNewMemory(t *testing.T) {
	log := "1:a;1:b;1:c;"
	first, _ := impl.ShelfRead(log)
	second, _ := impl.ShelfRead(log)
	for i := range first {
		first[i] = "changed"
	}
	_ = append(first[:1], "changed", "changed")
	if !slices.Equal(second, []string{"a", "b", "c"}) {
		t.Errorf("two answers share their records: %q", second)
	}
	recs := []string{"a", "b", "", "d"}
	part := recs[:2]
	packed, _ := impl.ShelfPack(impl.Shelf{}, part)
	wantNotPacked(t, packed, recs)
	if !slices.Equal(recs, []string{"a", "b", "", "d"}) {
		t.Errorf("ShelfPack changed its argument: %q", recs)
	}
	recs[0] = "changed"
	wantShelf(t, "what was packed", packed, impl.Shelf{Log: "1:a;1:b;", Forced: 8})
}
