package tests

import (
	"encoding/binary"
	"hash/crc32"
	"math"
	"math/rand"
	"slices"
	"strings"
	"testing"

	"loop.example/g00813/impl"
)

const (
	full   = 1
	first  = 2
	middle = 3
	last   = 4
)

var wrongKinds = []int{0, 5, 6, -1, -4, 127, 128, 255, 256, 256 + 1, 256 + 4, 1<<32 + 1, -255, math.MinInt64, math.MinInt64 + 1, math.MaxInt64 - 1, math.MaxInt64}

// recordLengths stand at, and one beside, each length at which a record needs
// another fragment in a bare piece, and the limits.
var recordLengths = []int{0, 1, 2, 6, 7, 8, 49, 50, 51, 56, 57, 58, 63, 64, 65, 113, 114, 115, 170, 171, 172, 227, 228, 229, 284, 285, 286, 298, 299, 300}

var lengthsBeyondRecords = []int{301, 302, 307, 320, 512, 256 + 300, 600, 65536, 65536 + 3, 100000}

// fragmentByWord is a fragment of any kind of a byte, and of any text.
func fragmentByWord(kind int, s string) string {
	summed := string([]byte{byte(kind)}) + s
	sum := crc32.Checksum([]byte(summed), crc32.MakeTable(crc32.Castagnoli))
	return fourBytes(int(sum)) + twoBytes(len(s)) + summed
}

// cutByWord is the record in as few parts as may be, of which the first one has
// so much room, each other one 57 bytes.
func cutByWord(record string, room int) []string {
	parts := []string{record[:min(room, len(record))]}
	for rest := record[len(parts[0]):]; rest != ""; {
		parts = append(parts, rest[:min(57, len(rest))])
		rest = rest[len(parts[len(parts)-1]):]
	}
	return parts
}

// neededByWord is what Append puts behind so many bytes, of a record of any length.
func neededByWord(taken int, record string) string {
	made := ""
	for (taken+len(made))%64 > 57 {
		made += "\x00"
	}
	parts := cutByWord(record, 57-(taken+len(made))%64)
	for i, part := range parts {
		kind := middle
		switch {
		case len(parts) == 1:
			kind = full
		case i == 0:
			kind = first
		case i == len(parts)-1:
			kind = last
		}
		made += fragmentByWord(kind, part)
	}
	return made
}

// logByWord is PutLog of records of any length, and where each of them ends.
func logByWord(records []string) (string, []int) {
	var b strings.Builder
	var ends []int
	for _, record := range records {
		b.WriteString(neededByWord(b.Len(), record))
		ends = append(ends, b.Len())
	}
	return b.String(), ends
}

// recoverByWord holds each fragment against what its kind and its place allow.
func recoverByWord(s string) ([]string, int) {
	var records []string
	record, open, at, end := "", false, 0, 0
	for {
		left := 64 - at%64
		if left < 7 {
			if open || len(s)-at < left || strings.Trim(s[at:at+left], "\x00") != "" {
				return records, end
			}
			at, left = at+left, 64
		}
		if len(s)-at < 7 {
			return records, end
		}
		kind, length := int(s[at+6]), int(s[at+4])+256*int(s[at+5])
		if length > left-7 || len(s)-at-7 < length {
			return records, end
		}
		part := s[at+7 : at+7+length]
		right := kind == full && !open || kind == first && !open && length == left-7 || kind == middle && open && length == left-7 || kind == last && open && length > 0
		if !right || fragmentByWord(kind, part) != s[at:at+7+length] {
			return records, end
		}
		at += 7 + length
		record, open = record+part, kind == first || kind == middle
		if len(record) > 300 {
			return records, end
		}
		if !open {
			records, record, end = append(records, record), "", at
		}
	}
}

// wholeAt is how many records end within so many bytes, and where the last of them ends.
func wholeAt(ends []int, length int) (int, int) {
	count, end := 0, 0
	for _, e := range ends {
		if e <= length {
			count, end = count+1, e
		}
	}
	return count, end
}

func drawnBytes(draw *rand.Rand, length int) string {
	b := make([]byte, length)
	for i := range b {
		b[i] = byte(draw.Intn(256) * draw.Intn(2)) // many noughts
	}
	return string(b)
}

func drawnRecords(draw *rand.Rand, count int) []string {
	var records []string
	for range count {
		length := draw.Intn(301)
		if draw.Intn(2) == 0 {
			length = recordLengths[draw.Intn(len(recordLengths))]
		} else if draw.Intn(2) == 0 {
			length = draw.Intn(12)
		}
		records = append(records, drawnBytes(draw, length))
	}
	return records
}

// edgeLists are records whose logs have pieces that are full, and pieces that
// have from 1 to 8 bytes left for the next one.
func edgeLists() [][]string {
	lists := [][]string{
		nil, {}, {""}, {"", ""}, {"a"}, {"\x00"}, {"abc", "", "de"}, slices.Repeat([]string{""}, 9), slices.Repeat([]string{""}, 10), slices.Repeat([]string{""}, 19),
		{strings.Repeat("x", 50), strings.Repeat("y", 150)}, {strings.Repeat("\x00", 57), "", strings.Repeat("\x00", 300)}, {fragmentByWord(full, "a"), fragmentByWord(last, "b")},
	}
	for _, length := range recordLengths {
		lists = append(lists, []string{risingBytes(length, length)}, []string{"ahead", strings.Repeat("\x00", length), "behind"})
	}
	for left := range 9 {
		for _, next := range []int{0, 1, 57, 58, 300} {
			lists = append(lists, []string{risingBytes(left, 57-left), risingBytes(next, next), "z"})
		}
	}
	draw := rand.New(rand.NewSource(20))
	for count := range 12 {
		lists = append(lists, drawnRecords(draw, count))
	}
	return lists
}

func checkLog(t *testing.T, records []string) (string, []int) {
	t.Helper()
	want, ends := logByWord(records)
	if got := impl.PutLog(records); got != want {
		t.Fatalf("PutLog(%.300q) = %.400x, want %.400x", records, got, want)
	}
	if got, ok := impl.GetLog(want); !ok || !slices.Equal(got, records) {
		t.Fatalf("GetLog(%.400x) = %.300q, %v, want %.300q", want, got, ok, records)
	}
	checkRecovered(t, "a whole log", want, records, len(want))
	return want, ends
}

func checkRecovered(t *testing.T, why string, s string, records []string, end int) {
	t.Helper()
	if got, e := impl.Recover(s); !slices.Equal(got, records) || e != end {
		t.Fatalf("%s: Recover(%.600x) = %.300q, %d, want %.300q, %d", why, s, got, e, records, end)
	}
}

// checkNoLog is of a text that is no log, but begins with that of some records.
func checkNoLog(t *testing.T, why string, s string, records []string, end int) {
	t.Helper()
	if got, ok := impl.GetLog(s); ok || len(got) != 0 {
		t.Fatalf("%s: GetLog(%.600x) = %.300q, %v, want nothing and false", why, s, got, ok)
	}
	checkRecovered(t, why, s, records, end)
	if got, e := recoverByWord(s); !slices.Equal(got, records) || e != end {
		t.Fatalf("%s: by the words of the document %.600x has %.300q, %d, not %.300q, %d", why, s, got, e, records, end)
	}
}

func checkAppended(t *testing.T, log, record string) {
	t.Helper()
	if got, want := impl.Append(log, record), log+neededByWord(len(log), record); got != want {
		t.Fatalf("Append(%.200x of %d bytes, %d bytes) = %.800x, want %.800x", log, len(log), len(record), got, want)
	}
}

func TestLogLimits(t *testing.T) {
	if impl.LogBlock != 64 || impl.LogHead != 7 || impl.MaxRecord != 300 {
		t.Errorf("LogBlock, LogHead, MaxRecord = %d, %d, %d", impl.LogBlock, impl.LogHead, impl.MaxRecord)
	}
	if impl.FrFull != full || impl.FrFirst != first || impl.FrMiddle != middle || impl.FrLast != last {
		t.Errorf("kinds %d, %d, %d, %d", impl.FrFull, impl.FrFirst, impl.FrMiddle, impl.FrLast)
	}
}

func TestFragment(t *testing.T) {
	if got := impl.Fragment(full, "abc"); got != "\xb2\x7d\x0d\xc3\x03\x00\x01abc" {
		t.Errorf("Fragment of abc = %x", got)
	}
	for kind := full; kind <= last; kind++ {
		for length := range 58 {
			for _, s := range []string{risingBytes(kind, length), strings.Repeat("\x00", length), strings.Repeat("\xff", length)} {
				got := impl.Fragment(kind, s)
				if want := fragmentByWord(kind, s); got != want || len(got) != 7+length {
					t.Errorf("Fragment(%d, %x) = %x, want %x", kind, s, got, want)
				}
			}
		}
	}
}

func TestFragmentsOfTextsTooLong(t *testing.T) {
	for kind := full; kind <= last; kind++ {
		for _, length := range []int{58, 59, 63, 64, 65, 256, 256 + 57, 300, 65536, 65536 + 57, 100000} {
			if got := impl.Fragment(kind, strings.Repeat("a", length)); got != "" {
				t.Errorf("Fragment(%d, %d bytes) = %.60x, want nothing", kind, length, got)
			}
		}
	}
}

func TestFragmentsOfNoKind(t *testing.T) {
	for _, kind := range wrongKinds {
		for _, length := range []int{0, 1, 57, 58} {
			if got := impl.Fragment(kind, strings.Repeat("a", length)); got != "" {
				t.Errorf("Fragment(%d, %d bytes) = %x, want nothing", kind, length, got)
			}
		}
	}
}

func TestLogsToTheByte(t *testing.T) {
	x, y := strings.Repeat("x", 50), strings.Repeat("y", 150)
	empty := impl.Fragment(full, "")
	for _, c := range []struct {
		why     string
		records []string
		want    string
	}{
		{"one", []string{"abc"}, "\xb2\x7d\x0d\xc3\x03\x00\x01abc"},
		{"two", []string{"abc", "abc"}, "\xb2\x7d\x0d\xc3\x03\x00\x01abc\xb2\x7d\x0d\xc3\x03\x00\x01abc"},
		{"an empty one", []string{""}, empty},
		{"nine empty ones: a byte is left", slices.Repeat([]string{""}, 9), strings.Repeat(empty, 9)},
		{"ten empty ones", slices.Repeat([]string{""}, 10), strings.Repeat(empty, 9) + "\x00" + empty},
		{"a piece that is just full", []string{y[:57], ""}, impl.Fragment(full, y[:57]) + empty},
		{"one more than a piece has room for", []string{y[:58]}, impl.Fragment(first, y[:57]) + impl.Fragment(last, "y")},
		{"just two pieces", []string{y[:114]}, impl.Fragment(first, y[:57]) + impl.Fragment(last, y[:57])},
		{"one more than two pieces", []string{y[:115]}, impl.Fragment(first, y[:57]) + impl.Fragment(middle, y[:57]) + impl.Fragment(last, "y")},
		{"seven left: a fragment of nothing", []string{x, y}, impl.Fragment(full, x) + impl.Fragment(first, "") + impl.Fragment(middle, y[:57]) + impl.Fragment(middle, y[:57]) + impl.Fragment(last, y[:36])},
		{"seven left for nothing", []string{x, "", y[:1]}, impl.Fragment(full, x) + empty + impl.Fragment(full, "y")},
		{"eight left for one byte", []string{x[:49], "y", ""}, impl.Fragment(full, x[:49]) + impl.Fragment(full, "y") + empty},
		{"eight left for two bytes", []string{x[:49], "yz"}, impl.Fragment(full, x[:49]) + impl.Fragment(first, "y") + impl.Fragment(last, "z")},
		{"six left", []string{x + "x", "y"}, impl.Fragment(full, x+"x") + "\x00\x00\x00\x00\x00\x00" + impl.Fragment(full, "y")},
		{"one left", []string{x + "xxxxxx", ""}, impl.Fragment(full, x+"xxxxxx") + "\x00" + empty},
	} {
		if got := impl.PutLog(c.records); got != c.want {
			t.Errorf("%s: PutLog = %x, want %x", c.why, got, c.want)
		}
		checkLog(t, c.records)
	}
}

func TestAppendToEachPlaceOfAPiece(t *testing.T) {
	for taken := range 130 {
		log := risingBytes(taken, taken) // none of PutLog's
		room := 57 - taken%64
		if room < 0 {
			room = 57
		}
		lengths := append([]int{max(room-1, 0), room, room + 1, room + 56, room + 57, room + 58, room + 114, room + 115}, recordLengths...)
		for _, length := range lengths {
			checkAppended(t, log, risingBytes(length, length))
			checkAppended(t, log, strings.Repeat("\x00", length))
		}
	}
}

func TestAppendWhereBytesAreLeft(t *testing.T) {
	for _, c := range []struct{ left, gap int }{{1, 1}, {2, 2}, {5, 5}, {6, 6}, {7, 0}, {8, 0}, {56, 0}, {63, 0}, {64, 0}, {0, 0}} {
		for _, pieces := range []int{1, 2, 5} {
			log := strings.Repeat("\xff", 64*pieces-c.left)
			if got, want := impl.Append(log, ""), log+strings.Repeat("\x00", c.gap)+impl.Fragment(full, ""); got != want {
				t.Errorf("Append of nothing where %d bytes are left = %x, want %x", c.left, got, want)
			}
		}
	}
}

func TestAppendToTheEmptyLog(t *testing.T) {
	for length := range 301 {
		record := risingBytes(length, length)
		checkAppended(t, "", record)
		if impl.Append("", record) != impl.PutLog([]string{record}) {
			t.Errorf("Append of %d bytes to nothing isn't their PutLog", length)
		}
	}
}

func TestAppendOfRecordsTooLong(t *testing.T) {
	logs := []string{"", "a", strings.Repeat("\xff", 58), strings.Repeat("\xff", 63), strings.Repeat("\xff", 64)}
	for _, records := range edgeLists()[:12] {
		logs = append(logs, impl.PutLog(records))
	}
	for _, log := range logs {
		for _, length := range lengthsBeyondRecords {
			if got := impl.Append(log, strings.Repeat("a", length)); got != log {
				t.Errorf("Append(%.100x, %d bytes) = %.200x, want it as it was", log, length, got)
			}
		}
	}
}

func TestAppendToWhatIsNoLog(t *testing.T) {
	whole := impl.PutLog([]string{"abc", strings.Repeat("x", 100), "z"})
	for _, log := range []string{"\x00", "abc", strings.Repeat("\x00", 60), strings.Repeat("\xff", 200), whole[:1], whole[:9], whole[:63], whole[:len(whole)-1], whole[1:], whole + "\x00", impl.Fragment(first, "a"), impl.Fragment(last, "")} {
		for _, length := range recordLengths {
			checkAppended(t, log, risingBytes(length, length))
		}
	}
}

func TestPutLogIsAppendOneByOne(t *testing.T) {
	for _, records := range edgeLists() {
		log := ""
		for i, record := range records {
			if got := impl.PutLog(records[:i]); got != log {
				t.Fatalf("PutLog of the first %d of %.200q = %x, want %x", i, records, got, log)
			}
			checkAppended(t, log, record)
			log = impl.Append(log, record)
		}
		if got, _ := checkLog(t, records); got != log {
			t.Fatalf("PutLog(%.200q) = %x, want %x", records, got, log)
		}
	}
}

func TestLogsOfEachPairOfLengths(t *testing.T) {
	for length := range 301 {
		for _, next := range []int{0, 1, 57, 58, 300} {
			checkLog(t, []string{risingBytes(length, length), risingBytes(next, next), ""})
		}
	}
}

func TestLogsOfNothing(t *testing.T) {
	if impl.PutLog(nil) != "" || impl.PutLog([]string{}) != "" {
		t.Error("PutLog of nothing tells bytes")
	}
	if records, ok := impl.GetLog(""); !ok || len(records) != 0 {
		t.Errorf("GetLog of nothing = %q, %v", records, ok)
	}
	checkRecovered(t, "nothing", "", nil, 0)
}

func TestLogsWithARecordTooLong(t *testing.T) {
	for _, length := range lengthsBeyondRecords {
		long := strings.Repeat("a", length)
		for _, records := range [][]string{{long}, {"", long}, {long, ""}, {"abc", long, "de"}, {long, long}, {strings.Repeat("b", 300), strings.Repeat("b", 300), long}} {
			if got := impl.PutLog(records); got != "" {
				t.Errorf("PutLog with a record of %d bytes = %.100x, want nothing", length, got)
			}
			// Put together all the same, they are those ahead of the long one.
			s, ends := logByWord(records)
			at := slices.Index(records, long)
			_, end := wholeAt(ends[:at], len(s))
			if length < 65536 {
				checkNoLog(t, "a record too long", s, records[:at], end)
			}
		}
	}
	checkLog(t, []string{strings.Repeat("a", 300), "", strings.Repeat("a", 300)})
}

func TestLogsOfEachListDiffer(t *testing.T) {
	seen := map[string][]string{}
	for _, list := range append(edgeLists(), []string{"ab"}, []string{"a", "b"}, []string{"", "ab"}, []string{"ab", ""}, []string{"a\x00", "b"}, []string{"a", "\x00b"}) {
		s := impl.PutLog(list)
		if other, is := seen[s]; is && !slices.Equal(other, list) {
			t.Errorf("one log of %.100q and of %.100q", list, other)
		}
		seen[s] = list
	}
}

func TestLogsThatAreTornAtEachByte(t *testing.T) {
	for _, records := range edgeLists() {
		s, ends := checkLog(t, records)
		for length := range s {
			count, end := wholeAt(ends, length)
			if end == length {
				checkLog(t, records[:count])
				continue
			}
			checkNoLog(t, "torn", s[:length], records[:count], end)
		}
	}
}

func TestTornLogsGoOn(t *testing.T) {
	// What comes back of a torn log is a log: what is put behind it stays.
	for _, records := range edgeLists() {
		s, ends := checkLog(t, records)
		for length := 0; length < len(s); length += 5 {
			got, end := impl.Recover(s[:length])
			count, _ := wholeAt(ends, length)
			again := impl.Append(s[:end], "more")
			if back, ok := impl.GetLog(again); !ok || len(got) != count || !slices.Equal(back, append(slices.Clone(got), "more")) {
				t.Fatalf("torn at %d and gone on with: GetLog(%x) = %.200q, %v", length, again, back, ok)
			}
		}
	}
}

func TestLogsOfWhichAByteWasChanged(t *testing.T) {
	for _, records := range edgeLists() {
		s, ends := checkLog(t, records)
		turns := []int{1, 128, 255}
		if len(s) < 20 {
			turns = turns[:0]
			for turn := 1; turn < 256; turn++ {
				turns = append(turns, turn)
			}
		}
		for at := range s {
			count, end := wholeAt(ends, at)
			for _, turn := range turns {
				bent := []byte(s)
				bent[at] ^= byte(turn)
				checkNoLog(t, "a byte changed", string(bent), records[:count], end)
			}
		}
	}
}

func TestLogsOfWhichAByteIsMissingOrTwice(t *testing.T) {
	for _, records := range [][]string{{"abc"}, {"abc", "", "de"}, {risingBytes(1, 150), risingBytes(7, 60)}, slices.Repeat([]string{""}, 12), {risingBytes(1, 52), risingBytes(1, 100)}} {
		s, ends := checkLog(t, records)
		for at := range s {
			for _, c := range []struct{ why, s string }{{"a byte missing", s[:at] + s[at+1:]}, {"a byte twice", s[:at+1] + s[at:]}} {
				// The byte may be alike with what is behind it: then a later one is.
				count, end := wholeAt(ends, impl.Shared(s, c.s))
				checkNoLog(t, c.why, c.s, records[:count], end)
			}
		}
	}
}

func TestLogsThatAreLengthened(t *testing.T) {
	for _, records := range edgeLists() {
		s, _ := checkLog(t, records)
		next := neededByWord(len(s), "next")
		for _, more := range []string{
			"\x00", "\x00\x00", strings.Repeat("\x00", 6), strings.Repeat("\x00", 7), strings.Repeat("\x00", 64), strings.Repeat("\x00", 200), "a", "more", "\xff", strings.Repeat("\xff", 64),
			next[:1], next[:len(next)-1], "\x00" + next, strings.Repeat("\x00", 64) + next, neededByWord(len(s), strings.Repeat("a", 301)), neededByWord(len(s)+1, "next"), "x" + s,
		} {
			records, end := records, len(s)
			if got, e := recoverByWord(s + more); e > end { // a right record by chance: only a gap too many, where one is needed
				records, end = got, e
			}
			if end == len(s+more) {
				checkLog(t, records)
				continue
			}
			checkNoLog(t, "lengthened", s+more, records, end)
		}
		checkLog(t, append(slices.Clone(records), "next"))
	}
}

func TestLogsBehindOneAnother(t *testing.T) {
	// A log of whole pieces may have another one behind it: both are one log.
	for _, records := range edgeLists() {
		ahead := []string{risingBytes(9, 57), risingBytes(1, 114)}
		s, _ := checkLog(t, append(slices.Clone(ahead), records...))
		if want := impl.PutLog(ahead) + impl.PutLog(records); s != want {
			t.Fatalf("logs behind one another are %x, want %x", s, want)
		}
	}
}

// fragmentsOf puts right fragments, and texts between them, one behind the other.
func fragmentsOf(parts ...any) string {
	s := ""
	for i := 0; i < len(parts); i++ {
		if kind, ok := parts[i].(int); ok {
			s += fragmentByWord(kind, parts[i+1].(string))
			i++
			continue
		}
		s += parts[i].(string)
	}
	return s
}

func TestRightFragmentsThatAreNoLog(t *testing.T) {
	x, none := risingBytes(1, 57), "" // x fills a piece
	gap := func(count int) string { return strings.Repeat("\x00", count) }
	for _, c := range []struct {
		why   string
		s     string
		count int // how many records are whole
	}{
		{"a first one alone", fragmentsOf(first, x), 0},
		{"a first one that fills no piece", fragmentsOf(first, "a"), 0},
		{"a middle without a first", fragmentsOf(middle, x), 0},
		{"a middle without a first", fragmentsOf(middle, x, last, "a"), 0},
		{"a middle without a first, behind a record", fragmentsOf(full, x, middle, x, last, "a"), 1},
		{"a middle of nothing without a first", fragmentsOf(middle, none), 0},
		{"a last without a first", fragmentsOf(last, "a"), 0},
		{"a last without a first", fragmentsOf(last, x, full, "a"), 0},
		{"a last without a first, behind a record", fragmentsOf(full, x, last, "a"), 1},
		{"a last of nothing without a first", fragmentsOf(last, none), 0},
		{"a first without a last, a record behind it", fragmentsOf(first, x, full, "a"), 0},
		{"a first without a last, a first behind it", fragmentsOf(first, x, first, x, last, "a"), 0},
		{"a first and a middle without a last", fragmentsOf(first, x, middle, x), 0},
		{"a first and a middle without a last, a record behind it", fragmentsOf(first, x, middle, x, full, "a"), 0},
		{"a first and a middle without a last, a first behind it", fragmentsOf(first, x, middle, x, first, x, last, "a"), 0},
		{"a full one within a record", fragmentsOf(first, x, full, x, last, "a"), 0},
		{"two lasts", fragmentsOf(first, x, last, "a", last, "b"), 1},
		{"a middle behind a last", fragmentsOf(first, x, last, x, middle, x, last, "b"), 1},
		{"more fragments than are needed", fragmentsOf(first, "a", last, "b"), 0},
		{"more fragments than are needed", fragmentsOf(first, none, last, "b"), 0},
		{"more fragments than are needed", fragmentsOf(first, none, last, none), 0},
		{"more fragments than are needed", fragmentsOf(first, "a", middle, "b", last, "c"), 0},
		{"a last of nothing", fragmentsOf(first, x, last, none), 0},
		{"a last of nothing behind a middle", fragmentsOf(first, x, middle, x, last, none), 0},
		{"a last of nothing where seven bytes are left", fragmentsOf(full, x[:50], first, none, last, none), 1},
		{"a middle of nothing", fragmentsOf(first, x, middle, none, last, "a"), 0},
		{"a middle that fills no piece", fragmentsOf(first, x, middle, "a", last, "b"), 0},
		{"a first one that leaves eight bytes", fragmentsOf(first, x[:49], last, "a"), 0},
		{"a first one that leaves seven bytes", fragmentsOf(first, x[:50], last, none), 0},
		{"a first one that leaves a gap", fragmentsOf(first, x[:51], gap(6), last, "a"), 0},
		{"a first one that leaves one byte", fragmentsOf(first, x[:56], gap(1), last, "a"), 0},
		{"a middle that leaves a gap", fragmentsOf(first, x, middle, x[:54], gap(3), last, "a"), 0},
		{"a gap within a record", fragmentsOf(first, x, gap(64), last, "a"), 0},
		{"a gap that isn't bare", fragmentsOf(full, x[:51], "\x00\x00\x00\x00\x00\x01", full, "a"), 1},
		{"a gap that isn't bare", fragmentsOf(full, x[:51], "\x01\x00\x00\x00\x00\x00", full, "a"), 1},
		{"a gap that isn't bare", fragmentsOf(full, x[:54], "\x00\x80\x00", full, "a"), 1},
		{"a gap of one byte that isn't bare", fragmentsOf(full, x[:56], "\xff", full, "a"), 1},
		{"a gap of blanks", fragmentsOf(full, x[:52], "     ", full, "a"), 1},
		{"a gap alone", fragmentsOf(full, x[:51], gap(6)), 1},
		{"a gap alone, ahead of a bare piece", fragmentsOf(full, x[:51], gap(6), gap(64)), 1},
		{"a gap that is left out", fragmentsOf(full, x[:51], full, "a"), 1},
		{"a gap of one byte that is left out", fragmentsOf(full, x[:56], full, none), 1},
		{"a gap too short", fragmentsOf(full, x[:51], gap(5), full, "a"), 1},
		{"a gap too long", fragmentsOf(full, x[:51], gap(7), full, "a"), 1},
		{"a piece left early, with seven bytes", fragmentsOf(full, x[:50], gap(7), full, "a"), 1},
		{"a piece left early, with seven bytes", fragmentsOf(full, x[:50], gap(7), full, x), 1},
		{"a piece left early, with eight bytes", fragmentsOf(full, x[:49], gap(8), full, "abc"), 1},
		{"a piece left early, with many bytes", fragmentsOf(full, "a", gap(56), full, "b"), 1},
		{"a piece that is passed over", fragmentsOf(full, x, gap(64), full, "b"), 1},
		{"a bare piece ahead of all", fragmentsOf(gap(64), full, "b"), 0},
		{"a record that could begin in the piece ahead", fragmentsOf(full, "a", gap(56), first, x, last, "b"), 1},
		{"a fragment beyond its piece", fragmentsOf(full, "a", full, x), 1},
		{"a fragment beyond its piece by one", fragmentsOf(full, "a", full, x[:50]), 1},
		{"a head beyond its piece", fragmentsOf(full, x[:53], full, none), 1},
		{"a fragment of 58 bytes", fragmentsOf(full, x+"a"), 0},
		{"a fragment of 57 bytes and more", fragmentsOf(first, x+"ab", last, "c"), 0},
		{"a fragment of 300 bytes", fragmentsOf(full, strings.Repeat("a", 300)), 0},
		{"a record of 301 bytes", fragmentsOf(first, x, middle, x, middle, x, middle, x, middle, x, last, x[:16]), 0},
		{"a record of six pieces", fragmentsOf(first, x, middle, x, middle, x, middle, x, middle, x, last, x), 0},
		{"a record that never ends", fragmentsOf(first, x) + strings.Repeat(fragmentsOf(middle, x), 50), 0},
		{"middles of nothing without end", fragmentsOf(first, x) + strings.Repeat(fragmentsOf(middle, none), 50) + fragmentsOf(last, "a"), 0},
		{"kind 0", fragmentsOf(0, "a"), 0}, {"kind 5", fragmentsOf(5, "a"), 0}, {"kind 255", fragmentsOf(255, none), 0}, {"kind 129", fragmentsOf(129, "a"), 0},
		{"kind 0 within a record", fragmentsOf(first, x, 0, x, last, "a"), 0}, {"kind 5 for the last one", fragmentsOf(first, x, 5, "a"), 0},
		{"kind 5 behind a record", fragmentsOf(full, "a", 5, "a", full, "b"), 1},
		{"bare bytes", gap(7), 0}, {"bare bytes", gap(300), 0}, {"a head alone", fragmentsOf(full, "a")[:7], 0}, {"the sum alone", fragmentsOf(full, none)[:4], 0},
	} {
		records, end := recoverByWord(c.s)
		if len(records) != c.count {
			t.Fatalf("%s: by the words of the document %d records are whole, not %d", c.why, len(records), c.count)
		}
		checkNoLog(t, c.why, c.s, records, end)
		// Behind a whole piece nothing else is so.
		ahead := []string{"\x00", strings.Repeat("y", 49)}
		log, _ := checkLog(t, ahead)
		checkNoLog(t, c.why+", behind a log", log+c.s, append(ahead, records...), len(log)+end)
	}
}

func TestFragmentsOfWrongForm(t *testing.T) {
	right := impl.Fragment(full, "abc")
	sum := crc32.Checksum([]byte("\x01abc"), crc32.MakeTable(crc32.Castagnoli))
	other := func(of string) string {
		return fourBytes(int(crc32.Checksum([]byte(of), crc32.MakeTable(crc32.Castagnoli))))
	}
	for _, c := range []struct{ why, s string }{
		{"its highest byte first", string(binary.BigEndian.AppendUint32(nil, sum)) + right[4:]},
		{"another sum", fourBytes(int(crc32.ChecksumIEEE([]byte("\x01abc")))) + right[4:]},
		{"the sum of the text alone", other("abc") + right[4:]}, {"of text and kind", other("abc\x01") + right[4:]}, {"of all of it", other("\x03\x00\x01abc") + right[4:]},
		{"of another kind", other("\x02abc") + right[4:]}, {"no sum", strings.Repeat("\x00", 4) + right[4:]},
		{"the length's highest byte first", right[:4] + "\x00\x03" + right[6:]}, {"a length too great", right[:4] + "\x04\x00" + right[6:]}, {"a length too small", right[:4] + "\x02\x00" + right[6:]},
		{"a length far too great", right[:4] + "\xff\xff" + right[6:]}, {"a length that is greater by 256", right[:4] + "\x03\x01" + right[6:]}, {"no length", right[:4] + "\x00\x00" + right[6:]},
		{"the kind ahead", "\x01" + right[:6] + "abc"}, {"the kind behind", right[:6] + "abc\x01"}, {"the text ahead", "abc" + right[:7]},
	} {
		for _, behind := range []string{"", "abc", right, strings.Repeat("\x00", 400)} {
			checkNoLog(t, c.why, c.s+behind, nil, 0)
			checkNoLog(t, c.why, right+c.s+behind, []string{"abc"}, len(right))
		}
	}
}

func TestRecoverOfDrawnTexts(t *testing.T) {
	draw := rand.New(rand.NewSource(21))
	none := 0
	for range 3000 {
		s := []byte(impl.PutLog(drawnRecords(draw, draw.Intn(6))))
		for range draw.Intn(3) {
			if len(s) == 0 {
				break
			}
			from, end := draw.Intn(len(s)), draw.Intn(len(s)+1)
			switch draw.Intn(4) {
			case 0:
				s[from] = byte(draw.Intn(256))
			case 1:
				s = s[:from]
			case 2:
				s = append(s[:from:from], s[end:]...)
			case 3:
				s = append(s, impl.PutLog(drawnRecords(draw, 2))...)
			}
		}
		records, end := recoverByWord(string(s))
		if end == len(s) {
			checkLog(t, records)
			continue
		}
		none++
		checkNoLog(t, "drawn", string(s), records, end)
	}
	if none < 500 {
		t.Errorf("only %d drawn texts are no logs", none)
	}
}

func TestRecoverOfTextsThatAreNoLog(t *testing.T) {
	for _, s := range append(append(drawnTexts(200), texts...), allTexts("\x00\x01\xff", 7)...) {
		if s != "" {
			checkNoLog(t, "no log at all", s, nil, 0)
		}
	}
	checkNoLog(t, "a table", impl.PutTable(mixedCells(), impl.Config{Every: 2, Size: 2}), nil, 0)
}

func TestLogsAnswerAtLongArguments(t *testing.T) {
	const count = 90000 // nine of them in each piece
	log := impl.PutLog(make([]string, count))
	if len(log) != count/9*64-1 {
		t.Fatalf("a log of %d empty records has %d bytes", count, len(log))
	}
	if records, ok := impl.GetLog(log); !ok || !slices.Equal(records, make([]string, count)) {
		t.Errorf("GetLog of a long log tells %d records, %v", len(records), ok)
	}
	if records, end := impl.Recover(log + "a"); len(records) != count || end != len(log) {
		t.Errorf("Recover of a long log tells %d records, %d", len(records), end)
	}
	checkAppended(t, log, risingBytes(0, 300))
	x := risingBytes(1, 57)
	for _, s := range []string{
		strings.Repeat("\x00", count), strings.Repeat("\xff", count), strings.Repeat("a", count), fragmentByWord(first, x) + strings.Repeat(fragmentByWord(middle, ""), count), strings.Repeat(fragmentByWord(middle, x), count/50),
		strings.Repeat("\x00\x00\x00\x00\xff\xff\x03", count), strings.Repeat("\x00\x00\x00\x00\x00\x00\x02", count),
	} {
		checkNoLog(t, "long", s, nil, 0)
	}
	if impl.Append(log, log) != log || impl.PutLog([]string{log}) != "" || impl.Fragment(full, log) != "" {
		t.Error("a long record is taken")
	}
}

func TestLogsWriteIntoNoArgument(t *testing.T) {
	room := append(drawnRecords(rand.New(rand.NewSource(22)), 12), "spare", strings.Repeat("a", 301), "spare")
	want := slices.Clone(room)
	for from := range room {
		for end := from; end <= len(room); end++ {
			impl.PutLog(room[from:end])
			if !slices.Equal(room, want) {
				t.Fatalf("PutLog wrote into its argument: %.300q", room)
			}
		}
	}
	b := []byte(impl.PutLog(want[:12]))
	s, before := string(b[:len(b)-20]), string(b)
	impl.Append(s, "abc")
	impl.GetLog(s)
	impl.Recover(s)
	if string(b) != before || s != before[:len(s)] {
		t.Error("a log was written into")
	}
}

func TestLogAnswersAreNewMemory(t *testing.T) {
	records := []string{"abc", "", risingBytes(0, 100)}
	log := impl.PutLog(records)
	for _, tell := range []func() []string{
		func() []string { all, _ := impl.GetLog(log); return all },
		func() []string { all, _ := impl.Recover(log + "more"); return all },
	} {
		one, other := tell(), tell()
		for i := range one {
			one[i] = "changed"
		}
		_ = append(one[:1], "more")
		if again := tell(); !slices.Equal(other, records) || !slices.Equal(again, records) {
			t.Errorf("what was changed in an answer is in another: %q, %q", other, again)
		}
	}
}

func FuzzLogs(f *testing.F) {
	for i, records := range edgeLists() {
		f.Add(impl.PutLog(records), "abc", i, i%6)
	}
	f.Add(fragmentByWord(first, "a")+fragmentByWord(last, "b"), strings.Repeat("a", 301), 0, 5)
	f.Fuzz(func(t *testing.T, s, record string, at, kind int) {
		records, end := recoverByWord(s)
		if end == len(s) {
			checkLog(t, records)
		} else {
			checkNoLog(t, "none", s, records, end)
		}
		want := ""
		if kind >= full && kind <= last && len(record) <= 57 {
			want = fragmentByWord(kind, record)
		}
		if got := impl.Fragment(kind, record); got != want {
			t.Errorf("Fragment(%d, %x) = %x, want %x", kind, record, got, want)
		}
		if len(record) > 300 {
			if impl.Append(s, record) != s || impl.PutLog([]string{"a", record}) != "" {
				t.Errorf("a record of %d bytes is taken", len(record))
			}
			return
		}
		checkAppended(t, s, record)
		whole, ends := checkLog(t, append(records, record, record))
		if at >= 0 && at < len(whole) {
			count, _ := wholeAt(ends, at)
			if got, e := impl.Recover(whole[:at]); len(got) != count || e > at {
				t.Errorf("torn at %d of %x: %d records, %d", at, whole, len(got), e)
			}
		}
	})
}
