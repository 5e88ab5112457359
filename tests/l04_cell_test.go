package tests

import (
	"encoding/binary"
	"fmt"
	"math"
	"math/rand"
	"slices"
	"strings"
	"testing"

	"loop.example/g00813/impl"
)

var longestName = strings.Repeat("n", 16)

// rightNames rise: names that begin others, with the least and the greatest
// sign behind, and names of the greatest length.
var rightNames = []string{"!", "!!", "!a", "0", "A", "a", "a!", "aa", "ab", "a~", "b", longestName[:15], longestName, "~", "~~", strings.Repeat("~", 16)}

// wrongNames are no names: without a byte, too long, or with a byte that no name has.
var wrongNames = []string{
	"", longestName + "n", strings.Repeat("n", 255), strings.Repeat("n", 256), strings.Repeat("n", 100000),
	" ", "\x7f", "\x00", "\n", "\t", "\x1f", "\x80", "\xff", "é", "a b", " a", "a ", "a\x00", "\x00a", "a\x00b", "a\x7f", "\x7fa", "a\x80b",
	longestName[:15] + " ", " " + longestName[:15], longestName[:15] + "\x7f", longestName + "\x00",
}

// rightTimes fall, as the cells of one column do.
var rightTimes = []int{1000000000, 999999999, 1000000000 - 255, 1000000000 - 256, 1000000000 - 65536, 1 << 24, 65536, 256, 255, 2, 1, 0}

var wrongTimes = []int{-1, -2, -1000000000, 1000000001, 1000000002, 1<<32 - 1, 1 << 32, 1<<32 + 1, 1000000000 + 1<<32, math.MinInt64, math.MinInt64 + 1, math.MaxInt64 - 1, math.MaxInt64}

func valueOf(row, col string, at int, value string) impl.Cell {
	return impl.Cell{Row: row, Col: col, At: at, Value: value}
}

func goneAt(row, col string, at int) impl.Cell {
	return impl.Cell{Row: row, Col: col, At: at, Gone: true}
}

func keyByWord(row, col string, at int) string {
	return row + "\x00" + col + "\x00" + string(binary.BigEndian.AppendUint32(nil, uint32(1000000000-at)))
}

// risingCells are all of so many names and times, in order by how they are made.
func risingCells(rows, cols []string, times []int) []impl.Cell {
	var cells []impl.Cell
	for _, row := range rows {
		for _, col := range cols {
			for _, at := range times {
				if len(cells)%3 == 2 {
					cells = append(cells, goneAt(row, col, at))
				} else {
					cells = append(cells, valueOf(row, col, at, fmt.Sprint(len(cells))))
				}
			}
		}
	}
	return cells
}

func checkNoKey(t *testing.T, why string, s string) {
	t.Helper()
	if row, col, at := impl.ReadKey(s); row != "" || col != "" || at != -1 {
		t.Errorf("%s: ReadKey(%.60q) = %q, %q, %d, want nothing and -1", why, s, row, col, at)
	}
}

func checkNewest(t *testing.T, list []impl.Cell, row, col string, at int, want impl.Cell, is bool) {
	t.Helper()
	if got, ok := impl.Newest(list, row, col, at); got != want || ok != is {
		t.Errorf("Newest(%.200q, %.20q, %.20q, %d) = %+v, %v, want %+v, %v", fmt.Sprint(list), row, col, at, got, ok, want, is)
	}
}

func TestCellLimits(t *testing.T) {
	if impl.MaxName != 16 || impl.MaxCell != 30 || impl.MaxAt != 1000000000 {
		t.Errorf("MaxName, MaxCell, MaxAt = %d, %d, %d", impl.MaxName, impl.MaxCell, impl.MaxAt)
	}
}

func TestCellOkOfNames(t *testing.T) {
	for _, name := range rightNames {
		if !impl.CellOk(valueOf(name, "c", 5, "v")) || !impl.CellOk(valueOf("r", name, 5, "v")) || !impl.CellOk(goneAt(name, name, 5)) {
			t.Errorf("a cell with the name %q isn't right", name)
		}
	}
	for _, name := range wrongNames {
		if impl.CellOk(valueOf(name, "c", 5, "v")) || impl.CellOk(valueOf("r", name, 5, "v")) || impl.CellOk(goneAt(name, name, 5)) {
			t.Errorf("a cell with %.20q for a name is right", name)
		}
	}
}

func TestEachByteOfAName(t *testing.T) {
	for b := range 256 {
		sign := string([]byte{byte(b)})
		want := b >= 33 && b <= 126
		for _, name := range []string{sign, sign + "n", "n" + sign, "n" + sign + "n", longestName[:15] + sign, sign + longestName[:15]} {
			if impl.CellOk(valueOf(name, "c", 5, "v")) != want || impl.CellOk(valueOf("r", name, 5, "v")) != want {
				t.Errorf("CellOk with the name %q isn't %v", name, want)
			}
			if (impl.KeyOf(name, "c", 5) != "") != want || (impl.KeyOf("r", name, 5) != "") != want {
				t.Errorf("whether %q has a key isn't %v", name, want)
			}
		}
	}
}

func TestCellOkOfTimes(t *testing.T) {
	for _, at := range rightTimes {
		if !impl.CellOk(valueOf("r", "c", at, "v")) || !impl.CellOk(goneAt("r", "c", at)) {
			t.Errorf("a cell at %d isn't right", at)
		}
	}
	for _, at := range wrongTimes {
		if impl.CellOk(valueOf("r", "c", at, "v")) || impl.CellOk(goneAt("r", "c", at)) {
			t.Errorf("a cell at %d is right", at)
		}
	}
}

func TestCellOkOfValues(t *testing.T) {
	for _, c := range []struct {
		value      string
		kept, gone bool
	}{
		{"", true, true}, {"v", true, false}, {"\x00", true, false}, {"a b\n\xff\x7f", true, false}, {risingBytes(0, 30), true, false},
		{risingBytes(226, 30), true, false}, {strings.Repeat("v", 29), true, false}, {strings.Repeat("v", 30), true, false},
		{strings.Repeat("v", 31), false, false}, {strings.Repeat("\x00", 31), false, false}, {strings.Repeat("é", 15), true, false},
		{strings.Repeat("é", 16), false, false}, {strings.Repeat("v", 286), false, false}, {strings.Repeat("v", 100000), false, false},
	} {
		x := valueOf("r", "c", 5, c.value)
		if impl.CellOk(x) != c.kept {
			t.Errorf("CellOk with the value %.40q isn't %v", c.value, c.kept)
		}
		x.Gone = true
		if impl.CellOk(x) != c.gone {
			t.Errorf("CellOk of a Gone one with the value %.40q isn't %v", c.value, c.gone)
		}
	}
	if impl.CellOk(impl.Cell{}) || impl.CellOk(impl.Cell{Row: "r"}) || impl.CellOk(impl.Cell{Col: "c"}) || !impl.CellOk(impl.Cell{Row: "r", Col: "c"}) {
		t.Error("a cell isn't right as its names tell")
	}
}

func TestKeyToTheByte(t *testing.T) {
	for _, c := range []struct {
		row, col string
		at       int
		want     string
	}{
		{"r", "c", 5, "r\x00c\x00\x3b\x9a\xc9\xfb"}, {"r", "c", 0, "r\x00c\x00\x3b\x9a\xca\x00"}, {"r", "c", 1, "r\x00c\x00\x3b\x9a\xc9\xff"},
		{"r", "c", 1000000000, "r\x00c\x00\x00\x00\x00\x00"}, {"r", "c", 999999999, "r\x00c\x00\x00\x00\x00\x01"},
		{"row", "col", 1000000000 - 0x01020304, "row\x00col\x00\x01\x02\x03\x04"}, {"!", "~", 1000000000 - 256, "!\x00~\x00\x00\x00\x01\x00"},
		{"r", "c", 1000000000 - 0x00ca9a3b, "r\x00c\x00\x00\xca\x9a\x3b"}, // 0 with its lowest byte first is the key of another time
		{longestName, "c", 999999999, longestName + "\x00c\x00\x00\x00\x00\x01"}, {"r", longestName, 999999999, "r\x00" + longestName + "\x00\x00\x00\x00\x01"},
	} {
		if got := impl.KeyOf(c.row, c.col, c.at); got != c.want {
			t.Errorf("KeyOf(%q, %q, %d) = %q, want %q", c.row, c.col, c.at, got, c.want)
		}
	}
}

func TestKeysComeBack(t *testing.T) {
	for _, row := range rightNames {
		for _, col := range rightNames {
			for _, at := range rightTimes {
				key := impl.KeyOf(row, col, at)
				if want := keyByWord(row, col, at); key != want {
					t.Fatalf("KeyOf(%q, %q, %d) = %q, want %q", row, col, at, key, want)
				}
				if r, c, a := impl.ReadKey(key); r != row || c != col || a != at {
					t.Fatalf("ReadKey(%q) = %q, %q, %d, want %q, %q, %d", key, r, c, a, row, col, at)
				}
			}
		}
	}
	for at := 0; at <= 1000000000; at += 99991 {
		if _, _, got := impl.ReadKey(impl.KeyOf("r", "c", at)); got != at {
			t.Fatalf("ReadKey of a key at %d tells %d", at, got)
		}
	}
}

func TestKeysOfNone(t *testing.T) {
	check := func(row, col string, at int) {
		if got := impl.KeyOf(row, col, at); got != "" {
			t.Errorf("KeyOf(%.20q, %.20q, %d) = %.40q, want nothing", row, col, at, got)
		}
	}
	for _, name := range wrongNames {
		check(name, "c", 5)
		check("r", name, 5)
		check(name, name, 5)
		check(name, "c", -1)
	}
	for _, at := range wrongTimes {
		check("r", "c", at)
		check("", "", at)
	}
}

func TestTextsThatAreTheKeyOfNothing(t *testing.T) {
	const five = "\x3b\x9a\xc9\xfb"
	for _, c := range []struct{ why, s string }{
		{"empty", ""}, {"no name's end", "r"}, {"no name's end", "rc" + five}, {"one name's end", "r\x00c"}, {"one name's end", "r\x00c" + five},
		{"no time", "r\x00c\x00"}, {"cut off", "r\x00c\x00\x3b\x9a\xc9"}, {"cut off", "r\x00c\x00\x00\x00\x00"}, {"cut off", "r\x00c\x00\x00"},
		{"a byte too many", "r\x00c\x00" + five + "\x00"}, {"a byte too many", "r\x00c\x00" + five + "x"}, {"a byte too many", "\x00r\x00c\x00" + five},
		{"a byte too many", "r\x00\x00c\x00" + five}, {"a byte too many", "r\x00c\x00\x00" + five}, {"a byte too many", "r\x00c\x00\x00\x00\x00\x00\x00"},
		{"twice", "r\x00c\x00" + five + "r\x00c\x00" + five}, {"many bytes too many", "r\x00c\x00" + five + strings.Repeat("\x00", 100000)},
		{"a time above MaxAt", "r\x00c\x00\x3b\x9a\xca\x01"}, {"a time above MaxAt", "r\x00c\x00\x3b\x9a\xcb\x00"}, {"a time above MaxAt", "r\x00c\x00\x3c\x00\x00\x00"},
		{"a time above MaxAt", "r\x00c\x00\x7f\xff\xff\xff"}, {"a time above MaxAt", "r\x00c\x00\x80\x00\x00\x00"}, {"a time above MaxAt", "r\x00c\x00\xff\xff\xff\xff"},
		{"the lowest byte of a time first", "r\x00c\x00\xfb\xc9\x9a\x3b"},
		{"no row", "\x00c\x00" + five}, {"no column", "r\x00\x00" + five}, {"neither", "\x00\x00" + five}, {"neither", "\x00\x00"}, {"neither", "\x00\x00\x00\x00\x00\x00"},
		{"a row that is too long", longestName + "n\x00c\x00" + five}, {"a column that is too long", "r\x00" + longestName + "n\x00" + five},
		{"a far too long row", strings.Repeat("n", 100000) + "\x00c\x00" + five}, {"all noughts", strings.Repeat("\x00", 100000)},
		{"another byte between", "r c\x00" + five}, {"another byte between", "r\x01c\x00" + five}, {"another byte between", "r\x00c\x01" + five},
	} {
		checkNoKey(t, c.why, c.s)
	}
	for _, name := range wrongNames {
		checkNoKey(t, "a row that isn't right", name+"\x00c\x00"+five)
		checkNoKey(t, "a column that isn't right", "r\x00"+name+"\x00"+five)
	}
}

func TestKeysThatAreCutOrLongerAreNone(t *testing.T) {
	for _, x := range risingCells([]string{"!", "row", longestName}, []string{"c", longestName}, rightTimes) {
		key := impl.KeyOf(x.Row, x.Col, x.At)
		for end := range len(key) {
			checkNoKey(t, "cut off", key[:end])
		}
		for b := range 256 {
			checkNoKey(t, "a byte too many", key+string([]byte{byte(b)}))
		}
	}
}

func TestChangedKeysAreOfOtherCells(t *testing.T) {
	key := []byte(impl.KeyOf("row", "col", 123456789))
	for i := range key {
		for turn := 1; turn < 256; turn++ {
			changed := slices.Clone(key)
			changed[i] ^= byte(turn)
			row, col, at := impl.ReadKey(string(changed))
			if at == -1 {
				checkNoKey(t, "changed", string(changed))
			} else if !impl.CellOk(valueOf(row, col, at, "")) || keyByWord(row, col, at) != string(changed) {
				t.Fatalf("ReadKey(%q) = %q, %q, %d", changed, row, col, at)
			}
		}
	}
}

func TestReadKeyTakesTextsOfKeyOfAlone(t *testing.T) {
	keys := map[string]bool{}
	for _, row := range []string{"a", "~"} {
		for _, col := range []string{"a", "~"} {
			keys[keyByWord(row, col, 1000000000)] = true
		}
	}
	for _, s := range allTexts("a~\x00\x7f", 8) {
		row, col, at := impl.ReadKey(s)
		if at >= 0 && keyByWord(row, col, at) != s || at < 0 && (row != "" || col != "" || at != -1) {
			t.Fatalf("ReadKey(%q) = %q, %q, %d", s, row, col, at)
		}
		if keys[s] && at != 1000000000 {
			t.Fatalf("ReadKey(%q) = %q, %q, %d, but it is a key", s, row, col, at)
		}
	}
}

func TestCellBefore(t *testing.T) {
	for _, c := range []struct {
		why  string
		a, b impl.Cell
	}{
		{"the Row alone", valueOf("a", "c", 5, "v"), valueOf("b", "c", 5, "v")}, {"the Row alone", valueOf("a", "c", 5, "v"), valueOf("a!", "c", 5, "v")},
		{"the Col alone", valueOf("r", "a", 5, "v"), valueOf("r", "b", 5, "v")}, {"the Col alone", valueOf("r", "a", 5, "v"), valueOf("r", "a!", 5, "v")},
		{"the At alone", valueOf("r", "c", 6, "v"), valueOf("r", "c", 5, "v")}, {"the At alone", goneAt("r", "c", 1000000000), goneAt("r", "c", 0)},
		{"the At alone", valueOf("r", "c", 256, "v"), valueOf("r", "c", 255, "v")}, {"the At alone", valueOf("r", "c", 10, "v"), valueOf("r", "c", 9, "v")},
		{"the Row ahead of the Col", valueOf("a", "b", 5, "v"), valueOf("b", "a", 5, "v")}, {"the Row ahead of the At", valueOf("a", "c", 5, "v"), valueOf("b", "c", 6, "v")},
		{"the Col ahead of the At", valueOf("r", "a", 5, "v"), valueOf("r", "b", 6, "v")}, {"the Row, not both names as one", valueOf("a", "bc", 5, "v"), valueOf("ab", "c", 5, "v")},
		{"the Row, not both names as one", valueOf("a", "~", 5, "v"), valueOf("a!", "!", 5, "v")},
		{"an empty Row", valueOf("", "c", 5, "v"), valueOf("a", "c", 5, "v")}, {"an empty Col", valueOf("r", "", 5, "v"), valueOf("r", "c", 5, "v")},
		{"a Row that is no name", valueOf("a b", "c", 5, "v"), valueOf("a\xff", "c", 5, "v")}, {"a byte above 127", valueOf("r", "\x7f", 5, "v"), valueOf("r", "\x80", 5, "v")},
		{"a nought in a Row", valueOf("a", "\xff", 5, "v"), valueOf("a\x00", "a", 5, "v")}, {"a long Row", valueOf(longestName, "c", 5, "v"), valueOf(longestName+"n", "c", 5, "v")},
		{"an At below 0", valueOf("r", "c", 0, "v"), valueOf("r", "c", -1, "v")}, {"an At above MaxAt", valueOf("r", "c", 1000000001, "v"), valueOf("r", "c", 1000000000, "v")},
		{"the outmost At", valueOf("r", "c", math.MaxInt64, "v"), valueOf("r", "c", math.MinInt64, "v")}, {"the outmost At", valueOf("r", "c", 0, "v"), valueOf("r", "c", math.MinInt64, "v")},
	} {
		if !impl.CellBefore(c.a, c.b) || impl.CellBefore(c.b, c.a) {
			t.Errorf("%s: %+v isn't ahead of %+v, or is behind it", c.why, c.a, c.b)
		}
	}
}

func TestCellsThatAreOneAreNotAheadOfEachOther(t *testing.T) {
	for _, a := range []impl.Cell{{}, valueOf("r", "c", 5, "v"), valueOf("r", "c", 5, "w"), valueOf("r", "c", 5, ""), goneAt("r", "c", 5), {Row: "r", Col: "c", At: 5, Gone: true, Value: "v"}} {
		for _, b := range []impl.Cell{{}, valueOf("r", "c", 5, "v"), valueOf("r", "c", 5, ""), goneAt("r", "c", 5)} {
			if a.Row == b.Row && (impl.CellBefore(a, b) || impl.CellBefore(b, a)) {
				t.Errorf("one of %+v and %+v is ahead", a, b)
			}
		}
	}
}

func TestKeysStandAsTheirCellsDo(t *testing.T) {
	cells := risingCells(rightNames, []string{"!", "a", "a!", longestName, "~"}, []int{1000000000, 65536, 256, 255, 0})
	for i, a := range cells {
		for j, b := range cells {
			if got := impl.CellBefore(a, b); got != (i < j) {
				t.Fatalf("CellBefore(%+v, %+v) = %v", a, b, got)
			}
			if got := impl.Before(impl.KeyOf(a.Row, a.Col, a.At), impl.KeyOf(b.Row, b.Col, b.At)); got != (i < j) {
				t.Fatalf("of the keys of %+v and %+v the first one ahead: %v", a, b, got)
			}
		}
	}
}

func TestKeysOfDrawnCellsStandAsTheyDo(t *testing.T) {
	draw := rand.New(rand.NewSource(5))
	drawName := func() string {
		name := make([]byte, 1+draw.Intn(16))
		for i := range name {
			name[i] = "!~a"[draw.Intn(3)]
		}
		return string(name[:1+draw.Intn(len(name))])
	}
	for range 20000 {
		a, b := valueOf(drawName(), drawName(), draw.Intn(1000000001), "v"), valueOf(drawName(), drawName(), draw.Intn(1000000001), "w")
		switch draw.Intn(4) {
		case 0:
			b.Row, b.Col = a.Row, a.Col
		case 1:
			b.Row = a.Row
		case 2:
			b.At = a.At
		}
		if impl.CellBefore(a, b) != (impl.KeyOf(a.Row, a.Col, a.At) < impl.KeyOf(b.Row, b.Col, b.At)) {
			t.Fatalf("%+v and %+v don't stand as their keys do", a, b)
		}
	}
}

func TestCellsOk(t *testing.T) {
	a, b, c, d := valueOf("a", "x", 7, "v"), goneAt("a", "x", 5), valueOf("a", "y", 9, ""), valueOf("b", "a", 1, "w")
	for _, x := range []struct {
		why  string
		list []impl.Cell
		want bool
	}{
		{"empty", nil, true}, {"empty", []impl.Cell{}, true}, {"one", []impl.Cell{a}, true}, {"one", []impl.Cell{b}, true},
		{"rising", []impl.Cell{a, b}, true}, {"rising", []impl.Cell{a, c}, true}, {"rising", []impl.Cell{a, d}, true}, {"rising", []impl.Cell{a, b, c, d}, true},
		{"two that are one", []impl.Cell{a, a}, false}, {"two that are one", []impl.Cell{a, b, b, c}, false}, {"two that are one", []impl.Cell{a, b, c, d, d}, false},
		{"two of one time", []impl.Cell{a, goneAt("a", "x", 7)}, false}, {"two of one time", []impl.Cell{a, valueOf("a", "x", 7, "w")}, false},
		{"out of order", []impl.Cell{b, a}, false}, {"out of order", []impl.Cell{c, a}, false}, {"out of order", []impl.Cell{d, a}, false},
		{"out of order", []impl.Cell{b, a, c, d}, false}, {"out of order", []impl.Cell{a, c, b, d}, false}, {"out of order", []impl.Cell{a, b, d, c}, false},
		{"one that isn't right", []impl.Cell{{}}, false}, {"one that isn't right", []impl.Cell{{}, a}, false},
		{"one that isn't right", []impl.Cell{{Row: "a", Col: "x", At: 7, Gone: true, Value: "v"}}, false},
		{"one that isn't right", []impl.Cell{valueOf("a", "x", 1000000001, "v"), a, b}, false}, {"one that isn't right", []impl.Cell{a, valueOf("a", "x", 6, strings.Repeat("v", 31)), b}, false},
		{"one that isn't right", []impl.Cell{a, b, valueOf("a", "x", -1, "v")}, false}, {"one that isn't right", []impl.Cell{a, b, c, d, valueOf("b b", "x", 1, "v")}, false},
	} {
		if got := impl.CellsOk(x.list); got != x.want {
			t.Errorf("%s: CellsOk(%+v) = %v", x.why, x.list, got)
		}
	}
}

func TestCellsOkWantsEachAheadOfTheNext(t *testing.T) {
	cells := risingCells([]string{"a", "a!", "b"}, []string{"x", "y"}, []int{1000000000, 256, 255, 0})
	if !impl.CellsOk(cells) {
		t.Fatal("rising cells aren't so")
	}
	for i := range cells {
		for j := range i {
			changed := slices.Clone(cells)
			changed[i], changed[j] = changed[j], changed[i]
			if impl.CellsOk(changed) {
				t.Errorf("rising with %d and %d changed", j, i)
			}
		}
		if impl.CellsOk(slices.Insert(slices.Clone(cells), i, cells[i])) {
			t.Errorf("rising with %d twice", i)
		}
		if !impl.CellsOk(slices.Delete(slices.Clone(cells), i, i+1)) {
			t.Errorf("not rising without %d", i)
		}
		wrong := slices.Clone(cells)
		wrong[i].Value = strings.Repeat("v", 31)
		if impl.CellsOk(wrong) {
			t.Errorf("right with %d that isn't", i)
		}
	}
}

func TestNewestOfSeveralTimes(t *testing.T) {
	ten, seven, three := valueOf("m", "x", 10, "ten"), goneAt("m", "x", 7), valueOf("m", "x", 3, "")
	list := []impl.Cell{valueOf("a", "x", 20, "a"), valueOf("m", "w", 8, "w"), ten, seven, three, valueOf("m", "y", 6, "y"), valueOf("n", "x", 0, "n")}
	for _, c := range []struct {
		at   int
		want impl.Cell
		is   bool
	}{
		{math.MaxInt64, ten, true}, {1000000001, ten, true}, {1000000000, ten, true}, {11, ten, true}, {10, ten, true}, {9, seven, true}, {8, seven, true},
		{7, seven, true}, {6, three, true}, {4, three, true}, {3, three, true}, {2, impl.Cell{}, false}, {0, impl.Cell{}, false}, {-1, impl.Cell{}, false}, {math.MinInt64, impl.Cell{}, false},
	} {
		checkNewest(t, list, "m", "x", c.at, c.want, c.is)
	}
	checkNewest(t, list, "n", "x", 0, list[6], true)
	checkNewest(t, list, "n", "x", -1, impl.Cell{}, false)
	checkNewest(t, list[:1], "a", "x", 20, list[0], true)
	checkNewest(t, nil, "a", "x", 20, impl.Cell{}, false)
}

func TestNewestOfWhatIsNotThere(t *testing.T) {
	list := []impl.Cell{valueOf("a", "bc", 5, "v"), valueOf("b", "x", 5, "v"), valueOf("b", "z", 5, "v"), valueOf("d", "d", 5, "v")}
	for _, c := range []struct{ row, col string }{
		{"a", "b"}, {"a", "bcd"}, {"ab", "c"}, {"abc", ""}, {"", "abc"}, {"a", "x"}, {"b", "y"}, {"b", "a"}, {"x", "b"}, {"c", "x"}, {"d", "x"}, {"!", "x"}, {"~", "x"}, {"B", "X"},
		{"", ""}, {"", "x"}, {"b", ""}, {"b ", "x"}, {"b\x00", "x"}, {"b", "x\x00"}, {"b\x00x", ""}, {longestName + "n", "x"}, {"b", strings.Repeat("x", 100000)},
	} {
		checkNewest(t, list, c.row, c.col, 1000000000, impl.Cell{}, false)
	}
}

func TestNewestOfAListThatIsNotInOrder(t *testing.T) {
	list := []impl.Cell{valueOf("a", "x", 7, "v"), valueOf("a", "x", 5, "w"), valueOf("b", "x", 3, "u")}
	checkNewest(t, list, "a", "x", 9, list[0], true)
	for _, changed := range [][]impl.Cell{
		{list[1], list[0]}, {list[0], list[0]}, {list[0], list[2], list[1]}, {list[2], list[0], list[1]}, {list[0], list[1], list[2], list[2]},
		{list[0], list[1], list[2], {}}, {list[0], goneAt("a", "x", 7)}, {{}, list[0]}, {list[0], {Row: "b", Col: "x", Gone: true, Value: "v"}},
	} {
		checkNewest(t, changed, "a", "x", 9, impl.Cell{}, false)
		checkNewest(t, changed, "", "", 9, impl.Cell{}, false)
	}
}

func TestNewestByWord(t *testing.T) {
	names, times := []string{"a", "a!", "b"}, []int{9, 7, 4, 2, 0}
	all := risingCells(names, names, times)
	draw := rand.New(rand.NewSource(6))
	for range 200 {
		list := slices.DeleteFunc(slices.Clone(all), func(impl.Cell) bool { return draw.Intn(2) == 0 })
		for _, row := range names {
			for _, col := range names {
				for at := -1; at <= 10; at++ {
					i := slices.IndexFunc(list, func(x impl.Cell) bool { return x.Row == row && x.Col == col && x.At <= at })
					if i < 0 {
						checkNewest(t, list, row, col, at, impl.Cell{}, false)
					} else {
						checkNewest(t, list, row, col, at, list[i], true)
					}
				}
			}
		}
	}
}

func TestCellsAnswerAtLongLists(t *testing.T) {
	const count = 100000
	list := make([]impl.Cell, count)
	for i := range list {
		list[i] = valueOf("r", "c", count-1-i, "v")
	}
	if !impl.CellsOk(list) {
		t.Error("a long list isn't rising")
	}
	checkNewest(t, list, "r", "c", 0, list[count-1], true)
	checkNewest(t, list, "r", "d", 0, impl.Cell{}, false)
	list[count-1].At = 1
	if impl.CellsOk(list) {
		t.Error("a long list is rising with its last two alike")
	}
}

func TestCellsAreNotWrittenInto(t *testing.T) {
	room := []impl.Cell{valueOf("a", "x", 7, "v"), goneAt("a", "x", 5), valueOf("b", "x", 3, "u"), valueOf("z", "z", 9, "spare"), valueOf("a", "a", 9, "spare")}
	want := slices.Clone(room)
	for _, list := range [][]impl.Cell{room[:3], room[:0], room, room[1:2]} {
		impl.CellsOk(list)
		impl.Newest(list, "a", "x", 6)
		impl.Newest(list, "", "", -1)
		if !slices.Equal(room, want) {
			t.Fatalf("written into: %+v, want %+v", room, want)
		}
	}
	got, _ := impl.Newest(room[:3], "a", "x", 9)
	got.Value = "changed"
	if !slices.Equal(room, want) {
		t.Errorf("an answer changed the list: %+v", room)
	}
}

func FuzzCells(f *testing.F) {
	for i, name := range append(slices.Clone(rightNames), wrongNames[:8]...) {
		f.Add(name, "c", rightTimes[i%len(rightTimes)], keyByWord(name, "c", i))
		f.Add("r", name, wrongTimes[i%len(wrongTimes)], name)
	}
	f.Fuzz(func(t *testing.T, row string, col string, at int, s string) {
		key := impl.KeyOf(row, col, at)
		if (key != "") != impl.CellOk(goneAt(row, col, at)) {
			t.Errorf("KeyOf(%q, %q, %d) = %q isn't as CellOk tells", row, col, at, key)
		}
		if r, c, a := impl.ReadKey(key); key != "" && (r != row || c != col || a != at) {
			t.Errorf("ReadKey(%q) = %q, %q, %d", key, r, c, a)
		}
		r, c, a := impl.ReadKey(s)
		if a == -1 {
			checkNoKey(t, "none", s)
			return
		}
		if impl.KeyOf(r, c, a) != s {
			t.Errorf("ReadKey(%q) = %q, %q, %d", s, r, c, a)
		}
		if key != "" && impl.CellBefore(goneAt(row, col, at), goneAt(r, c, a)) != (key < s) {
			t.Errorf("%q and %q don't stand as their cells do", key, s)
		}
	})
}
