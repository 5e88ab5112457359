package tests

import (
	"encoding/binary"
	"fmt"
	"hash/crc32"
	"math"
	"math/rand"
	"slices"
	"strings"
	"testing"

	"loop.example/g00813/impl"
)

var wrongEverys = []int{0, -1, -2, -16, 17, 18, 32, 256 + 1, 1<<32 + 1, math.MinInt64, math.MaxInt64}

func varByWord(n int) string { return string(binary.AppendUvarint(nil, uint64(n))) }

func twoBytes(n int) string { return string(binary.LittleEndian.AppendUint16(nil, uint16(n))) }

// entryOf is a Cell as a block has it, with any share, rest and size.
func entryOf(share int, rest string, size int, value string) string {
	return varByWord(share) + varByWord(len(rest)) + varByWord(size) + rest + value
}

// blockOf is a text in the form of a block, with any places.
func blockOf(entries string, places ...int) string {
	for _, place := range places {
		entries += twoBytes(place)
	}
	return entries + twoBytes(len(places))
}

// blockByWord is PutBlock by the words of the document alone, of any Cells.
func blockByWord(list []impl.Cell, every int) string {
	entries, ahead := "", ""
	var places []int
	for place, x := range list {
		key := keyByWord(x.Row, x.Col, x.At)
		share := 0
		if place%every == 0 {
			places = append(places, len(entries))
		} else {
			for share < len(key) && share < len(ahead) && key[share] == ahead[share] {
				share++
			}
		}
		size := 2 * len(x.Value)
		if x.Gone {
			size++
		}
		entries += entryOf(share, key[share:], size, x.Value)
		ahead = key
	}
	return blockOf(entries, places...)
}

// drawnCells are right, rising and so many; their names begin alike often.
func drawnCells(draw *rand.Rand, count int) []impl.Cell {
	names := []string{"a", "ab", "ab!", "b", longestName[:15], longestName}
	cells := map[string]impl.Cell{}
	for len(cells) < count {
		x := valueOf(names[draw.Intn(6)], names[draw.Intn(6)], rightTimes[draw.Intn(len(rightTimes))], strings.Repeat("v", draw.Intn(31)))
		if draw.Intn(3) == 0 {
			x = goneAt(x.Row, x.Col, draw.Intn(1000000001))
		}
		cells[keyByWord(x.Row, x.Col, x.At)] = x
	}
	var list []impl.Cell
	for _, x := range cells {
		list = append(list, x)
	}
	slices.SortFunc(list, func(a, b impl.Cell) int {
		return strings.Compare(keyByWord(a.Row, a.Col, a.At), keyByWord(b.Row, b.Col, b.At))
	})
	return list
}

// largestCells make the longest block of so many: names and values of the
// greatest length.
func largestCells(count int) []impl.Cell {
	var list []impl.Cell
	for i := range count {
		list = append(list, valueOf(fmt.Sprintf("%016d", i), longestName, i, risingBytes(i, 30)))
	}
	return list
}

func checkBlock(t *testing.T, list []impl.Cell, every int) {
	t.Helper()
	want := blockByWord(list, every)
	if got := impl.PutBlock(list, every); got != want {
		t.Fatalf("PutBlock(%.200q, %d) = %.400x, want %.400x", fmt.Sprint(list), every, got, want)
	}
	if got, ok := impl.GetBlock(want, every); !ok || !slices.Equal(got, list) {
		t.Fatalf("GetBlock(%.400x, %d) = %+v, %v, want %+v", want, every, got, ok, list)
	}
}

func checkNoBlock(t *testing.T, why string, s string, every int) {
	t.Helper()
	if list, ok := impl.GetBlock(s, every); ok || len(list) != 0 {
		t.Errorf("%s: GetBlock(%.200x, %d) = %+v, %v, want nothing and false", why, s, every, list, ok)
	}
	for _, column := range [][2]string{{"a", "x"}, {"", ""}} {
		if x, ok := impl.Seek(s, every, column[0], column[1], 1000000000); ok || x != (impl.Cell{}) {
			t.Errorf("%s: Seek in %.200x tells %+v, %v", why, s, x, ok)
		}
	}
}

func checkNoPut(t *testing.T, why string, list []impl.Cell, every int) {
	t.Helper()
	if got := impl.PutBlock(list, every); got != "" {
		t.Errorf("%s: PutBlock(%.200q, %d) = %.200x, want nothing", why, fmt.Sprint(list), every, got)
	}
}

func TestBlockLimits(t *testing.T) {
	if impl.MaxEvery != 16 || impl.MaxBlock != 50 {
		t.Errorf("MaxEvery, MaxBlock = %d, %d", impl.MaxEvery, impl.MaxBlock)
	}
	if impl.BlOk != 0 || impl.BlShort != 1 || impl.BlCrc != 2 || impl.BlTag != 3 || impl.BlBytes != 4 {
		t.Errorf("codes %d, %d, %d, %d, %d", impl.BlOk, impl.BlShort, impl.BlCrc, impl.BlTag, impl.BlBytes)
	}
}

func TestBlocksToTheByte(t *testing.T) {
	const seven, five, four = "\x3b\x9a\xc9\xf9", "\x3b\x9a\xc9\xfb", "\x3b\x9a\xc9\xfc"
	list := []impl.Cell{valueOf("a", "x", 7, "v1"), goneAt("a", "x", 5), valueOf("a", "x", 4, ""), valueOf("ab", "x", 5, "w")}
	for _, c := range []struct {
		every int
		want  string
	}{
		{1, "\x00\x08\x04a\x00x\x00" + seven + "v1" + "\x00\x08\x01a\x00x\x00" + five + "\x00\x08\x00a\x00x\x00" + four + "\x00\x09\x02ab\x00x\x00" + five + "w" +
			"\x00\x00\x0d\x00\x18\x00\x23\x00\x04\x00"},
		{2, "\x00\x08\x04a\x00x\x00" + seven + "v1" + "\x07\x01\x01\xfb" + "\x00\x08\x00a\x00x\x00" + four + "\x01\x08\x02b\x00x\x00" + five + "w" + "\x00\x00\x11\x00\x02\x00"},
		{3, "\x00\x08\x04a\x00x\x00" + seven + "v1" + "\x07\x01\x01\xfb" + "\x07\x01\x00\xfc" + "\x00\x09\x02ab\x00x\x00" + five + "w" + "\x00\x00\x15\x00\x02\x00"},
		{4, "\x00\x08\x04a\x00x\x00" + seven + "v1" + "\x07\x01\x01\xfb" + "\x07\x01\x00\xfc" + "\x01\x08\x02b\x00x\x00" + five + "w" + "\x00\x00\x01\x00"},
		{16, "\x00\x08\x04a\x00x\x00" + seven + "v1" + "\x07\x01\x01\xfb" + "\x07\x01\x00\xfc" + "\x01\x08\x02b\x00x\x00" + five + "w" + "\x00\x00\x01\x00"},
	} {
		if got := impl.PutBlock(list, c.every); got != c.want {
			t.Errorf("PutBlock by %d = %x, want %x", c.every, got, c.want)
		}
		checkBlock(t, list, c.every)
	}
}

func TestBlocksOfNothingAndOfOne(t *testing.T) {
	for every := 1; every <= 16; every++ {
		for _, list := range [][]impl.Cell{nil, {}} {
			if got := impl.PutBlock(list, every); got != "\x00\x00" {
				t.Errorf("PutBlock of nothing by %d = %x", every, got)
			}
		}
		if list, ok := impl.GetBlock("\x00\x00", every); !ok || len(list) != 0 {
			t.Errorf("GetBlock of nothing by %d = %+v, %v", every, list, ok)
		}
		for _, x := range []impl.Cell{
			valueOf("a", "x", 7, "v"), valueOf("a", "x", 7, ""), goneAt("a", "x", 7), valueOf("a", "x", 0, "\x00"), valueOf("a", "x", 1000000000, "\xff"),
			valueOf(longestName, longestName, 5, strings.Repeat("v", 30)), valueOf("!", "~", 5, risingBytes(113, 30)),
		} {
			checkBlock(t, []impl.Cell{x}, every)
		}
	}
}

func TestEverysThatAreNone(t *testing.T) {
	list := []impl.Cell{valueOf("a", "x", 7, "v1"), goneAt("a", "x", 5), valueOf("b", "x", 5, "")}
	checkBlock(t, list, 1)
	checkBlock(t, list, 16)
	for _, every := range wrongEverys {
		checkNoPut(t, "a wrong every", list, every)
		checkNoPut(t, "a wrong every", nil, every)
		for _, s := range []string{blockByWord(list, 1), blockByWord(list, 2), blockByWord(list, 16), "\x00\x00", ""} {
			checkNoBlock(t, "a wrong every", s, every)
		}
	}
}

func TestBlocksOfMaxBlockCells(t *testing.T) {
	for _, make := range []func(int) []impl.Cell{
		largestCells,
		func(count int) []impl.Cell { return drawnCells(rand.New(rand.NewSource(7)), count) },
		func(count int) []impl.Cell { return risingCells([]string{"a"}, []string{"x"}, fallingTimes(count)) },
	} {
		for every := 1; every <= 16; every++ {
			for _, count := range []int{15, 16, 17, 48, 49, 50} {
				checkBlock(t, make(count), every)
			}
			for _, count := range []int{51, 52, 64, 100, 306} {
				list := make(count)
				checkNoPut(t, "too many", list, every)
				checkNoBlock(t, "too many", blockByWord(list, every), every)
			}
		}
	}
}

func fallingTimes(count int) []int {
	var times []int
	for i := range count {
		times = append(times, 300*(count-i))
	}
	return times
}

func TestPlacesHaveTwoBytes(t *testing.T) {
	s := impl.PutBlock(largestCells(50), 1)
	// 3 bytes of numbers, 38 of the key and 30 of the value, each time.
	if len(s) != 50*71+51*2 || s[len(s)-4:] != "\x97\x0d\x32\x00" {
		t.Errorf("%d bytes, the last ones %x", len(s), s[len(s)-4:])
	}
}

type wrongList struct {
	why  string
	list []impl.Cell
}

// wrongLists are Cells that aren't CellsOk.
func wrongLists() []wrongList {
	a, b, c := valueOf("a", "x", 7, "v"), goneAt("a", "x", 5), valueOf("b", "x", 5, "w")
	return []wrongList{
		{"out of order", []impl.Cell{b, a}}, {"out of order", []impl.Cell{a, c, b}}, {"out of order", []impl.Cell{c, a, b}},
		{"two that are one", []impl.Cell{a, a}}, {"two that are one", []impl.Cell{a, b, c, c}}, {"two of one time", []impl.Cell{a, goneAt("a", "x", 7)}},
		{"one that isn't right", []impl.Cell{{}}}, {"one that isn't right", []impl.Cell{a, b, {}}}, {"a row that is no name", []impl.Cell{valueOf("a b", "x", 7, "v")}},
		{"no column", []impl.Cell{valueOf("a", "", 7, "v")}}, {"a column too long", []impl.Cell{valueOf("a", longestName+"n", 7, "v")}},
		{"a time below 0", []impl.Cell{a, valueOf("a", "x", -1, "v")}}, {"a time above MaxAt", []impl.Cell{valueOf("a", "x", 1000000001, "v"), a}},
		{"a value too long", []impl.Cell{a, valueOf("b", "x", 5, strings.Repeat("v", 31))}}, {"a Gone one with a value", []impl.Cell{{Row: "a", Col: "x", At: 5, Gone: true, Value: "v"}}},
	}
}

func TestBlocksOfWrongCells(t *testing.T) {
	for _, x := range wrongLists() {
		for every := 1; every <= 16; every++ {
			checkNoPut(t, x.why, x.list, every)
			checkNoBlock(t, x.why, blockByWord(x.list, every), every)
		}
	}
}

func TestStartsShareNothingAndTheNextAll(t *testing.T) {
	// All keys begin alike with all but their last byte.
	list := risingCells([]string{longestName}, []string{longestName}, []int{90, 89, 88, 87, 86, 85, 84})
	begin := keyByWord(longestName, longestName, 90)[:37]
	for every := 1; every <= 8; every++ {
		s := impl.PutBlock(list, every)
		at := 0
		for place, x := range list {
			start, size := place%every == 0, 2*len(x.Value)
			if x.Gone {
				size++
			}
			last := keyByWord(x.Row, x.Col, x.At)[37:]
			want := entryOf(37, last, size, x.Value)
			if start {
				want = entryOf(0, begin+last, size, x.Value)
			}
			if !strings.HasPrefix(s[at:], want) {
				t.Fatalf("by %d, place %d begins with %.60x, want %x", every, place, s[at:], want)
			}
			at += len(want)
		}
		checkBlock(t, list, every)
	}
}

func TestStartsShareNothingAtEachByte(t *testing.T) {
	key := keyByWord("row", "col", 500)
	for _, x := range []struct {
		next  impl.Cell
		share int
	}{
		{valueOf("sow", "col", 500, "v"), 0}, {valueOf("rpw", "col", 500, "v"), 1}, {valueOf("rox", "col", 500, "v"), 2}, {valueOf("row!", "col", 500, "v"), 3},
		{valueOf("row", "dol", 500, "v"), 4}, {valueOf("row", "com", 500, "v"), 6}, {valueOf("row", "col!", 500, "v"), 7}, {valueOf("row", "col", 0, "v"), 10},
		{valueOf("row", "col", 499, "v"), 11},
	} {
		rest := keyByWord(x.next.Row, x.next.Col, x.next.At)
		list := []impl.Cell{valueOf("row", "col", 500, ""), x.next}
		first := entryOf(0, key, 0, "")
		if got, want := impl.PutBlock(list, 2), blockOf(first+entryOf(x.share, rest[x.share:], 2, "v"), 0); got != want {
			t.Errorf("by 2, with %+v behind: %x, want %x", x.next, got, want)
		}
		if got, want := impl.PutBlock(list, 1), blockOf(first+entryOf(0, rest, 2, "v"), 0, len(first)); got != want {
			t.Errorf("by 1, with %+v behind: %x, want %x", x.next, got, want)
		}
		for share := range len(rest) {
			by2 := blockOf(first+entryOf(share, rest[share:], 2, "v"), 0)
			by1 := blockOf(first+entryOf(share, rest[share:], 2, "v"), 0, len(first))
			if share < x.share { // a greater one is of another key
				checkNoBlock(t, "a share that is too little", by2, 2)
			}
			if share != 0 {
				checkNoBlock(t, "a start that shares", by1, 1)
			}
		}
	}
}

func TestBlocksOfAnotherEvery(t *testing.T) {
	draw := rand.New(rand.NewSource(8))
	for _, count := range []int{0, 1, 2, 3, 8, 16, 17, 50} {
		list := drawnCells(draw, count)
		for every := 1; every <= 16; every++ {
			s := blockByWord(list, every)
			for other := 1; other <= 16; other++ {
				if blockByWord(list, other) == s {
					checkBlock(t, list, other)
				} else {
					checkNoBlock(t, fmt.Sprintf("%d cells by %d", count, every), s, other)
				}
			}
		}
	}
}

func TestDrawnBlocksComeBack(t *testing.T) {
	draw := rand.New(rand.NewSource(9))
	for range 2000 {
		checkBlock(t, drawnCells(draw, draw.Intn(51)), 1+draw.Intn(16))
	}
}

func TestTextsThatAreTheBlockOfNothing(t *testing.T) {
	const first = "a\x00x\x00\x3b\x9a\xc9\xf9" // at 7
	one := entryOf(0, first, 2, "v")
	two := one + entryOf(7, "\xfb", 1, "")
	if len(one) != 12 || blockOf(two, 0) != blockByWord([]impl.Cell{valueOf("a", "x", 7, "v"), goneAt("a", "x", 5)}, 2) {
		t.Fatal("what the texts are made of is no block")
	}
	all := strings.Repeat("\xff", 8) + "\x3f" // MaxVar
	for _, c := range []struct{ why, s string }{
		{"empty", ""}, {"cut off", "\x00"}, {"cut off", "\x01\x00"}, {"no places", "\x02\x00"}, {"no places", "\xff\xff"}, {"no places", "\x00\x00\x02\x00"},
		{"a place of nothing", blockOf("", 0)}, {"a place of nothing", blockOf("", 0, 0)}, {"a byte of nothing", "\x00\x00\x00"}, {"noughts", strings.Repeat("\x00", 12)},
		{"no place", blockOf(two)}, {"no place but its count", two + "\x01\x00"}, {"another place", blockOf(two, 1)}, {"another place", blockOf(two, 256)}, {"another place", blockOf(two, len(one))},
		{"a place too many", blockOf(two, 0, len(one))}, {"a place too many", blockOf(two, 0, 0)}, {"a place too many", blockOf(two, 0, len(two))},
		{"another count", two + "\x00\x00\x00\x00"}, {"another count", two + "\x00\x00\x02\x00"}, {"another count", two + "\x00\x00\x01\x01"}, {"another count", two + "\x00\x00\xff\xff"},
		{"its highest byte first", two + "\x00\x00\x00\x01"}, {"a count of one byte", two + "\x00\x00\x01"}, {"a place of one byte", two + "\x00\x01\x00"},
		{"a byte too many behind the entries", blockOf(two+"\x00", 0)}, {"bytes too many behind the entries", blockOf(two+"\x00\x00\x00", 0)},
		{"a byte too many ahead", blockOf("\x00"+two, 0)}, {"a byte too many ahead", blockOf("\x00"+two, 1)},
		{"a share that is too little", blockOf(one+entryOf(6, "\xc9\xfb", 1, ""), 0)}, {"no share", blockOf(one+entryOf(0, first[:7]+"\xfb", 1, ""), 0)},
		{"a share that is too great", blockOf(one+entryOf(8, "\xfb", 1, ""), 0)}, {"a share of more than there is", blockOf(one+entryOf(9, "\xfb", 1, ""), 0)},
		{"a share of far more than there is", blockOf(one+entryOf(impl.MaxVar, "\xfb", 1, ""), 0)}, {"a share of the first one", blockOf(entryOf(1, first[1:], 2, "v"), 0)},
		{"a share with a byte too many", blockOf("\x80\x00\x08\x02"+first+"v", 0)}, {"a rest with a byte too many", blockOf("\x00\x88\x00\x02"+first+"v", 0)},
		{"a size with a byte too many", blockOf("\x00\x08\x82\x00"+first+"v", 0)}, {"a size of no value with a byte too many", blockOf("\x00\x08\x80\x00"+first, 0)},
		{"a share that doesn't end", blockOf("\x80\x80\x80", 0)}, {"a rest beyond the end", blockOf("\x00"+all+"\x02"+first+"v", 0)}, {"a size beyond the end", blockOf("\x00\x08"+all+first+"v", 0)},
		{"a rest into the places", "\x00\x0a\x00" + first + "\x00\x00\x01\x00"}, {"a value into the places", "\x00\x08\x04" + first + "v\x00\x00\x01\x00"},
		{"a value that isn't there", blockOf(entryOf(0, first, 4, "v"), 0)}, {"a value that isn't counted", blockOf(entryOf(0, first, 0, "v"), 0)},
		{"a Gone one with a value", blockOf(entryOf(0, first, 3, "v"), 0)}, {"a value too long", blockOf(entryOf(0, first, 62, strings.Repeat("v", 31)), 0)},
		{"two that are one", blockOf(one+entryOf(8, "", 2, "v"), 0)}, {"two of one time", blockOf(one+entryOf(8, "", 1, ""), 0)},
		{"out of order", blockOf(one+entryOf(7, "\xf8", 1, ""), 0)}, {"out of order", blockOf(entryOf(0, "b"+first[1:], 2, "v")+entryOf(0, first, 2, "v"), 0)},
		{"an empty key", blockOf(entryOf(0, "", 2, "v"), 0)}, {"a key of nothing", blockOf(entryOf(0, "a", 2, "v"), 0)}, {"a key cut off", blockOf(entryOf(0, first[:7], 2, "v"), 0)},
		{"a key with a byte too many", blockOf(entryOf(0, first+"\x00", 2, "v"), 0)}, {"a key without a row", blockOf(entryOf(0, first[1:], 2, "v"), 0)},
		{"a key above MaxAt", blockOf(entryOf(0, "a\x00x\x00\x3b\x9a\xca\x01", 2, "v"), 0)}, {"a key with a blank", blockOf(entryOf(0, " "+first[1:], 2, "v"), 0)},
		{"a key of nothing behind", blockOf(one+entryOf(7, "", 2, "v"), 0)}, {"a key of nothing behind", blockOf(one+entryOf(7, "\xfb\xfb", 2, "v"), 0)},
		{"another block behind", blockOf(two, 0) + blockOf(two, 0)}, {"sealed", impl.Sealed(blockOf(two, 0))}, {"wrapped", impl.Wrap(blockOf(two, 0), false)},
	} {
		for every := 2; every <= 16; every++ {
			checkNoBlock(t, c.why, c.s, every)
		}
	}
}

func TestBlocksThatAreCutOrLongerAreNone(t *testing.T) {
	list := drawnCells(rand.New(rand.NewSource(10)), 7)
	for _, every := range []int{1, 2, 3, 16} {
		s := impl.PutBlock(list, every)
		for end := range len(s) {
			checkNoBlock(t, "cut off", s[:end], every)
		}
		for b := range 256 {
			sign := string([]byte{byte(b)})
			checkNoBlock(t, "a byte too many", s+sign, every)
			checkNoBlock(t, "a byte too many ahead", sign+s, every)
		}
	}
}

func TestChangedBlocksAreOfOtherCells(t *testing.T) {
	list := []impl.Cell{valueOf("ab", "x", 700, "v1"), goneAt("ab", "x", 5), valueOf("ab", "y", 5, ""), valueOf("b", "x", 5, "w")}
	for _, every := range []int{1, 2, 3, 4} {
		s := impl.PutBlock(list, every)
		taken := 0
		for i := range len(s) {
			for turn := 1; turn < 256; turn++ {
				changed := []byte(s)
				changed[i] ^= byte(turn)
				got, ok := impl.GetBlock(string(changed), every)
				if !ok {
					checkNoBlock(t, "changed", string(changed), every)
					continue
				}
				taken++
				if !impl.CellsOk(got) || blockByWord(got, every) != string(changed) || slices.Equal(got, list) {
					t.Fatalf("GetBlock(%x, %d) = %+v", changed, every, got)
				}
			}
		}
		if taken < 255*3 { // each byte of a value at least is of another Cell
			t.Errorf("only %d changed blocks were taken by %d", taken, every)
		}
	}
}

func TestShortTextsAreNoBlocks(t *testing.T) {
	for _, s := range allTexts("\x00\x01\x02\x08a", 6) {
		for _, every := range []int{1, 2, 16} {
			if s != "\x00\x00" {
				checkNoBlock(t, "short", s, every)
			}
		}
	}
}

func TestSeekTellsTheNewest(t *testing.T) {
	names, times := []string{"a", "a!", "b", longestName}, []int{1000000000, 256, 255, 0}
	draw := rand.New(rand.NewSource(11))
	for range 40 {
		list := slices.DeleteFunc(risingCells(names[:3], names[:3], times), func(impl.Cell) bool { return draw.Intn(2) == 0 })
		every := 1 + draw.Intn(16)
		s := impl.PutBlock(list, every)
		for _, row := range append([]string{"", "a b"}, names...) {
			for _, col := range append([]string{"", "\x00"}, names...) {
				for _, at := range []int{math.MinInt64, -1, 0, 1, 254, 255, 256, 999999999, 1000000000, 1000000001, math.MaxInt64} {
					want, is := impl.Newest(list, row, col, at)
					if got, ok := impl.Seek(s, every, row, col, at); got != want || ok != is {
						t.Fatalf("Seek by %d of %q, %q at %d = %+v, %v, want %+v, %v", every, row, col, at, got, ok, want, is)
					}
				}
			}
		}
	}
}

func TestSeekInABlock(t *testing.T) {
	list := []impl.Cell{valueOf("a", "x", 7, "v1"), goneAt("a", "x", 5), valueOf("b", "x", 5, "")}
	for every := 1; every <= 16; every++ {
		s := blockByWord(list, every)
		for _, c := range []struct {
			row  string
			at   int
			want impl.Cell
			is   bool
		}{
			{"a", 8, list[0], true}, {"a", 7, list[0], true}, {"a", 6, list[1], true}, {"a", 5, list[1], true}, {"a", 4, impl.Cell{}, false}, {"b", 5, list[2], true}, {"b", 4, impl.Cell{}, false}, {"c", 9, impl.Cell{}, false},
		} {
			if got, ok := impl.Seek(s, every, c.row, "x", c.at); got != c.want || ok != c.is {
				t.Errorf("Seek by %d of %q at %d = %+v, %v, want %+v, %v", every, c.row, c.at, got, ok, c.want, c.is)
			}
			if got, ok := impl.Seek(s[:len(s)-1], every, c.row, "x", c.at); got != (impl.Cell{}) || ok {
				t.Errorf("Seek in no block = %+v, %v", got, ok)
			}
		}
		if got, ok := impl.Seek("\x00\x00", every, "a", "x", 7); got != (impl.Cell{}) || ok {
			t.Errorf("Seek in the block of nothing = %+v, %v", got, ok)
		}
	}
}

func sealedByWord(s string) string {
	sum := crc32.Checksum([]byte(s), crc32.MakeTable(crc32.Castagnoli))
	return s + string(binary.LittleEndian.AppendUint32(nil, sum))
}

func wrappedByWord(s string, pack bool) string {
	if pack {
		if packed := packedByWord(tokensByWord(s)); len(packed) < len(s) {
			return sealedByWord(packed + "\x01")
		}
	}
	return sealedByWord(s + "\x00")
}

func checkWrapped(t *testing.T, s string) {
	t.Helper()
	for _, pack := range []bool{false, true} {
		want := wrappedByWord(s, pack)
		if got := impl.Wrap(s, pack); got != want {
			t.Errorf("Wrap(%.60q, %v) = %.120x, want %.120x", s, pack, got, want)
		}
		if got, code := impl.Unwrap(want); got != s || code != impl.BlOk {
			t.Errorf("Unwrap(%.120x) = %.60q, %d, want %.60q", want, got, code, s)
		}
	}
}

func checkCode(t *testing.T, why string, s string, want int) {
	t.Helper()
	if got, code := impl.Unwrap(s); got != "" || code != want {
		t.Errorf("%s: Unwrap(%.60x) = %.60q, %d, want nothing and %d", why, s, got, code, want)
	}
}

func TestWrapToTheByte(t *testing.T) {
	for _, c := range []struct {
		s    string
		pack bool
		want string
	}{
		{"abc", true, "abc\x00\x4c\x0e\x94\x34"}, {"abc", false, "abc\x00\x4c\x0e\x94\x34"}, {"aaaaaaaaaa", true, "\x01a\x85\x01\x01\x1e\xa2\xd4\x8d"},
		{"", false, sealedByWord("\x00")}, {"", true, sealedByWord("\x00")}, {"aaaaaaaaaa", false, sealedByWord("aaaaaaaaaa\x00")},
		{"aaaa", true, sealedByWord("aaaa\x00")}, {"aaaaa", true, sealedByWord("\x01a\x80\x01\x01")},
		{"abcdabcd", true, sealedByWord("\x04abcd\x80\x04\x01")}, {"abcdXabcdY", true, sealedByWord("abcdXabcdY\x00")}, // packing makes it as long as it was
		{"abcdXabcd", true, sealedByWord("\x05abcdX\x80\x05\x01")}, {"\x00", true, sealedByWord("\x00\x00")}, {"\x01", false, sealedByWord("\x01\x00")},
	} {
		if got := impl.Wrap(c.s, c.pack); got != c.want {
			t.Errorf("Wrap(%q, %v) = %x, want %x", c.s, c.pack, got, c.want)
		}
		checkWrapped(t, c.s)
	}
}

func TestWrapPacksOnlyWhatBecomesShorter(t *testing.T) {
	if got := len(impl.Compress("abcdXabcdY")); got != 10 {
		t.Fatalf("packed to %d bytes, not as many as it was", got)
	}
	longer, same, shorter := 0, 0, 0
	for _, s := range drawnTexts(300) {
		switch packed := len(impl.Compress(s)); {
		case packed > len(s):
			longer++
		case packed == len(s):
			same++
		default:
			shorter++
		}
		checkWrapped(t, s)
	}
	for _, s := range allTexts("ab", 10) {
		checkWrapped(t, s)
		if len(impl.Compress(s)) == len(s) {
			same++
		}
	}
	if longer == 0 || same == 0 || shorter == 0 {
		t.Errorf("%d longer, %d as long, %d shorter", longer, same, shorter)
	}
}

func TestWrapOfMaxPlainBytes(t *testing.T) {
	for _, make := range []func(int) string{
		unlikeText, func(count int) string { return strings.Repeat("a", count) }, func(count int) string { return strings.Repeat("\x00", count) },
		func(count int) string { return strings.Repeat("abcdefgh", count/8+1)[:count] }, func(count int) string { return risingBytes(0, count) },
	} {
		for _, count := range []int{1999, 2000} {
			checkWrapped(t, make(count))
		}
		for _, pack := range []bool{false, true} {
			for _, count := range []int{2001, 2002, 4000, 100000} {
				if got := impl.Wrap(make(count), pack); got != "" {
					t.Errorf("Wrap of %d bytes, %v = %.60x, want nothing", count, pack, got)
				}
			}
			checkCode(t, "of a text too long", wrappedByWord(make(2001), pack), impl.BlBytes)
		}
	}
}

func TestBlocksComeBackWrapped(t *testing.T) {
	draw := rand.New(rand.NewSource(12))
	for range 200 {
		list, every := drawnCells(draw, draw.Intn(31)), 1+draw.Intn(16)
		for _, pack := range []bool{false, true} {
			s, code := impl.Unwrap(impl.Wrap(impl.PutBlock(list, every), pack))
			if got, ok := impl.GetBlock(s, every); code != impl.BlOk || !ok || !slices.Equal(got, list) {
				t.Fatalf("code %d, and %+v, %v, want %+v", code, got, ok, list)
			}
		}
	}
}

func TestWrappedTextsThatAreShort(t *testing.T) {
	for _, whole := range []string{impl.Wrap("", false), impl.Wrap("abc", false), impl.Wrap("aaaaaaaaaa", true), "\x00\x00\x00\x00\x00", "\xff\xff\xff\xff\xff", impl.Sealed("") + "x"} {
		for end := range 5 {
			checkCode(t, "short", whole[:end], impl.BlShort)
		}
	}
	checkCode(t, "sealed of nothing", impl.Sealed(""), impl.BlShort) // its sum is right
	checkCode(t, "five bytes", "\x00\x00\x00\x00\x00", impl.BlCrc)
	checkCode(t, "five bytes", "\x02\x00\x00\x00\x00", impl.BlCrc)
	if s, code := impl.Unwrap(impl.Sealed("\x00")); s != "" || code != impl.BlOk {
		t.Errorf("Unwrap of the empty text wrapped = %q, %d", s, code)
	}
}

func TestChangedWrappedTextsAreTold(t *testing.T) {
	list := []impl.Cell{valueOf("a", "x", 7, "v1"), goneAt("a", "x", 5), valueOf("b", "x", 5, "")}
	for _, s := range []string{"", "a", "abc", "aaaaaaaaaa", impl.PutBlock(list, 1), impl.PutBlock(list, 2)} {
		for _, pack := range []bool{false, true} {
			whole := impl.Wrap(s, pack)
			for i := range len(whole) {
				for turn := 1; turn < 256; turn++ {
					changed := []byte(whole)
					changed[i] ^= byte(turn)
					checkCode(t, "changed", string(changed), impl.BlCrc)
				}
			}
			for end := 5; end < len(whole); end++ {
				checkCode(t, "cut off", whole[:end], impl.BlCrc)
			}
			for b := range 256 {
				checkCode(t, "a byte too many", whole+string([]byte{byte(b)}), impl.BlCrc)
				checkCode(t, "a byte too many ahead", string([]byte{byte(b)})+whole, impl.BlCrc)
			}
		}
	}
}

func TestTagsThatAreNone(t *testing.T) {
	for tag := 2; tag < 256; tag++ {
		// Whatever stands ahead, be it packed or too long, the tag counts first.
		for _, s := range []string{"", "abc", "\x01a\x85\x01", "\x05aaaaa", "\x00", "\x01", strings.Repeat("a", 2000), strings.Repeat("a", 2001)} {
			checkCode(t, "a wrong tag", sealedByWord(s+string([]byte{byte(tag)})), impl.BlTag)
		}
	}
	changed := []byte(impl.Sealed("ab\x02"))
	changed[3] ^= 1
	checkCode(t, "a wrong tag, and a wrong sum", string(changed), impl.BlCrc)
}

func TestBytesThatAreWrapOfNone(t *testing.T) {
	for _, c := range []struct{ why, s string }{
		{"the empty text, packed", ""}, {"no packed text", "ab"}, {"no packed text", "\x00"}, {"no packed text", "\xff"}, {"cut off", "\x05abcd"}, {"cut off", "\x01a\x85"},
		{"could have been a copy", "\x05aaaaa"}, {"could have been a longer copy", "\x01a\x80\x01\x81\x01"}, {"a byte too many", "\x01a\x85\x01\x00"}, {"a copy of nothing", "\x85\x01"},
		{"as long as it was packed from", "\x05abcdX\x80\x05\x01Y"}, {"longer than what it was packed from", "\x03abc"}, {"longer than what it was packed from", "\x01a"}, {"longer than what it was packed from", "\x04aaaa"},
		{"a plain text", "aaaaaaaaaa"}, {"of a text too long", packedByWord(tokensByWord(strings.Repeat("a", 2001)))}, {"far too long", strings.Repeat("a", 100000)},
	} {
		checkCode(t, c.why, sealedByWord(c.s+"\x01"), impl.BlBytes)
	}
	for _, count := range []int{2001, 2002, 100000} {
		checkCode(t, "a plain text too long", sealedByWord(strings.Repeat("a", count)+"\x00"), impl.BlBytes)
		checkCode(t, "a plain text too long", sealedByWord(unlikeText(count)+"\x00"), impl.BlBytes)
	}
	// A text that packing makes shorter is Wrap as well where it isn't packed.
	for _, s := range []string{"aaaaaaaaaa", "\x01a\x85\x01", "\x05aaaaa", "\x00", "\x01", strings.Repeat("a", 2000)} {
		if got, code := impl.Unwrap(sealedByWord(s + "\x00")); got != s || code != impl.BlOk {
			t.Errorf("Unwrap of %.60q as it is = %.60q, %d", s, got, code)
		}
	}
}

func TestUnwrapTakesTextsOfWrapAlone(t *testing.T) {
	wrapped := map[string]string{}
	for _, s := range append(allTexts("a\x01", 9), allTexts("\x00\x01\x80a", 5)...) {
		wrapped[wrappedByWord(s, false)], wrapped[wrappedByWord(s, true)] = s, s
	}
	for _, inner := range allTexts("\x00\x01\x80a", 6) {
		s := sealedByWord(inner)
		want, is := wrapped[s]
		got, code := impl.Unwrap(s)
		if is && (got != want || code != impl.BlOk) {
			t.Fatalf("Unwrap(%x) = %q, %d, want %q", s, got, code, want)
		}
		if !is && (got != "" || code == impl.BlOk) {
			t.Fatalf("Unwrap(%x) = %q, %d, but it is Wrap of none", s, got, code)
		}
	}
}

func TestBlocksAnswerAtLongArguments(t *testing.T) {
	const count = 100000
	list := make([]impl.Cell, count)
	for i := range list {
		list[i] = valueOf("r", "c", count-1-i, "v")
	}
	checkNoPut(t, "far too many", list, 16)
	checkNoBlock(t, "far too many", blockByWord(list[:5000], 16), 16)
	one := entryOf(0, keyByWord("a", "x", 7), 2, "v")
	for _, s := range []string{
		strings.Repeat("\x00", count), strings.Repeat("\xff", count), strings.Repeat("\x80", count), strings.Repeat("\x01\x00", count), strings.Repeat("a", count),
		blockOf(one+strings.Repeat("\x08\x00\x00", count), 0), blockOf(strings.Repeat(one, count), 0), blockOf(entryOf(0, strings.Repeat("a", count), 2, "v"), 0),
		blockOf(entryOf(0, keyByWord("a", "x", 7), 2*count, strings.Repeat("v", count)), 0), strings.Repeat(blockOf(one, 0), count),
	} {
		for _, every := range []int{1, 16, 17, math.MaxInt64} {
			checkNoBlock(t, "long", s, every)
		}
		checkCode(t, "long", s, impl.BlCrc)
		if impl.Wrap(s, true) != "" || impl.Wrap(s, false) != "" {
			t.Error("a long text is wrapped")
		}
	}
}

func TestBlocksWriteIntoNoArgument(t *testing.T) {
	room := []impl.Cell{valueOf("a", "x", 7, "v"), goneAt("a", "x", 5), valueOf("b", "x", 3, "u"), valueOf("z", "z", 9, "spare"), valueOf("a", "a", 9, "spare")}
	want := slices.Clone(room)
	for _, list := range [][]impl.Cell{room[:3], room[:0], room, room[1:2]} {
		for every := range 18 {
			impl.PutBlock(list, every)
			if !slices.Equal(room, want) {
				t.Fatalf("written into: %+v, want %+v", room, want)
			}
		}
	}
}

func TestBlockAnswersAreNewMemory(t *testing.T) {
	list := []impl.Cell{valueOf("a", "x", 7, "v1"), goneAt("a", "x", 5), valueOf("b", "x", 5, "")}
	s := impl.PutBlock(list, 2)
	first, _ := impl.GetBlock(s, 2)
	second, _ := impl.GetBlock(s, 2)
	for i := range first {
		first[i] = impl.Cell{}
	}
	_ = append(first[:1], impl.Cell{})
	if again, ok := impl.GetBlock(s, 2); !slices.Equal(second, list) || !slices.Equal(again, list) || !ok {
		t.Errorf("what was changed in an answer is in another: %+v, %+v", second, again)
	}
}

func FuzzBlocks(f *testing.F) {
	draw := rand.New(rand.NewSource(13))
	for _, count := range []int{0, 1, 2, 5, 50} {
		every := 1 + draw.Intn(16)
		s := blockByWord(drawnCells(draw, count), every)
		f.Add(s, every)
		f.Add(wrappedByWord(s, count%2 == 0), every)
	}
	f.Add("\x01a\x85\x01\x01\x1e\xa2\xd4\x8d", 17)
	f.Fuzz(func(t *testing.T, s string, every int) {
		list, ok := impl.GetBlock(s, every)
		if !ok {
			checkNoBlock(t, "none", s, every)
		} else if every < 1 || every > 16 || len(list) > 50 || !impl.CellsOk(list) || blockByWord(list, every) != s || impl.PutBlock(list, every) != s {
			t.Errorf("GetBlock(%x, %d) = %+v", s, every, list)
		}
		if text, code := impl.Unwrap(s); code != impl.BlOk {
			checkCode(t, "none", s, code)
		} else if wrappedByWord(text, false) != s && wrappedByWord(text, true) != s {
			t.Errorf("Unwrap(%x) = %x", s, text)
		}
		if len(s) <= 2000 {
			checkWrapped(t, s)
		} else if impl.Wrap(s, true) != "" || impl.Wrap(s, false) != "" {
			t.Errorf("a text of %d bytes is wrapped", len(s))
		}
	})
}
