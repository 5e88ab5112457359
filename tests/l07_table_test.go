package tests

import (
	"encoding/binary"
	"fmt"
	"math"
	"math/rand"
	"slices"
	"strings"
	"testing"

	"loop.example/g00813/impl"
)

var wrongConfigs = []impl.Config{
	{}, {Every: 1}, {Size: 1}, {Every: 0, Size: 1}, {Every: 1, Size: 0}, {Every: 17, Size: 1}, {Every: 1, Size: 51}, {Every: 17, Size: 51}, {Every: 16, Size: 51}, {Every: 17, Size: 50}, {Every: 50, Size: 16},
	{Every: -1, Size: 1}, {Every: 1, Size: -1}, {Every: -16, Size: -50}, {Every: 256 + 1, Size: 1}, {Every: 1, Size: 256 + 1}, {Every: 1<<32 + 1, Size: 1}, {Every: 1, Size: 1<<32 + 1},
	{Every: math.MaxInt64, Size: 1}, {Every: 1, Size: math.MaxInt64}, {Every: math.MinInt64, Size: 1}, {Every: 1, Size: math.MinInt64}, {Pack: true}, {Every: 17, Size: 50, Pack: true}, {Every: 16, Size: 51, Pack: true},
}

// edgeConfigs are right ones with Every and Size at their ends and between, packed and not.
func edgeConfigs() []impl.Config {
	var all []impl.Config
	for _, every := range []int{1, 2, 15, 16} {
		for _, size := range []int{1, 2, 7, 49, 50} {
			all = append(all, impl.Config{Every: every, Size: size}, impl.Config{Every: every, Size: size, Pack: true})
		}
	}
	return all
}

func fourBytes(n int) string {
	return string(binary.LittleEndian.AppendUint32(nil, uint32(n)))
}

// indexedOf is what an index has of a block, with any key, place and length.
func indexedOf(key string, place, length int) string {
	return varByWord(len(key)) + key + varByWord(place) + varByWord(length)
}

// A tableText is a table in its parts, of which a test may change any before
// they are put together with a foot that tells where they stand.
type tableText struct {
	blocks  []string // wrapped
	keys    []string // of the last Cell of each block
	entries string   // the index as it is ahead of Wrap
	index   string
	filter  string
	numbers [8]int
	magic   string
}

// partsByWord are the parts of PutTable by the words of the document alone, of
// any Cells and any Config whose Every and Size are above 0.
func partsByWord(list []impl.Cell, c impl.Config) tableText {
	var made tableText
	for from := 0; from < len(list); from += c.Size {
		part := list[from:min(from+c.Size, len(list))]
		last := part[len(part)-1]
		made.blocks = append(made.blocks, wrappedByWord(blockByWord(part, c.Every), c.Pack))
		made.keys = append(made.keys, keyByWord(last.Row, last.Col, last.At))
	}
	var columns []string
	for _, x := range list {
		columns = append(columns, x.Row+"\x00"+x.Col)
	}
	made.filter = wrappedByWord(filterByWord(columns, sizeByWord(len(columns))), false)
	made.numbers[4], made.numbers[5], made.numbers[6] = len(list), c.Every, c.Size
	if c.Pack {
		made.numbers[7] = 1
	}
	made.magic = "SHELF1"
	return made.indexed(c.Pack)
}

// indexed has the index of its blocks and keys, and a foot for it.
func (made tableText) indexed(pack bool) tableText {
	made.entries = ""
	place := 0
	for i, block := range made.blocks {
		made.entries += indexedOf(made.keys[i], place, len(block))
		place += len(block)
	}
	made.index = wrappedByWord(made.entries, pack)
	return made.footed()
}

// withEntries has an index of any text, and a foot for it.
func (made tableText) withEntries(entries string, pack bool) tableText {
	made.index = wrappedByWord(entries, pack)
	return made.footed()
}

func (made tableText) withFilter(filter string) tableText {
	made.filter = filter
	return made.footed()
}

func (made tableText) withNumber(i, n int) tableText {
	made.numbers[i] = n
	return made
}

// footed tells in its foot where the index and the filter stand.
func (made tableText) footed() tableText {
	place := len(strings.Join(made.blocks, ""))
	made.numbers[0], made.numbers[1] = place, len(made.index)
	made.numbers[2], made.numbers[3] = place+len(made.index), len(made.filter)
	return made
}

func (made tableText) foot() string {
	foot := ""
	for _, n := range made.numbers {
		foot += fourBytes(n)
	}
	return foot + made.magic
}

func (made tableText) text() string {
	return strings.Join(made.blocks, "") + made.index + made.filter + made.foot()
}

func tableByWord(list []impl.Cell, c impl.Config) string { return partsByWord(list, c).text() }

// shortCells are so many in few columns, with the shortest names.
func shortCells(count int) []impl.Cell {
	return risingCells([]string{"a", "b", "c"}, []string{"x", "y"}, fallingTimes(10))[:count]
}

// mixedCells are those at which the texts that are no tables are made.
func mixedCells() []impl.Cell {
	return []impl.Cell{valueOf("a", "x", 700, "v1"), goneAt("a", "x", 5), valueOf("a", "y", 5, ""), valueOf("ab", "x", 5, "aaaaaaaaaaaaaaaa"), valueOf("b", "x", 5, "w")}
}

func checkTable(t *testing.T, list []impl.Cell, c impl.Config) string {
	t.Helper()
	want := tableByWord(list, c)
	if got := impl.PutTable(list, c); got != want {
		t.Fatalf("PutTable(%.200q, %+v) = %.400x, want %.400x", fmt.Sprint(list), c, got, want)
	}
	if got, config, code := impl.GetTable(want); !slices.Equal(got, list) || config != c || code != impl.TaOk {
		t.Fatalf("GetTable(%.400x) = %+v, %+v, %d, want %+v, %+v", want, got, config, code, list, c)
	}
	return want
}

func checkNoTable(t *testing.T, why string, s string, want int) {
	t.Helper()
	if list, c, code := impl.GetTable(s); len(list) != 0 || c != (impl.Config{}) || code != want {
		t.Errorf("%s: GetTable(%.400x) = %+v, %+v, %d, want nothing and %d", why, s, list, c, code, want)
	}
	for _, column := range [][2]string{{"a", "x"}, {"", ""}} {
		if x, ok := impl.TableGet(s, column[0], column[1], 1000000000); ok || x != (impl.Cell{}) {
			t.Errorf("%s: TableGet in %.400x tells %+v, %v", why, s, x, ok)
		}
		if impl.TableMay(s, column[0], column[1]) {
			t.Errorf("%s: TableMay of %.400x", why, s)
		}
	}
	if list := impl.TableScan(s, "", "\xff"); len(list) != 0 {
		t.Errorf("%s: TableScan of %.400x tells %+v", why, s, list)
	}
}

func checkNoTablePut(t *testing.T, why string, list []impl.Cell, c impl.Config) {
	t.Helper()
	if got := impl.PutTable(list, c); got != "" {
		t.Errorf("%s: PutTable(%.200q, %+v) = %.200x, want nothing", why, fmt.Sprint(list), c, got)
	}
}

func TestTableLimits(t *testing.T) {
	if impl.MaxTable != 60 || impl.Magic != "SHELF1" || impl.TaOk != 0 || impl.TaFoot != 1 || impl.TaForm != 2 {
		t.Errorf("MaxTable, Magic and codes = %d, %q, %d, %d, %d", impl.MaxTable, impl.Magic, impl.TaOk, impl.TaFoot, impl.TaForm)
	}
}

func TestConfigOk(t *testing.T) {
	for every := -3; every <= 60; every++ {
		for size := -3; size <= 60; size++ {
			want := every >= 1 && every <= 16 && size >= 1 && size <= 50
			for _, pack := range []bool{false, true} {
				if got := impl.ConfigOk(impl.Config{Every: every, Size: size, Pack: pack}); got != want {
					t.Errorf("ConfigOk of Every %d, Size %d, Pack %v = %v", every, size, pack, got)
				}
			}
		}
	}
	for _, c := range wrongConfigs {
		if impl.ConfigOk(c) {
			t.Errorf("%+v is right", c)
		}
	}
}

func TestTablesToTheByte(t *testing.T) {
	list := []impl.Cell{valueOf("a", "x", 7, "v1"), goneAt("a", "x", 5), valueOf("b", "x", 5, "")}
	const seven, five = "\x3b\x9a\xc9\xf9", "\x3b\x9a\xc9\xfb"
	first := sealedByWord("\x00\x08\x04a\x00x\x00" + seven + "v1" + "\x07\x01\x01\xfb" + "\x00\x00\x01\x00" + "\x00")
	second := sealedByWord("\x00\x08\x00b\x00x\x00" + five + "\x00\x00\x01\x00" + "\x00")
	index := sealedByWord("\x08a\x00x\x00" + five + "\x00\x1a" + "\x08b\x00x\x00" + five + "\x1a\x14" + "\x00")
	filter := sealedByWord(filterByWord([]string{"a\x00x", "a\x00x", "b\x00x"}, 4) + "\x00")
	foot := "\x2e\x00\x00\x00" + "\x1b\x00\x00\x00" + "\x49\x00\x00\x00" + "\x09\x00\x00\x00" + "\x03\x00\x00\x00" + "\x02\x00\x00\x00" + "\x02\x00\x00\x00" + "\x00\x00\x00\x00" + "SHELF1"
	want := first + second + index + filter + foot
	if got := impl.PutTable(list, impl.Config{Every: 2, Size: 2}); got != want || len(want) != 120 || impl.Crc(want) != 2965517244 {
		t.Errorf("PutTable = %x, want %x", got, want)
	}
	checkTable(t, list, impl.Config{Every: 2, Size: 2})
	packed := checkTable(t, list, impl.Config{Every: 2, Size: 2, Pack: true})
	if len(packed) != 117 || impl.Crc(packed) != 673864482 {
		t.Errorf("packed %x", packed)
	}
}

func TestTablesOfNothing(t *testing.T) {
	for _, c := range edgeConfigs() {
		pack := "\x00"
		if c.Pack {
			pack = "\x01"
		}
		want := impl.Sealed("\x00") + impl.Sealed("\x00\x00") + "\x00\x00\x00\x00\x05\x00\x00\x00\x05\x00\x00\x00\x06\x00\x00\x00\x00\x00\x00\x00" +
			fourBytes(c.Every) + fourBytes(c.Size) + pack + "\x00\x00\x00" + "SHELF1"
		for _, list := range [][]impl.Cell{nil, {}} {
			if got := impl.PutTable(list, c); got != want || len(got) != 49 {
				t.Errorf("PutTable of nothing, %+v = %x, want %x", c, got, want)
			}
		}
		s := checkTable(t, nil, c)
		for _, name := range []string{"", "\x00", "a", "x", longestName, "\xff"} {
			if impl.TableMay(s, name, name) || impl.TableMay(s, name, "") || impl.TableMay(s, "", name) {
				t.Errorf("a table of nothing may have %q", name)
			}
			if x, ok := impl.TableGet(s, name, name, 1000000000); ok || x != (impl.Cell{}) {
				t.Errorf("a table of nothing has %+v, %v", x, ok)
			}
			if got := impl.TableScan(s, "", name); len(got) != 0 {
				t.Errorf("TableScan of a table of nothing = %+v", got)
			}
		}
	}
	if impl.Crc(impl.PutTable(nil, impl.Config{Every: 1, Size: 1})) != 1775784509 {
		t.Error("another table of nothing")
	}
}

func TestTablesOfOneCell(t *testing.T) {
	for _, c := range edgeConfigs() {
		for _, x := range []impl.Cell{
			valueOf("a", "x", 7, "v"), valueOf("a", "x", 7, ""), goneAt("a", "x", 7), valueOf("a", "x", 0, "\x00"), valueOf("a", "x", 1000000000, "\xff"), goneAt("!", "~", 0),
			valueOf(longestName, longestName, 5, strings.Repeat("v", 30)), valueOf("!", "~", 5, risingBytes(113, 30)),
		} {
			checkTable(t, []impl.Cell{x}, c)
		}
	}
}

func TestTablesOfAsManyAsSizeAndMore(t *testing.T) {
	for _, c := range edgeConfigs() {
		for _, count := range []int{c.Size - 1, c.Size, c.Size + 1, 2*c.Size - 1, 2 * c.Size, 2*c.Size + 1, 59, 60} {
			if count > 60 {
				continue
			}
			checkTable(t, shortCells(count), c)
		}
	}
}

func TestTablesOfEachConfig(t *testing.T) {
	list := mixedCells()
	seen := map[string]impl.Config{}
	for every := 1; every <= 16; every++ {
		for size := 1; size <= 50; size++ {
			for _, pack := range []bool{false, true} {
				c := impl.Config{Every: every, Size: size, Pack: pack}
				s := checkTable(t, list, c)
				if other, is := seen[s]; is {
					t.Errorf("one table by %+v and by %+v", c, other)
				}
				seen[s] = c
			}
		}
	}
}

func TestTheFootOfATable(t *testing.T) {
	for _, c := range edgeConfigs() {
		for _, count := range []int{0, 1, 5, 60} {
			s := impl.PutTable(shortCells(count), c)
			numbers := make([]int, 8)
			for i := range numbers {
				numbers[i] = int(binary.LittleEndian.Uint32([]byte(s[len(s)-38+4*i:])))
			}
			packed := 0
			if c.Pack {
				packed = 1
			}
			if s[len(s)-6:] != "SHELF1" || !slices.Equal(numbers[4:], []int{count, c.Every, c.Size, packed}) {
				t.Errorf("%d cells by %+v: foot %v, %q", count, c, numbers, s[len(s)-6:])
			}
			if numbers[0]+numbers[1] != numbers[2] || numbers[2]+numbers[3] != len(s)-38 {
				t.Errorf("%d cells by %+v: the parts don't stand one behind the other: %v", count, c, numbers)
			}
			made := partsByWord(shortCells(count), c)
			index, code := impl.Unwrap(s[numbers[0]:numbers[2]])
			if index != made.entries || code != impl.BlOk {
				t.Errorf("%d cells by %+v: index %x, %d, want %x", count, c, index, code, made.entries)
			}
			if filter := s[numbers[2] : len(s)-38]; filter != made.filter || filter[len(filter)-5] != 0 {
				t.Errorf("%d cells by %+v: filter %x, want %x", count, c, filter, made.filter)
			}
		}
	}
}

func TestTablesOfTooManyCells(t *testing.T) {
	many := risingCells([]string{"a", "b", "c"}, []string{"x", "y"}, fallingTimes(100))
	for _, c := range edgeConfigs() {
		checkTable(t, many[:60], c)
		for _, count := range []int{61, 62, 64, 100, 256 + 60, 600} {
			checkNoTablePut(t, "too many", many[:count], c)
		}
		checkNoTable(t, "too many", tableByWord(many[:61], c), impl.TaForm)
	}
	checkNoTable(t, "too many", tableByWord(many[:100], impl.Config{Every: 16, Size: 50}), impl.TaForm)
}

func TestTablesOfWrongCells(t *testing.T) {
	for _, x := range wrongLists() {
		// By a Size of 1 each block may be right, but all of them aren't rising.
		for _, config := range edgeConfigs() {
			checkNoTablePut(t, x.why, x.list, config)
			checkNoTable(t, x.why, tableByWord(x.list, config), impl.TaForm)
		}
	}
}

func TestTablesByWrongConfigs(t *testing.T) {
	for _, c := range wrongConfigs {
		for _, list := range [][]impl.Cell{nil, shortCells(1), shortCells(60), mixedCells()} {
			checkNoTablePut(t, "a wrong config", list, c)
			if c.Every >= 1 && c.Every < 1<<32 && c.Size >= 1 && c.Size < 1<<32 { // a foot has room for it
				checkNoTable(t, "a wrong config", tableByWord(list, c), impl.TaForm)
			}
		}
	}
}

func TestTablesThatWrapRefuses(t *testing.T) {
	long := largestCells(60)
	// The index of all 60 by ones has more than 2000 bytes; so has a block of 50.
	for _, pack := range []bool{false, true} {
		for _, every := range []int{1, 16} {
			for _, x := range []struct {
				why         string
				count, size int
			}{
				{"an index too long", 60, 1}, {"an index too long", 49, 1}, {"a block too long", 50, 50}, {"a block too long", 60, 40}, {"the last block isn't too long", 52, 50},
			} {
				c := impl.Config{Every: every, Size: x.size, Pack: pack}
				checkNoTablePut(t, x.why, long[:x.count], c)
				checkNoTable(t, x.why, tableByWord(long[:x.count], c), impl.TaForm)
			}
			for _, size := range []int{2, 10, 20} {
				checkTable(t, long, impl.Config{Every: every, Size: size, Pack: pack})
			}
		}
	}
}

// cellsOfBlock are so many in one block of that many bytes by 1.
func cellsOfBlock(count, bytes int) []impl.Cell {
	list := largestCells(count)
	for i := 0; len(blockByWord(list, 1)) > bytes; i = (i + 1) % count {
		list[i].Value = list[i].Value[1:]
	}
	return list
}

func TestTablesWithBlocksOfMaxPlainBytes(t *testing.T) {
	for _, pack := range []bool{false, true} {
		c := impl.Config{Every: 1, Size: 50, Pack: pack}
		for bytes := 1999; bytes <= 2002; bytes++ {
			list := cellsOfBlock(35, bytes)
			if got := len(blockByWord(list, 1)); got != bytes {
				t.Fatalf("a block of %d bytes, not of %d", got, bytes)
			}
			if bytes <= 2000 {
				checkTable(t, list, c)
				continue
			}
			checkNoTablePut(t, "a block too long", list, c)
			checkNoTable(t, "a block too long", tableByWord(list, c), impl.TaForm)
		}
	}
}

// cellsOfIndex are 48 that have an index of that many bytes by 1 each.
func cellsOfIndex(bytes int, c impl.Config) []impl.Cell {
	list := largestCells(48)
	for i := 0; len(partsByWord(list, c).entries) > bytes; i++ {
		list[i].Col = list[i].Col[1:]
	}
	return list
}

func TestTablesWithIndexesOfMaxPlainBytes(t *testing.T) {
	for _, pack := range []bool{false, true} {
		c := impl.Config{Every: 1, Size: 1, Pack: pack}
		for bytes := 1999; bytes <= 2002; bytes++ {
			list := cellsOfIndex(bytes, c)
			if got := len(partsByWord(list, c).entries); got != bytes {
				t.Fatalf("an index of %d bytes, not of %d", got, bytes)
			}
			if bytes <= 2000 {
				checkTable(t, list, c)
				continue
			}
			checkNoTablePut(t, "an index too long", list, c)
			checkNoTable(t, "an index too long", tableByWord(list, c), impl.TaForm)
		}
	}
}

func TestDrawnTablesComeBack(t *testing.T) {
	draw := rand.New(rand.NewSource(16))
	configs := edgeConfigs()
	for range 150 {
		list, c := drawnCells(draw, draw.Intn(21)), configs[draw.Intn(len(configs))]
		checkTable(t, list, c)
	}
}

func TestTextsWithoutAFoot(t *testing.T) {
	for _, s := range []string{
		"", "a", "SHELF1", "SHELF", "\x00", strings.Repeat("\x00", 31) + "SHELF1", strings.Repeat("\x00", 37), strings.Repeat("\x00", 38), strings.Repeat("\x00", 100000), strings.Repeat("a", 38),
		strings.Repeat("\x00", 32) + "shelf1", strings.Repeat("\x00", 32) + "SHELF2", strings.Repeat("\x00", 32) + "SHELF", "SHELF1" + strings.Repeat("\x00", 32), strings.Repeat("\x00", 32) + "SHELF1\n",
	} {
		checkNoTable(t, "no foot", s, impl.TaFoot)
	}
	for length := 6; length < 38; length++ {
		checkNoTable(t, "a foot too short", strings.Repeat("\x00", length-6)+"SHELF1", impl.TaFoot)
	}
	for _, s := range []string{strings.Repeat("\x00", 32), strings.Repeat("\xff", 32), strings.Repeat("\x00", 33), strings.Repeat("\x00\x01\x00\x00", 8), strings.Repeat("\x80", 100000), strings.Repeat("SHELF1", 20)} {
		checkNoTable(t, "a foot of no table", s+"SHELF1", impl.TaForm)
	}
	s := impl.PutTable(nil, impl.Config{Every: 1, Size: 1})
	checkNoTable(t, "the foot alone", s[11:], impl.TaForm)
	checkNoTable(t, "the foot and the filter alone", s[5:], impl.TaForm)
}

func TestTablesThatAreCutOrLonger(t *testing.T) {
	for _, c := range []impl.Config{{Every: 1, Size: 1}, {Every: 2, Size: 2, Pack: true}, {Every: 16, Size: 50}} {
		for _, list := range [][]impl.Cell{nil, mixedCells()} {
			s := impl.PutTable(list, c)
			for end := range len(s) {
				checkNoTable(t, "cut off", s[:end], impl.TaFoot)
			}
			for begin := 1; begin < len(s); begin++ {
				code := impl.TaForm
				if len(s)-begin < 38 {
					code = impl.TaFoot
				}
				checkNoTable(t, "cut off ahead", s[begin:], code)
			}
			for at := 0; at+6 < len(s); at++ {
				checkNoTable(t, "a byte is left out", s[:at]+s[at+1:], impl.TaForm)
				checkNoTable(t, "a byte is told twice", s[:at+1]+s[at:], impl.TaForm)
			}
			for b := range 256 {
				sign := string([]byte{byte(b)})
				checkNoTable(t, "a byte too many", s+sign, impl.TaFoot)
				checkNoTable(t, "a byte too many ahead", sign+s, impl.TaForm)
			}
			checkNoTable(t, "twice", s+s, impl.TaForm)
			checkNoTable(t, "another foot behind", s+s[len(s)-38:], impl.TaForm)
		}
	}
}

func TestTablesOfWhichAByteWasChanged(t *testing.T) {
	bits := []int{1, 2, 4, 8, 16, 32, 64, 128, 255}
	for _, c := range []impl.Config{{Every: 1, Size: 1}, {Every: 2, Size: 2, Pack: true}, {Every: 16, Size: 50}, {Every: 2, Size: 3}} {
		for _, list := range [][]impl.Cell{nil, mixedCells()[:1], mixedCells()} {
			s := checkTable(t, list, c)
			for i := range len(s) {
				for _, turn := range bits {
					checkChanged(t, list, s, i, turn)
				}
			}
		}
	}
	list := mixedCells()[:3]
	s := checkTable(t, list, impl.Config{Every: 1, Size: 2})
	for i := range len(s) {
		for turn := 1; turn < 256; turn++ {
			checkChanged(t, list, s, i, turn)
		}
	}
}

func checkChanged(t *testing.T, list []impl.Cell, s string, i, turn int) {
	t.Helper()
	changed := []byte(s)
	changed[i] ^= byte(turn)
	switch {
	case i < len(s)-38:
		checkNoTable(t, "changed ahead of its foot", string(changed), impl.TaForm)
	case i < len(s)-6:
		checkChangedFoot(t, list, string(changed))
	default:
		checkNoTable(t, "another magic", string(changed), impl.TaFoot)
	}
}

// checkChangedFoot takes the text only where it is the table of the same Cells
// by the Config that its foot tells now: by two of these Cells may stand alike.
func checkChangedFoot(t *testing.T, list []impl.Cell, s string) {
	t.Helper()
	number := func(i int) int { return int(binary.LittleEndian.Uint32([]byte(s[len(s)-38+4*i:]))) }
	c := impl.Config{Every: number(5), Size: number(6), Pack: number(7) == 1}
	if c.Every >= 1 && c.Every <= 16 && c.Size >= 1 && c.Size <= 50 && tableByWord(list, c) == s {
		checkTable(t, list, c)
		return
	}
	checkNoTable(t, "a changed foot", s, impl.TaForm)
}

func TestFeetThatTellOtherNumbers(t *testing.T) {
	// Of five Cells by 3, no other Every, Size or Pack makes the same parts as these do.
	for _, c := range []impl.Config{{Every: 2, Size: 3}, {Every: 2, Size: 3, Pack: true}} {
		list := mixedCells()
		made := partsByWord(list, c)
		for i, right := range made.numbers {
			for _, n := range []int{0, 1, 2, 3, 4, 5, 6, 16, 17, 50, 51, 255, 256, right - 1, right + 1, right + 256, 1 << 16, right + 1<<16, right + 1<<24, 1<<31 - 1, 1 << 31, 1<<32 - 1} {
				if n != right && n >= 0 {
					checkNoTable(t, fmt.Sprintf("number %d is %d, not %d", i, n, right), made.withNumber(i, n).text(), impl.TaForm)
				}
			}
		}
		made.numbers[0], made.numbers[1], made.numbers[2], made.numbers[3] = made.numbers[2], made.numbers[3], made.numbers[0], made.numbers[1]
		checkNoTable(t, "the filter for the index", made.text(), impl.TaForm)
	}
	// With nothing in it a table is right by each right Config, and by no other.
	made := partsByWord(nil, impl.Config{Every: 1, Size: 1})
	for n := range 300 {
		for i, most := range map[int]int{5: 16, 6: 50} {
			if s := made.withNumber(i, n).text(); n < 1 || n > most {
				checkNoTable(t, "of nothing", s, impl.TaForm)
			} else if list, c, code := impl.GetTable(s); len(list) != 0 || code != impl.TaOk || i == 5 && c != (impl.Config{Every: n, Size: 1}) || i == 6 && c != (impl.Config{Every: 1, Size: n}) {
				t.Errorf("GetTable(%x) = %+v, %+v, %d", s, list, c, code)
			}
		}
		if s := made.withNumber(7, n).text(); n > 1 {
			checkNoTable(t, "of nothing", s, impl.TaForm)
		} else if _, c, code := impl.GetTable(s); code != impl.TaOk || c != (impl.Config{Every: 1, Size: 1, Pack: n == 1}) {
			t.Errorf("GetTable(%x) tells %+v, %d", s, c, code)
		}
		if n > 0 {
			checkNoTable(t, "of nothing", made.withNumber(4, n).text(), impl.TaForm)
		}
	}
}

func TestTablesOfOtherBlocks(t *testing.T) {
	list := mixedCells()
	for _, pack := range []bool{false, true} {
		c := impl.Config{Every: 2, Size: 2, Pack: pack}
		whole := partsByWord(list, c)
		// cut has blocks of those Cells each, by an Every, and all else to them.
		cut := func(every int, parts ...[]impl.Cell) tableText {
			made := whole
			made.blocks, made.keys = nil, nil
			for _, part := range parts {
				key := ""
				if len(part) > 0 {
					last := part[len(part)-1]
					key = keyByWord(last.Row, last.Col, last.At)
				}
				made.blocks = append(made.blocks, wrappedByWord(blockByWord(part, every), pack))
				made.keys = append(made.keys, key)
			}
			return made.indexed(pack)
		}
		if cut(2, list[:2], list[2:4], list[4:]).text() != checkTable(t, list, c) {
			t.Fatal("what the texts are made of is no table")
		}
		for _, x := range []struct {
			why  string
			made tableText
		}{
			{"blocks of another size", cut(2, list)}, {"blocks of another size", cut(2, list[:3], list[3:])}, {"blocks of another size", cut(2, list[:1], list[1:2], list[2:3], list[3:4], list[4:])},
			{"fewer ahead", cut(2, list[:1], list[1:3], list[3:])}, {"fewer between", cut(2, list[:2], list[2:3], list[3:])}, {"more behind", cut(2, list[:2], list[2:])},
			{"blocks by another every", cut(1, list[:2], list[2:4], list[4:])}, {"blocks by another every", cut(16, list).withNumber(6, 5)},
			{"a block of nothing behind", cut(2, list[:2], list[2:4], list[4:], nil)}, {"a block of nothing ahead", cut(2, nil, list[:2], list[2:4], list[4:])}, {"a block of nothing between", cut(2, list[:2], nil, list[2:4], list[4:])},
			{"a block twice", cut(2, list[:2], list[:2], list[2:4], list[4:])}, {"a block that isn't there", cut(2, list[:2], list[2:4])}, {"a block that isn't there", cut(2, list[2:4], list[4:])}, {"no blocks", cut(2)},
			{"blocks out of order", cut(2, list[2:4], list[:2], list[4:])}, {"blocks out of order", cut(2, list[4:], list[2:4], list[:2])},
			{"other cells", cut(2, list[:2], list[2:4], []impl.Cell{valueOf("b", "y", 5, "w")})}, {"fewer cells", cut(2, list[:2], list[2:4]).withNumber(4, 4)},
		} {
			checkNoTable(t, x.why, x.made.text(), impl.TaForm)
		}
		// Of what a filter isn't told: another value makes another right table.
		changed := slices.Clone(list)
		changed[4].Value = "x"
		made := cut(2, changed[:2], changed[2:4], changed[4:])
		if made.text() != checkTable(t, changed, c) {
			t.Error("a table with another value is none")
		}
	}
}

func TestTablesOfBlocksThatAreNone(t *testing.T) {
	list := mixedCells()
	for _, pack := range []bool{false, true} {
		c := impl.Config{Every: 2, Size: 2, Pack: pack}
		whole := partsByWord(list, c)
		for i := range whole.blocks {
			right, _ := impl.Unwrap(whole.blocks[i])
			for _, block := range []string{
				"", "\x00", right, right + "\x00", impl.Sealed(right), impl.Sealed(right + "\x02"), impl.Sealed(right + "\x01"), wrappedByWord("", pack), wrappedByWord("\x00\x00", pack), wrappedByWord(right+"\x00", pack),
				wrappedByWord(right[1:], pack), wrappedByWord(wrappedByWord(right, pack), pack), wrappedByWord(strings.Repeat("a", 2001), pack), whole.blocks[i] + whole.blocks[i], whole.blocks[i] + "\x00", "\x00" + whole.blocks[i], whole.blocks[i][1:],
			} {
				made := whole
				made.blocks = slices.Clone(whole.blocks)
				made.blocks[i] = block
				checkNoTable(t, "a block that is none", made.indexed(pack).text(), impl.TaForm)
			}
		}
	}
}

func TestTablesOfOtherIndexes(t *testing.T) {
	list := mixedCells()
	all := strings.Repeat("\xff", 8) + "\x3f" // MaxVar
	for _, pack := range []bool{false, true} {
		c := impl.Config{Every: 2, Size: 2, Pack: pack}
		whole := partsByWord(list, c)
		keys, sizes := whole.keys, []int{len(whole.blocks[0]), len(whole.blocks[1]), len(whole.blocks[2])}
		ends := []int{0, sizes[0], sizes[0] + sizes[1], sizes[0] + sizes[1] + sizes[2]}
		first, second, third := indexedOf(keys[0], 0, sizes[0]), indexedOf(keys[1], ends[1], sizes[1]), indexedOf(keys[2], ends[2], sizes[2])
		if first+second+third != whole.entries || whole.withEntries(first+second+third, pack).text() != checkTable(t, list, c) {
			t.Fatal("what the texts are made of is no table")
		}
		head := keyByWord("a", "x", 700)
		for _, x := range []struct{ why, entries string }{
			{"empty", ""}, {"one too few", first + second}, {"one too few", second + third}, {"one too few", first + third}, {"one too many", first + second + third + third}, {"one too many", first + first + second + third},
			{"one too many", first + second + third + indexedOf("", ends[3], 0)}, {"one too many", first + second + third + indexedOf(keys[2], ends[3], len(whole.index))}, {"out of order", second + first + third}, {"out of order", third + second + first},
			{"another place", indexedOf(keys[0], 1, sizes[0]) + second + third}, {"another place", first + indexedOf(keys[1], ends[1]-1, sizes[1]) + third}, {"another place", first + indexedOf(keys[1], ends[1]+1, sizes[1]) + third},
			{"the place of another", first + indexedOf(keys[1], 0, sizes[1]) + third}, {"the place of another", first + indexedOf(keys[1], ends[2], sizes[1]) + third}, {"places that are lengths", indexedOf(keys[0], sizes[0], 0) + second + third},
			{"a place beyond the end", first + second + indexedOf(keys[2], 100000, sizes[2])}, {"a place beyond the end", "\x08" + keys[0] + all + "\x01" + second + third}, {"a length beyond the end", first + second + indexedOf(keys[2], ends[2], 100000)},
			{"a length beyond the end", "\x08" + keys[0] + "\x00" + all + second + third}, {"both beyond the end", "\x08" + keys[0] + all + all + second + third},
			{"another length", indexedOf(keys[0], 0, sizes[0]-1) + second + third}, {"another length", indexedOf(keys[0], 0, sizes[0]+1) + second + third}, {"another length", indexedOf(keys[0], 0, ends[2]) + third}, {"no length", indexedOf(keys[0], 0, 0) + second + third},
			{"another key", indexedOf(head, 0, sizes[0]) + second + third}, {"another key", indexedOf(keys[1], 0, sizes[0]) + second + third}, {"another key", first + second + indexedOf(keyByWord("b", "x", 6), ends[2], sizes[2])},
			{"another key", first + second + indexedOf(keyByWord("zz", "x", 5), ends[2], sizes[2])}, {"no key", indexedOf("", 0, sizes[0]) + second + third}, {"what is no key", indexedOf("aaaaaaaa", 0, sizes[0]) + second + third},
			{"a key that is cut", indexedOf(keys[0][:7], 0, sizes[0]) + second + third}, {"a key that is longer", indexedOf(keys[0]+"\x00", 0, sizes[0]) + second + third}, {"a row alone", indexedOf("a", 0, sizes[0]) + second + third},
			{"a key beyond the end", "\x7f" + keys[0]}, {"a key beyond the end", all + keys[0] + "\x00" + varByWord(sizes[0])},
			{"a byte too many", first + second + third + "\x00"}, {"a byte too many ahead", "\x00" + first + second + third}, {"bytes too many", first + second + third + "\x00\x00\x00"}, {"cut off", whole.entries[:len(whole.entries)-1]}, {"cut off ahead", whole.entries[1:]},
			{"a number with a byte too many", "\x88\x00" + first[1:] + second + third}, {"a place with a byte too many", "\x08" + keys[0] + "\x80\x00" + varByWord(sizes[0]) + second + third},
			{"a length with a byte too many", "\x08" + keys[0] + "\x00" + string([]byte{byte(128 + sizes[0])}) + "\x00" + second + third}, {"a number that doesn't end", "\x80"}, {"numbers that don't end", strings.Repeat("\xff", 2000)}, {"noughts", strings.Repeat("\x00", 1998)},
		} {
			checkNoTable(t, x.why, whole.withEntries(x.entries, pack).text(), impl.TaForm)
		}
		for _, index := range []string{"", "\x00", whole.entries, impl.Sealed(whole.entries), impl.Sealed(whole.entries + "\x02"), impl.Sealed(whole.entries + "\x01"), whole.index + "\x00", whole.index + whole.index, wrappedByWord(whole.index, pack)} {
			made := whole
			made.index = index
			checkNoTable(t, "an index that is none", made.footed().text(), impl.TaForm)
		}
	}
}

func TestTablesOfOtherFilters(t *testing.T) {
	list := mixedCells()
	for _, pack := range []bool{false, true} {
		whole := partsByWord(list, impl.Config{Every: 2, Size: 2, Pack: pack})
		right := []string{"a\x00x", "a\x00x", "a\x00y", "ab\x00x", "b\x00x"}
		if wrappedByWord(filterByWord(right, 7), false) != whole.filter {
			t.Fatal("what the texts are made of is no filter")
		}
		for _, x := range []struct{ why, filter string }{
			{"empty", ""}, {"of nothing", filterByWord(nil, 1)}, {"of nothing", noughts(7)}, {"all ones", ones(7)}, {"of other cells", filterByWord([]string{"a\x00x", "a\x00x", "a\x00y", "ab\x00x", "b\x00y"}, 7)},
			{"of other cells", filterByWord(manyKeys("key", 5), 7)}, {"of fewer cells", filterByWord(right[:4], 7)}, {"of fewer cells", filterByWord(right[:4], 5)}, {"of each column once", filterByWord(right[1:], 5)},
			{"of one more", filterByWord(append(slices.Clone(right), "z\x00z"), 8)}, {"longer", filterByWord(right, 8)}, {"longer", filterByWord(right, 7) + "\x00"}, {"shorter", filterByWord(right, 6)},
			{"of rows alone", filterByWord([]string{"a", "a", "a", "ab", "b"}, 7)}, {"without a byte 0", filterByWord([]string{"ax", "ax", "ay", "abx", "bx"}, 7)}, {"of cols ahead", filterByWord([]string{"x\x00a", "x\x00a", "y\x00a", "x\x00ab", "x\x00b"}, 7)},
			{"of keys", filterByWord([]string{keyByWord("a", "x", 700), keyByWord("a", "x", 5), keyByWord("a", "y", 5), keyByWord("ab", "x", 5), keyByWord("b", "x", 5)}, 7)},
		} {
			checkNoTable(t, x.why, whole.withFilter(wrappedByWord(x.filter, false)).text(), impl.TaForm)
		}
		for place := range 56 {
			checkNoTable(t, "one bit", whole.withFilter(wrappedByWord(withTurned(filterByWord(right, 7), place), false)).text(), impl.TaForm)
		}
		plain := filterByWord(right, 7)
		for _, filter := range []string{"", "\x00", plain, impl.Sealed(plain), impl.Sealed(plain + "\x02"), impl.Sealed(plain + "\x01"), whole.filter + "\x00", whole.filter + whole.filter, whole.index} {
			checkNoTable(t, "a filter that is none", whole.withFilter(filter).text(), impl.TaForm)
		}
	}
}

func TestFiltersOfTablesAreNotPacked(t *testing.T) {
	list := risingCells([]string{"a"}, []string{"x"}, fallingTimes(60))
	for _, pack := range []bool{false, true} {
		c := impl.Config{Every: 4, Size: 20, Pack: pack}
		checkTable(t, list, c)
		whole := partsByWord(list, c)
		filter, code := impl.Unwrap(whole.filter)
		packed := wrappedByWord(filter, true)
		if code != impl.BlOk || len(packed) >= len(whole.filter) {
			t.Fatalf("packing makes the filter %x no shorter", filter)
		}
		checkNoTable(t, "a packed filter", whole.withFilter(packed).text(), impl.TaForm)
	}
}

func TestPartsThatArePackedWhereTheFootTellsOtherwise(t *testing.T) {
	list := shortCells(60)
	plain, packed := partsByWord(list, impl.Config{Every: 4, Size: 20}), partsByWord(list, impl.Config{Every: 4, Size: 20, Pack: true})
	for i := range plain.blocks {
		if plain.blocks[i] == packed.blocks[i] {
			t.Fatal("packing makes a block no shorter")
		}
		for _, made := range []struct{ whole, other tableText }{{plain, packed}, {packed, plain}} {
			mixed := made.whole
			mixed.blocks = slices.Clone(mixed.blocks)
			mixed.blocks[i] = made.other.blocks[i]
			checkNoTable(t, "a block that is packed otherwise", mixed.indexed(mixed.numbers[7] == 1).text(), impl.TaForm)
		}
	}
	for i, made := range []tableText{plain, packed} {
		if made.withNumber(7, i).text() != checkTable(t, list, impl.Config{Every: 4, Size: 20, Pack: i == 1}) {
			t.Fatal("what the texts are made of is no table")
		}
		checkNoTable(t, "all is packed otherwise", made.withNumber(7, 1-i).text(), impl.TaForm)
		if other := made.indexed(i == 0); other.index == made.index {
			t.Fatal("packing makes the index no shorter")
		} else {
			checkNoTable(t, "an index that is packed otherwise", other.text(), impl.TaForm)
		}
	}
}

func TestTablesWithBytesBetween(t *testing.T) {
	list := mixedCells()
	for _, pack := range []bool{false, true} {
		whole := partsByWord(list, impl.Config{Every: 2, Size: 2, Pack: pack})
		for _, gap := range []string{"\x00", "a", whole.blocks[0], whole.filter, whole.foot()} {
			for i := range whole.blocks {
				// The index tells where the block stands behind the gap.
				entries, place := "", 0
				made := whole
				made.blocks = slices.Clone(whole.blocks)
				made.blocks[i] = gap + made.blocks[i]
				for j, block := range whole.blocks {
					if j == i {
						place += len(gap)
					}
					entries += indexedOf(whole.keys[j], place, len(block))
					place += len(block)
				}
				checkNoTable(t, "a gap ahead of a block", made.withEntries(entries, pack).text(), impl.TaForm)
			}
			blocks := strings.Join(whole.blocks, "")
			ahead := whole
			ahead.numbers[0] += len(gap)
			ahead.numbers[2] += len(gap)
			checkNoTable(t, "a gap ahead of the index", blocks+gap+whole.index+whole.filter+ahead.foot(), impl.TaForm)
			behind := whole
			behind.numbers[2] += len(gap)
			checkNoTable(t, "a gap ahead of the filter", blocks+whole.index+gap+whole.filter+behind.foot(), impl.TaForm)
			checkNoTable(t, "a gap ahead of the foot", blocks+whole.index+whole.filter+gap+whole.foot(), impl.TaForm)
			checkNoTable(t, "a gap ahead of all", gap+whole.text(), impl.TaForm)
		}
		swapped := whole
		swapped.numbers[2] = swapped.numbers[0]
		swapped.numbers[0] += len(whole.filter)
		checkNoTable(t, "the filter ahead of the index", strings.Join(whole.blocks, "")+whole.filter+whole.index+swapped.foot(), impl.TaForm)
	}
}

func TestTableGet(t *testing.T) {
	list := mixedCells()
	for _, c := range edgeConfigs() {
		s := checkTable(t, list, c)
		for _, x := range []struct {
			row, col string
			at       int
			want     impl.Cell
			is       bool
		}{
			{"a", "x", 1000000000, list[0], true}, {"a", "x", 700, list[0], true}, {"a", "x", 699, list[1], true}, {"a", "x", 5, list[1], true}, {"a", "x", 4, impl.Cell{}, false}, {"a", "x", -1, impl.Cell{}, false},
			{"a", "y", 5, list[2], true}, {"a", "y", 4, impl.Cell{}, false}, {"ab", "x", math.MaxInt64, list[3], true}, {"b", "x", 5, list[4], true}, {"b", "x", math.MinInt64, impl.Cell{}, false},
			{"b", "y", 5, impl.Cell{}, false}, {"aa", "x", 5, impl.Cell{}, false}, {"c", "x", 5, impl.Cell{}, false}, {"!", "x", 5, impl.Cell{}, false}, {"", "", 5, impl.Cell{}, false}, {"a", "", 5, impl.Cell{}, false},
			{"a\x00x", "", 5, impl.Cell{}, false}, {"x", "a", 5, impl.Cell{}, false}, {longestName + "n", "x", 5, impl.Cell{}, false},
		} {
			if got, ok := impl.TableGet(s, x.row, x.col, x.at); got != x.want || ok != x.is {
				t.Errorf("by %+v TableGet of %q, %q at %d = %+v, %v, want %+v, %v", c, x.row, x.col, x.at, got, ok, x.want, x.is)
			}
			if got, ok := impl.TableGet(s[:len(s)-1], x.row, x.col, x.at); got != (impl.Cell{}) || ok {
				t.Errorf("TableGet in no table = %+v, %v", got, ok)
			}
		}
	}
}

func TestTableGetTellsTheNewest(t *testing.T) {
	names, times := []string{"a", "a!", "b", longestName}, []int{1000000000, 256, 255, 0}
	draw := rand.New(rand.NewSource(17))
	configs := edgeConfigs()
	for range 10 {
		list := slices.DeleteFunc(risingCells(names[:3], names[:3], times), func(impl.Cell) bool { return draw.Intn(2) == 0 })
		s := checkTable(t, list, configs[draw.Intn(len(configs))])
		for _, row := range append([]string{"", "a b"}, names...) {
			for _, col := range append([]string{"", "\x00"}, names...) {
				for _, at := range []int{math.MinInt64, -1, 0, 1, 254, 255, 256, 999999999, 1000000000, 1000000001, math.MaxInt64} {
					want, is := impl.Newest(list, row, col, at)
					if got, ok := impl.TableGet(s, row, col, at); got != want || ok != is {
						t.Fatalf("TableGet of %q, %q at %d = %+v, %v, want %+v, %v", row, col, at, got, ok, want, is)
					}
				}
			}
		}
	}
}

func TestTableMay(t *testing.T) {
	list := mixedCells()
	filter := filterByWord([]string{"a\x00x", "a\x00x", "a\x00y", "ab\x00x", "b\x00x"}, 7)
	for _, c := range edgeConfigs() {
		s := checkTable(t, list, c)
		for _, x := range list { // those that are gone, too
			if !impl.TableMay(s, x.Row, x.Col) {
				t.Errorf("by %+v the table may not have %+v", c, x)
			}
			if impl.TableMay(s[:len(s)-1], x.Row, x.Col) || impl.TableMay(s[1:], x.Row, x.Col) || impl.TableMay(filter, x.Row, x.Col) {
				t.Errorf("what is no table may have %+v", x)
			}
		}
	}
	s := impl.PutTable(list, impl.Config{Every: 2, Size: 2})
	may, mayNot := 0, 0
	for _, row := range append(manyKeys("row", 20), "", "a", "b", "ab", "\x00", "a\x00x", "\xff", longestName+"n") {
		for _, col := range append(manyKeys("col", 20), "", "x", "y", "\x00", "\x00x", "\xff") {
			just := filterByWord([]string{row + "\x00" + col}, 7)
			want := andOf(just, filter) == just
			if got := impl.TableMay(s, row, col); got != want {
				t.Errorf("TableMay of %q, %q = %v, want %v", row, col, got, want)
			}
			if _, is := impl.TableGet(s, row, col, 1000000000); want && !is {
				may++
			} else if !want {
				mayNot++
			}
		}
	}
	if may == 0 || mayNot < 300 {
		t.Errorf("of those that aren't there %d may be, %d may not", may, mayNot)
	}
}

func TestTableScan(t *testing.T) {
	list := []impl.Cell{valueOf("a", "x", 700, "v1"), goneAt("a", "x", 5), valueOf("a", "y", 5, ""), valueOf("ab", "x", 5, "u"), goneAt("b", "x", 5), valueOf("d", "x", 5, "w")}
	s := impl.PutTable(list, impl.Config{Every: 2, Size: 4})
	for _, x := range []struct {
		lo, hi    string
		from, end int
	}{
		{"", "~", 0, 6}, {"", "\xff", 0, 6}, {"", longestName, 0, 6}, {"a", "e", 0, 6}, {"a", "d\x00", 0, 6}, {"a", "d", 0, 5}, {"a", "c", 0, 5}, {"a", "b\x00", 0, 5}, {"a", "b", 0, 4}, {"a", "ab", 0, 3},
		{"a", "aa", 0, 3}, {"a", "a\x00", 0, 3}, {"a", "a", 0, 0}, {"", "a", 0, 0}, {"", "", 0, 0}, {"a\x00", "e", 3, 6}, {"aa", "e", 3, 6}, {"ab", "e", 3, 6}, {"ab", "b", 3, 4}, {"ab", "ab!", 3, 4}, {"ab", "ab", 0, 0},
		{"ab!", "b", 0, 0}, {"ab!", "d", 4, 5}, {"b", "d", 4, 5}, {"b", "c", 4, 5}, {"c", "d", 0, 0}, {"c", "dd", 5, 6}, {"d", "d", 0, 0}, {"d", "d!", 5, 6}, {"d", "\xff", 5, 6}, {"d!", "\xff", 0, 0}, {"e", "\xff", 0, 0},
		{"b", "a", 0, 0}, {"e", "", 0, 0}, {"d", "a", 0, 0}, {"\xff", "", 0, 0}, {"~", "~", 0, 0}, {strings.Repeat("a", 100000), "b", 3, 4}, {"", strings.Repeat("a", 100000), 0, 3}, {"A", "Z", 0, 0},
	} {
		if got := impl.TableScan(s, x.lo, x.hi); !slices.Equal(got, list[x.from:x.end]) {
			t.Errorf("TableScan from %.20q to %.20q = %+v, want %+v", x.lo, x.hi, got, list[x.from:x.end])
		}
		if got := impl.TableScan(s[:len(s)-1], x.lo, x.hi); len(got) != 0 {
			t.Errorf("TableScan of no table = %+v", got)
		}
	}
}

func TestTableScansByWord(t *testing.T) {
	rows := append([]string{"", "a b", "\x00", "\xff"}, rightNames...)
	draw := rand.New(rand.NewSource(18))
	for range 4 {
		list := slices.DeleteFunc(risingCells(rightNames, []string{"x", "y"}, []int{7, 5}), func(impl.Cell) bool { return draw.Intn(2) == 0 })
		list = list[:min(len(list), 50)]
		s := checkTable(t, list, impl.Config{Every: 1 + draw.Intn(16), Size: 20})
		for _, lo := range rows {
			for _, hi := range rows {
				var want []impl.Cell
				for _, x := range list {
					if strings.Compare(x.Row, lo) >= 0 && strings.Compare(x.Row, hi) < 0 {
						want = append(want, x)
					}
				}
				if got := impl.TableScan(s, lo, hi); !slices.Equal(got, want) {
					t.Fatalf("TableScan from %q to %q = %+v, want %+v", lo, hi, got, want)
				}
			}
		}
	}
}

func TestTablesAnswerAtLongArguments(t *testing.T) {
	const count = 100000
	list := make([]impl.Cell, count)
	for i := range list {
		list[i] = valueOf("r", "c", count-1-i, "v")
	}
	checkNoTablePut(t, "far too many", list, impl.Config{Every: 16, Size: 50})
	checkNoTablePut(t, "far too many, by a wrong config", list, impl.Config{})
	nothing := partsByWord(nil, impl.Config{Every: 1, Size: 1})
	// As many blocks of nothing as an index has room for, all of them told.
	empty, entries := wrappedByWord("\x00\x00", false), ""
	for len(entries) < 1990 {
		nothing.blocks = append(nothing.blocks, empty)
		entries += indexedOf("", len(nothing.blocks)*len(empty)-len(empty), len(empty))
	}
	checkNoTable(t, "blocks of nothing", nothing.withEntries(entries, false).text(), impl.TaForm)
	for _, s := range []string{strings.Repeat("\x00", count), strings.Repeat("\xff", count), strings.Repeat("\x01a", count), sealedByWord(strings.Repeat("a", count) + "\x00"), sealedByWord(strings.Repeat("\x01a", count) + "\x01")} {
		checkNoTable(t, "long", s, impl.TaFoot)
		checkNoTable(t, "long", s+impl.PutTable(nil, impl.Config{Every: 1, Size: 1}), impl.TaForm)
		made := partsByWord(nil, impl.Config{Every: 1, Size: 1})
		made.index = s
		checkNoTable(t, "a long index", made.footed().text(), impl.TaForm)
		checkNoTable(t, "a long filter", partsByWord(nil, impl.Config{Every: 1, Size: 1}).withFilter(s).text(), impl.TaForm)
		whole := impl.PutTable(mixedCells(), impl.Config{Every: 2, Size: 2})
		if x, ok := impl.TableGet(whole, s, s, 5); ok || x != (impl.Cell{}) {
			t.Errorf("TableGet of long names = %+v, %v", x, ok)
		}
		if got := impl.TableScan(whole, s, s); len(got) != 0 {
			t.Errorf("TableScan of long names = %+v", got)
		}
		impl.TableMay(whole, s, s)
	}
}

func TestTablesWriteIntoNoArgument(t *testing.T) {
	room := append(shortCells(60), valueOf("z", "z", 9, "spare"), valueOf("a", "a", 9, "spare"))
	want := slices.Clone(room)
	for _, list := range [][]impl.Cell{room[:0], room[:1], room[:2], room[:50], room[:60], room[:61], room, room[5:9], {}} {
		for _, c := range append(edgeConfigs(), wrongConfigs...) {
			impl.PutTable(list, c)
			if !slices.Equal(room, want) {
				t.Fatalf("PutTable of %d cells by %+v wrote into them: %+v", len(list), c, room)
			}
		}
	}
}

func TestTableAnswersAreNewMemory(t *testing.T) {
	list := mixedCells()
	s := impl.PutTable(list, impl.Config{Every: 2, Size: 2})
	for _, tell := range []func() []impl.Cell{
		func() []impl.Cell { all, _, _ := impl.GetTable(s); return all },
		func() []impl.Cell { return impl.TableScan(s, "", "~") },
	} {
		first, second := tell(), tell()
		for i := range first {
			first[i] = impl.Cell{}
		}
		_ = append(first[:1], impl.Cell{})
		if again := tell(); !slices.Equal(second, list) || !slices.Equal(again, list) {
			t.Errorf("what was changed in an answer is in another: %+v, %+v", second, again)
		}
	}
	if x, _ := impl.TableGet(s, "a", "x", 700); x != list[0] || impl.PutTable(list, impl.Config{Every: 2, Size: 2}) != s {
		t.Error("something is kept of an earlier call")
	}
}

func FuzzTables(f *testing.F) {
	draw := rand.New(rand.NewSource(19))
	for i, c := range edgeConfigs() {
		f.Add(tableByWord(drawnCells(draw, i%20), c), "a", "x", i, c.Every, c.Size)
	}
	f.Add("SHELF1", "", "\x00", -1, 0, 51)
	f.Fuzz(func(t *testing.T, s, row, col string, at, every, size int) {
		list, c, code := impl.GetTable(s)
		if code != impl.TaOk {
			want := impl.TaForm
			if len(s) < 38 || s[len(s)-6:] != "SHELF1" {
				want = impl.TaFoot
			}
			checkNoTable(t, "none", s, want)
		} else if len(list) > 60 || !impl.CellsOk(list) || !impl.ConfigOk(c) || tableByWord(list, c) != s || impl.PutTable(list, c) != s {
			t.Errorf("GetTable(%x) = %+v, %+v", s, list, c)
		}
		want, is := impl.Newest(list, row, col, at)
		if got, ok := impl.TableGet(s, row, col, at); got != want || ok != is || is && !impl.TableMay(s, row, col) {
			t.Errorf("TableGet(%x, %q, %q, %d) = %+v, %v, want %+v, %v", s, row, col, at, got, ok, want, is)
		}
		for _, x := range impl.TableScan(s, row, col) {
			if !slices.Contains(list, x) || x.Row < row || x.Row >= col {
				t.Errorf("TableScan(%x, %q, %q) tells %+v", s, row, col, x)
			}
		}
		other := impl.Config{Every: every, Size: size, Pack: at%2 == 0}
		again := impl.PutTable(list, other)
		if (again != "") != (every >= 1 && every <= 16 && size >= 1 && size <= 50) && len(list) < 20 {
			t.Errorf("PutTable(%+v, %+v) = %x", list, other, again)
		}
		if again != "" {
			checkTable(t, list, other)
		}
	})
}
