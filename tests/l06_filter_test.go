package tests

import (
	"fmt"
	"hash/fnv"
	"math"
	"math/big"
	"math/rand"
	"slices"
	"strings"
	"testing"

	"loop.example/g00813/impl"
)

// hashedToNought has the Hash 0: all its places are the first one.
const hashedToNought = "\xcc\x24\x31\xc4"

var wrongBits = []int{0, -1, -2, -8, -80, -100000, 100001, 100002, 100008, 200000, 1<<31 - 1, 1 << 31, 1<<32 - 1, 1 << 32, 1<<32 + 1, 1<<32 + 80, math.MinInt64, math.MinInt64 + 1, math.MaxInt64 - 1, math.MaxInt64}

// edgeBits are right ones, at the least and the greatest and around powers of two.
func edgeBits() []int {
	all := []int{99999, 100000}
	for bit := range 17 {
		for _, bits := range []int{1<<bit - 1, 1 << bit, 1<<bit + 1, 10 << bit} {
			if bits >= 1 && bits <= 100000 {
				all = append(all, bits)
			}
		}
	}
	return all
}

// edgeKeys are keys with all bytes, short and long, and some that begin alike.
func edgeKeys() []string {
	keys := append([]string{hashedToNought, risingBytes(0, 256), risingBytes(128, 128), strings.Repeat("\x80", 33), "row\x00col", "row1", "row2"}, texts...)
	for b := range 256 {
		keys = append(keys, string([]byte{byte(b)}))
	}
	return keys
}

// manyKeys are so many, no two alike.
func manyKeys(prefix string, count int) []string {
	keys := make([]string, count)
	for i := range keys {
		keys[i] = fmt.Sprint(prefix, i)
	}
	return keys
}

func hashByWord(s string) int {
	h := fnv.New32a()
	h.Write([]byte(s))
	return int(h.Sum32())
}

// probesByWord goes by whole numbers, out of which the lowest 32 bits are cut.
func probesByWord(s string, bits int) []int {
	all := new(big.Int).Lsh(big.NewInt(1), 32)
	h := big.NewInt(int64(hashByWord(s)))
	lowest := new(big.Int).Mod(h, big.NewInt(1<<17))
	highest := new(big.Int).Div(h, big.NewInt(1<<17))
	d := new(big.Int).Add(lowest.Mul(lowest, big.NewInt(1<<15)), highest)
	var places []int
	for range 6 {
		places = append(places, int(new(big.Int).Mod(h, big.NewInt(int64(bits))).Int64()))
		h = new(big.Int).Mod(new(big.Int).Add(h, d), all)
	}
	return places
}

func sizeByWord(count int) int {
	size := 1
	for 8*size < 10*count {
		size++
	}
	return size
}

// filterByWord has so many bytes, and just the bits of the keys, however many these are.
func filterByWord(keys []string, size int) string {
	ones := map[int]bool{}
	for _, key := range keys {
		for _, place := range probesByWord(key, 8*size) {
			ones[place] = true
		}
	}
	var b strings.Builder
	for i := range size {
		sum := 0
		for rest, worth := range []int{1, 2, 4, 8, 16, 32, 64, 128} {
			if ones[8*i+rest] {
				sum += worth
			}
		}
		b.WriteByte(byte(sum))
	}
	return b.String()
}

// withTurned is a filter in which the bit at a place is the other one.
func withTurned(filter string, place int) string {
	b := []byte(filter)
	b[place/8] ^= 1 << (place % 8)
	return string(b)
}

func ones(size int) string { return strings.Repeat("\xff", size) }

func noughts(size int) string { return strings.Repeat("\x00", size) }

func checkFilter(t *testing.T, keys []string) string {
	t.Helper()
	want := filterByWord(keys, sizeByWord(len(keys)))
	got := impl.Filter(keys)
	if got != want {
		t.Fatalf("Filter of %d keys, %.200q = %.200x, want %.200x", len(keys), keys, got, want)
	}
	for _, key := range keys {
		checkMay(t, got, key, true)
	}
	return got
}

func checkMay(t *testing.T, filter, key string, want bool) {
	t.Helper()
	if got := impl.MayHave(filter, key); got != want {
		t.Fatalf("MayHave(%.200x of %d bytes, %.60q) = %v, want %v", filter, len(filter), key, got, want)
	}
}

func TestHash(t *testing.T) {
	for _, c := range []struct {
		s    string
		want int
	}{
		{"", 2166136261}, {"a", 3826002220}, {"row1", 1815616382}, {"b", 0xe70c2de5}, {"ab", 0x4d2505ca}, {"foobar", 0xbf9cf968}, {"\x00", 0x050c5d1f},
		{hashedToNought, 0}, {hashedToNought + "\x00", 0}, {hashedToNought + "\x01", 16777619}, {hashedToNought + "\xff", 0xff * 16777619 % (1 << 32)},
	} {
		if got := impl.Hash(c.s); got != c.want {
			t.Errorf("Hash(%q) = %d, want %d", c.s, got, c.want)
		}
	}
}

func TestHashOfEachByte(t *testing.T) {
	for b := range 256 {
		s := string([]byte{byte(b)})
		// A byte from 128 on turns no bits above the lowest eight.
		if got, want := impl.Hash(s), (2166136261^b)*16777619%(1<<32); got != want {
			t.Errorf("Hash of byte %d = %d, want %d", b, got, want)
		}
		for _, other := range []string{"\x00", "a", "\x7f", "\x80", "\xff"} {
			for _, long := range []string{s + other, other + s, other + s + other} {
				if got, want := impl.Hash(long), hashByWord(long); got != want {
					t.Errorf("Hash(%x) = %d, want %d", long, got, want)
				}
			}
		}
	}
}

func TestHashIsOf32Bits(t *testing.T) {
	high := 0
	for _, s := range append(append(drawnTexts(300), edgeKeys()...), allTexts("a\x00\x80\xff", 5)...) {
		got := impl.Hash(s)
		if got < 0 || got > 1<<32-1 || got != hashByWord(s) {
			t.Fatalf("Hash(%.60x) = %d, want %d", s, got, hashByWord(s))
		}
		if got >= 1<<31 {
			high++
		}
	}
	if high == 0 {
		t.Error("no hash has its highest bit")
	}
}

func TestProbes(t *testing.T) {
	for _, c := range []struct {
		s    string
		bits int
		want []int
	}{
		{"row1", 80, []int{62, 58, 54, 50, 46, 42}},
		{hashedToNought, 80, []int{0, 0, 0, 0, 0, 0}}, {hashedToNought, 100000, []int{0, 0, 0, 0, 0, 0}}, {"a", 1, []int{0, 0, 0, 0, 0, 0}},
		// h is 16777619, of which the lowest 17 bits are 403, the highest ones 128; d is 13205632.
		{hashedToNought + "\x01", 100000, []int{77619, 83251, 88883, 94515, 147, 5779}},
		{hashedToNought + "\x01", 2, []int{1, 1, 1, 1, 1, 1}}, {hashedToNought + "\x01", 16, []int{3, 3, 3, 3, 3, 3}},
	} {
		if got := impl.Probes(c.s, c.bits); !slices.Equal(got, c.want) {
			t.Errorf("Probes(%q, %d) = %v, want %v", c.s, c.bits, got, c.want)
		}
	}
}

func TestProbesOfEachKeyAndBits(t *testing.T) {
	for _, s := range edgeKeys() {
		for _, bits := range edgeBits() {
			got := impl.Probes(s, bits)
			if want := probesByWord(s, bits); !slices.Equal(got, want) {
				t.Fatalf("Probes(%.60q, %d) = %v, want %v", s, bits, got, want)
			}
			if len(got) != 6 || slices.Min(got) < 0 || slices.Max(got) >= bits {
				t.Fatalf("Probes(%.60q, %d) = %v: not six places below bits", s, bits, got)
			}
		}
	}
}

func TestProbesRunOverThirtyTwoBits(t *testing.T) {
	// For these the sum of h and d runs over, and its lowest bits count alone.
	over := 0
	for _, s := range edgeKeys() {
		h := hashByWord(s)
		if h+5*(h%(1<<17)<<15+h>>17) >= 1<<32 {
			over++
		}
		for _, bits := range []int{3, 7, 99991, 100000} {
			if got, want := impl.Probes(s, bits), probesByWord(s, bits); !slices.Equal(got, want) {
				t.Fatalf("Probes(%.60q, %d) = %v, want %v", s, bits, got, want)
			}
		}
	}
	if over == 0 {
		t.Error("no sum runs over")
	}
}

func TestProbesOfWrongBits(t *testing.T) {
	for _, bits := range wrongBits {
		for _, s := range []string{"", "a", "row1", hashedToNought, "\xff", strings.Repeat("a", 3000)} {
			if got := impl.Probes(s, bits); len(got) != 0 {
				t.Errorf("Probes(%.20q, %d) = %v, want nothing", s, bits, got)
			}
		}
	}
}

func TestFiltersToTheByte(t *testing.T) {
	for _, c := range []struct {
		keys []string
		want string
	}{
		{nil, "\x00"}, {[]string{}, "\x00"}, {[]string{"a"}, "\x14\x55"}, {[]string{"a", "row1"}, "\x54\x44\x55"}, {[]string{"row1", "a"}, "\x54\x44\x55"},
		{[]string{hashedToNought}, "\x01\x00"}, {[]string{hashedToNought, hashedToNought}, "\x01\x00\x00"},
		{[]string{hashedToNought + "\x01"}, "\x08\x00"},
	} {
		if got := impl.Filter(c.keys); got != c.want {
			t.Errorf("Filter(%q) = %x, want %x", c.keys, got, c.want)
		}
		checkFilter(t, c.keys)
	}
}

func TestFiltersOfOneKey(t *testing.T) {
	for _, key := range edgeKeys() {
		if got := checkFilter(t, []string{key}); len(got) != 2 {
			t.Errorf("Filter of one key, %.60q, has %d bytes", key, len(got))
		}
	}
}

func TestFiltersOfEachCount(t *testing.T) {
	keys := manyKeys("key", 200)
	for count := range 201 {
		got := checkFilter(t, keys[:count])
		// Ten bits for each, and no byte more than those need.
		if 8*len(got) < 10*count || count > 0 && 8*(len(got)-1) >= 10*count || len(got) < 1 {
			t.Errorf("Filter of %d keys has %d bytes", count, len(got))
		}
	}
	if len(impl.Filter(keys)) != 250 || len(impl.Filter(keys[:199])) != 249 {
		t.Error("Filter of 200 keys hasn't 250 bytes, or that of 199 hasn't 249")
	}
}

func TestFiltersOfTooManyKeys(t *testing.T) {
	for _, count := range []int{201, 202, 256, 400, 10000, 100000} {
		for _, keys := range [][]string{manyKeys("key", count), make([]string, count), slices.Repeat([]string{"a"}, count)} {
			if got := impl.Filter(keys); got != "" {
				t.Errorf("Filter of %d keys = %.60x, want nothing", count, got)
			}
		}
	}
	checkMay(t, impl.Filter(manyKeys("key", 201)), "key0", false)
}

func TestFiltersOfTheEmptyText(t *testing.T) {
	for _, keys := range [][]string{{""}, {"", ""}, {"a", ""}, {"", "a", "b"}, make([]string, 200)} {
		checkFilter(t, keys)
	}
	checkMay(t, impl.Filter([]string{"a"}), "", false)
	checkMay(t, impl.Filter([]string{""}), "a", false)
}

func TestFiltersOfKeysThatAreAlike(t *testing.T) {
	for _, count := range []int{1, 2, 3, 4, 5, 8, 100, 199, 200} {
		got := checkFilter(t, slices.Repeat([]string{"row1"}, count))
		if len(got) != sizeByWord(count) {
			t.Errorf("Filter of a key %d times has %d bytes: each counts", count, len(got))
		}
		if got != filterByWord([]string{"row1"}, len(got)) {
			t.Errorf("Filter of a key %d times has other bits than those of that key", count)
		}
	}
}

func TestFiltersAreOfAnyOrder(t *testing.T) {
	draw := rand.New(rand.NewSource(14))
	for _, count := range []int{2, 7, 60, 200} {
		keys := manyKeys("key", count)
		want := checkFilter(t, keys)
		for range 5 {
			draw.Shuffle(count, func(i, j int) { keys[i], keys[j] = keys[j], keys[i] })
			if got := impl.Filter(keys); got != want {
				t.Errorf("Filter of the same %d keys in another order = %.60x, want %.60x", count, got, want)
			}
		}
	}
}

func TestDrawnFiltersHaveTheirKeys(t *testing.T) {
	draw := rand.New(rand.NewSource(15))
	pool := append(drawnTexts(100), edgeKeys()...)
	for range 300 {
		keys := make([]string, draw.Intn(201))
		for i := range keys {
			keys[i] = pool[draw.Intn(len(pool))]
		}
		filter := checkFilter(t, keys)
		for range 20 {
			other := pool[draw.Intn(len(pool))]
			just := filterByWord([]string{other}, len(filter))
			checkMay(t, filter, other, andOf(just, filter) == just)
		}
	}
}

// andOf has the bits that both filters of one size have.
func andOf(a, b string) string {
	both := []byte(a)
	for i := range both {
		both[i] &= b[i]
	}
	return string(both)
}

func TestFiltersOfSomeKeysAreInFiltersOfAll(t *testing.T) {
	for _, count := range []int{2, 3, 10, 60, 200} {
		all := manyKeys("key", count)
		whole := checkFilter(t, all)
		for some := 1; some < count; some += 1 + count/20 {
			// Those that are left are told again, so that both are of one size.
			keys := append(slices.Clone(all[:some]), slices.Repeat(all[:1], count-some)...)
			part := checkFilter(t, keys)
			if len(part) != len(whole) || andOf(part, whole) != part {
				t.Errorf("Filter of %d of %d keys has bits that the one of all hasn't", some, count)
			}
			for _, key := range append(manyKeys("other", 50), all...) {
				if impl.MayHave(part, key) && !impl.MayHave(whole, key) {
					t.Errorf("%q may be in the filter of %d, but not in the one of all %d", key, some, count)
				}
			}
		}
	}
}

func TestFiltersTellWhatIsNotThere(t *testing.T) {
	for _, count := range []int{1, 10, 60, 200} {
		filter, may := impl.Filter(manyKeys("key", count)), 0
		for _, key := range manyKeys("other", 1000) {
			if impl.MayHave(filter, key) {
				may++
			}
		}
		if may > 300 {
			t.Errorf("of 1000 others %d may be in a filter of %d keys", may, count)
		}
	}
}

func TestMayHaveNeedsAllBits(t *testing.T) {
	for _, key := range edgeKeys() {
		for _, size := range []int{1, 2, 3, 10, 33} {
			places := probesByWord(key, 8*size)
			just := filterByWord([]string{key}, size)
			checkMay(t, just, key, true)
			checkMay(t, ones(size), key, true)
			checkMay(t, noughts(size), key, false)
			for place := range 8 * size {
				needed := slices.Contains(places, place)
				checkMay(t, withTurned(just, place), key, !needed) // one missing, or one more
				checkMay(t, withTurned(ones(size), place), key, !needed)
			}
		}
	}
}

func TestMayHaveInNoFilter(t *testing.T) {
	for _, key := range edgeKeys() {
		checkMay(t, "", key, false)
		checkMay(t, impl.Filter(nil), key, false)
		checkMay(t, impl.Filter([]string{}), key, false)
	}
}

func TestMayHaveInFiltersOfNoughtsAndOfOnes(t *testing.T) {
	for _, size := range []int{1, 2, 3, 8, 250, 251, 1000, 12499, 12500} {
		for _, key := range []string{"", "a", "row1", hashedToNought, "\xff", strings.Repeat("a", 3000)} {
			checkMay(t, noughts(size), key, false)
			checkMay(t, ones(size), key, true)
		}
	}
}

func TestMayHaveInTheLongestFilters(t *testing.T) {
	for _, key := range edgeKeys() {
		just := filterByWord([]string{key}, 12500)
		checkMay(t, just, key, true)
		checkMay(t, just+"\x00", key, false)
		for _, place := range probesByWord(key, 100000) {
			checkMay(t, withTurned(just, place), key, false)
			checkMay(t, withTurned(ones(12500), place), key, false)
		}
	}
	for _, size := range []int{12501, 12502, 12504, 25000, 100000, 1 << 20} {
		for _, key := range []string{"", "a", "row1", hashedToNought} {
			checkMay(t, ones(size), key, false)
			checkMay(t, noughts(size), key, false)
			checkMay(t, filterByWord([]string{key}, size), key, false)
		}
	}
}

func TestFiltersAnswerAtLongArguments(t *testing.T) {
	long := strings.Repeat("\x80a\xff", 400000)
	if got, want := impl.Hash(long), hashByWord(long); got != want {
		t.Errorf("Hash of a long text = %d, want %d", got, want)
	}
	if got, want := impl.Probes(long, 100000), probesByWord(long, 100000); !slices.Equal(got, want) {
		t.Errorf("Probes of a long text = %v, want %v", got, want)
	}
	checkFilter(t, []string{long, "a", long + "b"})
	checkMay(t, long, long, false)
	checkMay(t, ones(12500), long, true)
}

func TestFiltersWriteIntoNoArgument(t *testing.T) {
	room := append(manyKeys("key", 210), "spare", "", "spare")
	want := slices.Clone(room)
	for _, keys := range [][]string{room[:0], room[:1], room[:60], room[:200], room[:201], room[5:9], room} {
		filter := impl.Filter(keys)
		for _, key := range keys {
			impl.MayHave(filter, key)
			impl.Probes(key, 8*len(filter))
		}
		if !slices.Equal(room, want) {
			t.Fatalf("Filter of %d keys wrote into them", len(keys))
		}
	}
}

func TestFilterAnswersAreNewMemory(t *testing.T) {
	want := []int{62, 58, 54, 50, 46, 42}
	first, second := impl.Probes("row1", 80), impl.Probes("row1", 80)
	for i := range first {
		first[i] = -1
	}
	_ = append(first[:1], -2)
	if again := impl.Probes("row1", 80); !slices.Equal(second, want) || !slices.Equal(again, want) {
		t.Errorf("what was changed in an answer is in another: %v, %v", second, again)
	}
}

func FuzzFilters(f *testing.F) {
	for i, s := range edgeKeys() {
		f.Add(s, impl.Filter([]string{s, "a"}), i)
	}
	f.Add("a", "", 0)
	f.Add("a", ones(12501), 100001)
	f.Fuzz(func(t *testing.T, key string, text string, bits int) {
		if got, want := impl.Hash(key), hashByWord(key); got != want {
			t.Errorf("Hash(%x) = %d, want %d", key, got, want)
		}
		var want []int
		if bits >= 1 && bits <= 100000 {
			want = probesByWord(key, bits)
		}
		if got := impl.Probes(key, bits); !slices.Equal(got, want) {
			t.Errorf("Probes(%x, %d) = %v, want %v", key, bits, got, want)
		}
		just := filterByWord([]string{key}, max(1, len(text)))
		checkMay(t, text, key, len(text) >= 1 && len(text) <= 12500 && andOf(just, text) == just)
		if keys := append(impl.Words(text), key); len(keys) <= 200 {
			checkFilter(t, keys)
		} else if impl.Filter(keys) != "" {
			t.Errorf("Filter of %d keys tells a filter", len(keys))
		}
	})
}
