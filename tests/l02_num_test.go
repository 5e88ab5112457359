package tests

import (
	"encoding/binary"
	"hash/crc32"
	"math"
	"strings"
	"testing"

	"loop.example/g00813/impl"
)

const outsideZig = 1000000001

// edgeNumbers stand at, and one beside, each place where a form of the chapter
// gets another byte, or where it ends.
func edgeNumbers() []int {
	numbers := []int{math.MinInt64, math.MinInt64 + 1, math.MaxInt64 - 1, math.MaxInt64}
	for bit := range 63 {
		for _, n := range []int{1 << bit, 1000000000, 2000000000} {
			numbers = append(numbers, n-2, n-1, n, n+1, -n-1, -n, -n+1)
		}
	}
	return numbers
}

// edgePlaces are places within a text of so many bytes, and all around it.
func edgePlaces(length int) []int {
	places := []int{math.MinInt64, math.MinInt64 + 1, -1 << 32, -2, -1, length + 1, length + 2, length + 1<<32, math.MaxInt64 - 4, math.MaxInt64 - 1, math.MaxInt64}
	for at := range length + 1 {
		places = append(places, at)
	}
	return places
}

// uvarint is what GetVar tells, by the standard library: it takes a number
// with a byte too many, and larger ones than MaxVar.
func uvarint(s string, at int) (int, int) {
	if at < 0 || at > len(s) {
		return 0, -1
	}
	n, length := binary.Uvarint([]byte(s[at:]))
	if length <= 0 || n > impl.MaxVar || length > 1 && s[at+length-1] == 0 {
		return 0, -1
	}
	return int(n), at + length
}

func TestPutVar(t *testing.T) {
	for _, c := range []struct {
		n    int
		want string
	}{
		{0, "\x00"}, {1, "\x01"}, {127, "\x7f"}, {128, "\x80\x01"}, {129, "\x81\x01"}, {255, "\xff\x01"}, {256, "\x80\x02"}, {300, "\xac\x02"},
		{16383, "\xff\x7f"}, {16384, "\x80\x80\x01"}, {2097151, "\xff\xff\x7f"}, {2097152, "\x80\x80\x80\x01"},
		{1 << 56, "\x80\x80\x80\x80\x80\x80\x80\x80\x01"}, {1<<56 - 1, "\xff\xff\xff\xff\xff\xff\xff\x7f"},
		{impl.MaxVar - 1, "\xfe\xff\xff\xff\xff\xff\xff\xff\x3f"}, {impl.MaxVar, "\xff\xff\xff\xff\xff\xff\xff\xff\x3f"},
		{impl.MaxVar + 1, ""}, {impl.MaxVar + 2, ""}, {math.MaxInt64, ""}, {-1, ""}, {-2, ""}, {-128, ""}, {math.MinInt64, ""}, {math.MinInt64 + 1, ""},
	} {
		if got := impl.PutVar(c.n); got != c.want {
			t.Errorf("PutVar(%d) = %x, want %x", c.n, got, c.want)
		}
	}
}

func TestMaxVarIsOfSixtyTwoBits(t *testing.T) {
	if impl.MaxVar != 1<<62-1 {
		t.Errorf("MaxVar = %d", impl.MaxVar)
	}
}

func TestPutVarOfAllEdges(t *testing.T) {
	for _, n := range edgeNumbers() {
		want := ""
		if n >= 0 && n <= impl.MaxVar {
			want = string(binary.AppendUvarint(nil, uint64(n)))
		}
		if got := impl.PutVar(n); got != want {
			t.Errorf("PutVar(%d) = %x, want %x", n, got, want)
		}
	}
}

func TestVarNumbersComeBack(t *testing.T) {
	for _, n := range edgeNumbers() {
		put := impl.PutVar(n)
		for _, ahead := range []string{"", "z", "\x80", "\xff\xff", "\x00\x01\x02"} {
			for _, behind := range []string{"", "z", "\x00", "\x80", "\xff\xff"} {
				wantN, wantEnd := n, len(ahead)+len(put)
				if put == "" {
					wantN, wantEnd = uvarint(ahead+behind, len(ahead))
				}
				if got, end := impl.GetVar(ahead+put+behind, len(ahead)); got != wantN || end != wantEnd {
					t.Fatalf("GetVar(%x, %d) = %d, %d, want %d, %d", ahead+put+behind, len(ahead), got, end, wantN, wantEnd)
				}
			}
		}
	}
}

func TestGetVarOfNumbers(t *testing.T) {
	for _, c := range []struct {
		s      string
		at     int
		n, end int
	}{
		{"\x00", 0, 0, 1}, {"\x7f", 0, 127, 1}, {"\x80\x01", 0, 128, 2}, {"\x80\x01", 1, 1, 2}, {"\x80\x80\x01", 0, 16384, 3}, {"\x80\x80\x01", 1, 128, 3},
		{"\x00\x00", 0, 0, 1}, {"\x00\x00", 1, 0, 2}, {"\x01\x80", 0, 1, 1}, {"ab\xac\x02cd", 2, 300, 4}, {"ab\xac\x02cd", 3, 2, 4},
		{"\xff\xff\xff\xff\xff\xff\xff\xff\x3f", 0, impl.MaxVar, 9}, {"\x81\xff\xff\xff\xff\xff\xff\xff\xff\x3f", 1, impl.MaxVar, 10},
	} {
		if n, end := impl.GetVar(c.s, c.at); n != c.n || end != c.end {
			t.Errorf("GetVar(%x, %d) = %d, %d, want %d, %d", c.s, c.at, n, end, c.n, c.end)
		}
	}
}

func TestGetVarOfNoNumbers(t *testing.T) {
	eight := strings.Repeat("\xff", 8)
	for _, s := range []string{
		"", "\x80", "\xff", "\x80\x80", "\xff\xff\xff", eight, eight + "\xff", // cut off
		"\x80\x00", "\xff\x00", "\x80\x80\x00", "\x81\x80\x00", "\xac\x82\x00", eight + "\x00", // a byte too many
		eight + "\x40", eight + "\x7f", "\x80\x80\x80\x80\x80\x80\x80\x80\x40", "\x80\x80\x80\x80\x80\x80\x80\x80\x80\x01", // beyond MaxVar
		eight + "\xff\x00", eight + "\xff\x01", eight + "\xff\x7f", eight + "\xbf\x00", eight + "\x80\x00",
		strings.Repeat("\x80", 9) + "\x02", strings.Repeat("\x80", 10) + "\x01", strings.Repeat("\x80", 64) + "\x01", strings.Repeat("\x80", 100000) + "\x01",
		strings.Repeat("\xff", 100000),
	} {
		for _, ahead := range []string{"", "a", "\x80"} {
			if n, end := impl.GetVar(ahead+s, len(ahead)); n != 0 || end != -1 {
				t.Errorf("GetVar(%.40x, %d) = %d, %d, want 0, -1", ahead+s, len(ahead), n, end)
			}
		}
	}
}

func TestGetVarOfEachPlace(t *testing.T) {
	for _, s := range []string{"", "\x00", "\x05", "\x80", "\x80\x01", "\x01\x80", "abc", "\xff\xff\x03\x80\x00", strings.Repeat("\xff", 12) + "\x01"} {
		for _, at := range edgePlaces(len(s)) {
			wantN, wantEnd := uvarint(s, at)
			if n, end := impl.GetVar(s, at); n != wantN || end != wantEnd {
				t.Errorf("GetVar(%x, %d) = %d, %d, want %d, %d", s, at, n, end, wantN, wantEnd)
			}
		}
	}
}

func TestGetVarTakesTextsOfPutVarAlone(t *testing.T) {
	var all []string
	for _, s := range allTexts("\x00\x01\x3f\x40\x7f\x80\x81\xff", 5) {
		all = append(all, s, "\xff\x80\xff\x80\xff\x80"+s)
	}
	for first := range 256 {
		for second := range 256 {
			all = append(all, string([]byte{byte(first), byte(second)}))
		}
	}
	for _, s := range all {
		n, end := impl.GetVar(s, 0)
		if wantN, wantEnd := uvarint(s, 0); n != wantN || end != wantEnd {
			t.Fatalf("GetVar(%x, 0) = %d, %d, want %d, %d", s, n, end, wantN, wantEnd)
		}
		if end != -1 && impl.PutVar(n) != s[:end] {
			t.Fatalf("GetVar(%x, 0) = %d, %d, but PutVar of that is %x", s, n, end, impl.PutVar(n))
		}
	}
}

func TestZig(t *testing.T) {
	for _, c := range []struct{ n, want int }{
		{0, 0}, {-1, 1}, {1, 2}, {-2, 3}, {2, 4}, {-64, 127}, {64, 128}, {999999999, 1999999998}, {-999999999, 1999999997},
		{1000000000, 2000000000}, {-1000000000, 1999999999},
	} {
		if got := impl.Zig(c.n); got != c.want {
			t.Errorf("Zig(%d) = %d, want %d", c.n, got, c.want)
		}
		if got := impl.Zag(c.want); got != c.n {
			t.Errorf("Zag(%d) = %d, want %d", c.want, got, c.n)
		}
	}
	for _, n := range []int{1000000001, -1000000001, 1000000002, -1000000002, 1 << 32, -1 << 32, 1 << 62, -1 << 62, math.MaxInt64, math.MinInt64, math.MinInt64 + 1} {
		if got := impl.Zig(n); got != -1 {
			t.Errorf("Zig(%d) = %d, want -1", n, got)
		}
	}
	for _, n := range []int{-1, -2, -3, -1000000000, 2000000001, 2000000002, 2000000003, 1 << 32, math.MaxInt64, math.MinInt64, math.MinInt64 + 1} {
		if got := impl.Zag(n); got != outsideZig {
			t.Errorf("Zag(%d) = %d, want %d", n, got, outsideZig)
		}
	}
}

func TestZigNumbersComeBack(t *testing.T) {
	for n := -1000000000; n <= 1000000000; n += 99991 {
		if got := impl.Zag(impl.Zig(n)); got != n {
			t.Fatalf("Zag(Zig(%d)) = %d", n, got)
		}
	}
	for n := 0; n <= 2000000000; n += 99991 {
		if got := impl.Zig(impl.Zag(n)); got != n {
			t.Fatalf("Zig(Zag(%d)) = %d", n, got)
		}
	}
	for _, n := range edgeNumbers() {
		back := n
		if n < -1000000000 || n > 1000000000 {
			back = outsideZig
		}
		if got := impl.Zag(impl.Zig(n)); got != back {
			t.Errorf("Zag(Zig(%d)) = %d, want %d", n, got, back)
		}
	}
}

func TestPutFix(t *testing.T) {
	for _, c := range []struct {
		n, bytes int
		want     string
	}{
		{0, 1, "\x00"}, {0, 2, "\x00\x00"}, {0, 3, "\x00\x00\x00"}, {0, 4, "\x00\x00\x00\x00"}, {258, 1, "\x02"}, {258, 2, "\x02\x01"}, {258, 3, "\x02\x01\x00"},
		{258, 4, "\x02\x01\x00\x00"}, {255, 1, "\xff"}, {256, 1, "\x00"}, {65535, 2, "\xff\xff"}, {65536, 2, "\x00\x00"}, {0x123456, 2, "\x56\x34"},
		{0x12345678, 3, "\x78\x56\x34"}, {0x12345678, 4, "\x78\x56\x34\x12"}, {0xffffffff, 4, "\xff\xff\xff\xff"}, {0x100000000, 4, "\x00\x00\x00\x00"},
		{0x7edcba9876543210, 4, "\x10\x32\x54\x76"}, {0x7edcba9876543210, 1, "\x10"}, {math.MaxInt64, 4, "\xff\xff\xff\xff"},
		{-1, 1, ""}, {-1, 2, ""}, {-1, 4, ""}, {-256, 1, ""}, {math.MinInt64, 4, ""}, {math.MinInt64, 1, ""}, {-1, 0, ""}, {-1, 5, ""},
		{1, 0, ""}, {1, 5, ""}, {1, 6, ""}, {1, 8, ""}, {1, -1, ""}, {1, math.MaxInt64, ""}, {1, math.MinInt64, ""}, {0, 0, ""}, {0, 5, ""},
	} {
		if got := impl.PutFix(c.n, c.bytes); got != c.want {
			t.Errorf("PutFix(%#x, %d) = %x, want %x", c.n, c.bytes, got, c.want)
		}
	}
}

func TestGetFix(t *testing.T) {
	for _, c := range []struct {
		s                string
		at, bytes, wantN int
	}{
		{"x\x02\x01", 1, 2, 258}, {"x\x02\x01", 1, 1, 2}, {"x\x02\x01", 2, 1, 1}, {"x\x02\x01", 0, 3, 0x010278}, {"\xff\xff\xff\xff", 0, 4, 0xffffffff},
		{"\x78\x56\x34\x12z", 0, 4, 0x12345678}, {"\x78\x56\x34\x12z", 0, 3, 0x345678}, {"\x78\x56\x34\x12z", 1, 4, 0x7a123456}, {"\x00\x00", 0, 2, 0},
		{"\x80", 0, 1, 128}, {"\x00\x80", 0, 2, 32768}, {"\x00\x00\x00\x80", 0, 4, 1 << 31},
		{"", 0, 1, -1}, {"\x02", 0, 2, -1}, {"\x02", 1, 1, -1}, {"abc", 0, 4, -1}, {"abc", 1, 3, -1}, {"abcd", 1, 4, -1},
		{"abcdefgh", 0, 0, -1}, {"abcdefgh", 0, 5, -1}, {"abcdefgh", 0, 8, -1}, {"abcdefgh", 0, -1, -1}, {"abcdefgh", 4, -4, -1}, {"", 0, 0, -1},
		{"abcdefgh", 0, math.MaxInt64, -1}, {"abcdefgh", 0, math.MinInt64, -1}, {"abcdefgh", math.MaxInt64, math.MaxInt64, -1}, {"abcdefgh", -1, 2, -1}, {"abcdefgh", -4, 4, -1},
	} {
		if got := impl.GetFix(c.s, c.at, c.bytes); got != c.wantN {
			t.Errorf("GetFix(%x, %d, %d) = %d, want %d", c.s, c.at, c.bytes, got, c.wantN)
		}
	}
}

func TestFixNumbersComeBack(t *testing.T) {
	for _, n := range edgeNumbers() {
		for bytes := 1; bytes <= 4; bytes++ {
			want := n & (1<<(8*bytes) - 1) // the higher bytes of n aren't put
			if n < 0 {
				want = -1
			}
			put := impl.PutFix(n, bytes)
			if got := impl.GetFix("az"+put, 2, bytes); got != want {
				t.Errorf("GetFix of PutFix(%d, %d) = %d, want %d", n, bytes, got, want)
			}
			if got := impl.GetFix(put, 0, bytes); got != want {
				t.Errorf("GetFix of PutFix(%d, %d) = %d, want %d", n, bytes, got, want)
			}
		}
	}
}

func TestGetFixTellsWhoseBytesTheyAre(t *testing.T) {
	const s = "\x00\x01\x7f\x80\xff\x00\xfe\x10"
	for length := range len(s) + 1 {
		for _, at := range edgePlaces(length) {
			for bytes := -1; bytes <= 6; bytes++ {
				got := impl.GetFix(s[:length], at, bytes)
				whole := bytes >= 1 && bytes <= 4 && at >= 0 && at <= length-bytes
				if !whole && got != -1 || whole && impl.PutFix(got, bytes) != s[at:at+bytes] {
					t.Errorf("GetFix(%x, %d, %d) = %d", s[:length], at, bytes, got)
				}
			}
		}
	}
}

func TestCrc(t *testing.T) {
	rising := make([]byte, 32)
	for i := range rising {
		rising[i] = byte(i)
	}
	for _, c := range []struct {
		s    string
		want int
	}{
		{"", 0}, {"a", 0xc1d04330}, {"123456789", 0xe3069283}, {"\x00", 0x527d5351}, {"\x00\x00\x00\x00", 0x48674bc7},
		{strings.Repeat("\x00", 32), 0x8a9136aa}, {strings.Repeat("\xff", 32), 0x62a8ab43}, {string(rising), 0x46dd794e},
	} {
		if got := impl.Crc(c.s); got != c.want {
			t.Errorf("Crc(%x) = %#x, want %#x", c.s, got, c.want)
		}
	}
}

func TestCrcIsTheSumOfManyTexts(t *testing.T) {
	many := append(allTexts("\x00\x01a\x80\xff", 4), texts...)
	for b := range 256 {
		many = append(many, string([]byte{byte(b)}), "ab"+string([]byte{byte(b)})+"c")
	}
	for _, s := range append(many, strings.Repeat("what is kept\xff", 10000)) {
		want := int(crc32.Checksum([]byte(s), crc32.MakeTable(crc32.Castagnoli)))
		if got := impl.Crc(s); got != want {
			t.Fatalf("Crc(%.40x) = %#x, want %#x", s, got, want)
		}
	}
}

func TestSealed(t *testing.T) {
	for _, c := range []struct{ s, want string }{
		{"", "\x00\x00\x00\x00"}, {"a", "a\x30\x43\xd0\xc1"}, {"abc", "abc\xb7\x3f\x4b\x36"}, {"123456789", "123456789\x83\x92\x06\xe3"},
		{"\x00\x00\x00\x00", "\x00\x00\x00\x00\xc7\x4b\x67\x48"},
	} {
		if got := impl.Sealed(c.s); got != c.want {
			t.Errorf("Sealed(%x) = %x, want %x", c.s, got, c.want)
		}
		if got, ok := impl.Opened(c.want); got != c.s || !ok {
			t.Errorf("Opened(%x) = %x, %v, want %x", c.want, got, ok, c.s)
		}
	}
}

func TestSealedTextsComeBack(t *testing.T) {
	for _, s := range append(allTexts("\x00a\xff", 5), texts...) {
		sealed := impl.Sealed(s)
		if len(sealed) != len(s)+4 || sealed[:len(s)] != s {
			t.Fatalf("Sealed(%.40x) = %.40x", s, sealed)
		}
		if got, ok := impl.Opened(sealed); got != s || !ok {
			t.Fatalf("Opened of Sealed(%.40x) = %.40x, %v", s, got, ok)
		}
		twice := impl.Sealed(sealed)
		if got, ok := impl.Opened(twice); got != sealed || !ok {
			t.Fatalf("Opened of Sealed twice of %.40x = %.40x, %v", s, got, ok)
		}
	}
}

func notOpened(t *testing.T, s string) {
	t.Helper()
	if text, ok := impl.Opened(s); text != "" || ok {
		t.Errorf("Opened(%.60x) = %.60x, %v, want nothing and false", s, text, ok)
	}
}

func TestTextsThatAreSealedOfNone(t *testing.T) {
	for _, s := range []string{
		"", "\x00", "\x00\x00", "\x00\x00\x00", "\x00\x00\x00\x00\x00", "abc", "abcd", "\xff\xff\xff\xff", "\x01\x00\x00\x00", "\x00\x00\x00\x01",
		"abd\xb7\x3f\x4b\x36", "abc\xb7\x3f\x4b\x37", "abc\x36\x4b\x3f\xb7", "abc\xb7\x3f\x4b", "bc\xb7\x3f\x4b\x36", "abc\xb7\x3f\x4b\x36\x00", "\xb7\x3f\x4b\x36abc",
		strings.Repeat("\xff", 100000),
	} {
		notOpened(t, s)
	}
}

// A sum of 32 bits tells any change of bits that stand within 32 of each
// other; so these are all refused, and not by chance.
func TestWhatWasChangedALittleIsTold(t *testing.T) {
	for _, s := range []string{"", "\x00", "a", "abc", "\x00\x00\x00\x00", "\xff\xff\xff\xff\xff", "123456789", strings.Repeat("row col ", 20)} {
		sealed := []byte(impl.Sealed(s))
		for at := range sealed {
			for turn := 1; turn < 256; turn++ {
				changed := []byte(string(sealed))
				changed[at] ^= byte(turn)
				notOpened(t, string(changed))
				if at+1 < len(changed) {
					changed[at+1] ^= byte(turn*31 + at)
					notOpened(t, string(changed))
				}
			}
		}
		for at := 0; at+3 < len(sealed); at++ {
			changed := []byte(string(sealed))
			for i := range 4 {
				changed[at+i] = ^changed[at+i]
			}
			notOpened(t, string(changed))
		}
	}
}

func TestWhatWasCutOrSwappedIsTold(t *testing.T) {
	const s = "cells, to the byte"
	sealed := impl.Sealed(s)
	for cut := 1; cut <= len(sealed); cut++ {
		notOpened(t, sealed[:len(sealed)-cut])
		notOpened(t, sealed[cut:])
	}
	for at := 1; at < len(sealed); at++ {
		if sealed[at-1] != sealed[at] {
			notOpened(t, sealed[:at-1]+sealed[at:at+1]+sealed[at-1:at]+sealed[at+1:])
		}
	}
	for b := range 256 {
		notOpened(t, sealed+string([]byte{byte(b)}))
	}
}

func TestNumbersAnswerAtLongArguments(t *testing.T) {
	long := strings.Repeat("\x81\x00\xff", 100000)
	if text, ok := impl.Opened(impl.Sealed(long)); text != long || !ok {
		t.Error("a long text doesn't come back")
	}
	if n, end := impl.GetVar(long+"\xac\x02", len(long)); n != 300 || end != len(long)+2 {
		t.Errorf("GetVar behind a long text = %d, %d", n, end)
	}
	if n := impl.GetFix(long+"\x02\x01", len(long), 2); n != 258 {
		t.Errorf("GetFix behind a long text = %d", n)
	}
}

func FuzzNumbers(f *testing.F) {
	for _, n := range edgeNumbers() {
		f.Add(impl.PutVar(n), n, 2)
		f.Add(impl.Sealed(impl.PutVar(n)), 0, n)
	}
	f.Fuzz(func(t *testing.T, s string, at int, bytes int) {
		n, end := impl.GetVar(s, at)
		if wantN, wantEnd := uvarint(s, at); n != wantN || end != wantEnd {
			t.Errorf("GetVar(%x, %d) = %d, %d, want %d, %d", s, at, n, end, wantN, wantEnd)
		}
		if end != -1 && impl.PutVar(n) != s[at:end] {
			t.Errorf("PutVar(%d) = %x", n, impl.PutVar(n))
		}
		if n := impl.GetFix(s, at, bytes); n != -1 && impl.PutFix(n, bytes) != s[at:at+bytes] {
			t.Errorf("GetFix(%x, %d, %d) = %d", s, at, bytes, n)
		}
		if text, ok := impl.Opened(s); ok && impl.Sealed(text) != s || !ok && text != "" {
			t.Errorf("Opened(%x) = %x, %v", s, text, ok)
		}
		if text, ok := impl.Opened(impl.Sealed(s)); text != s || !ok {
			t.Errorf("Opened of Sealed(%x) = %x, %v", s, text, ok)
		}
		if z := impl.Zig(at); z != -1 && impl.Zag(z) != at {
			t.Errorf("Zag(Zig(%d)) = %d", at, impl.Zag(z))
		}
	})
}
