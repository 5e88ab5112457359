package tests

import (
	"fmt"
	"math/rand"
	"slices"
	"strings"
	"testing"

	"loop.example/g00813/impl"
)

func told(text string) impl.Token { return impl.Token{Text: text} }

func copied(length, far int) impl.Token { return impl.Token{Len: length, Far: far} }

// risingBytes has bytes that are all different: nothing in it stands twice.
func risingBytes(from, count int) string {
	bytes := make([]byte, count)
	for i := range bytes {
		bytes[i] = byte(from + i)
	}
	return string(bytes)
}

// unlikeText has no four bytes that stand twice, be it ever so long: a mark
// above 127 and a number of two bytes below, each time another one.
func unlikeText(length int) string {
	var b strings.Builder
	for i := 0; b.Len() < length; i++ {
		b.Write([]byte{0xff, byte(i / 128), byte(i % 128)})
	}
	return b.String()[:length]
}

// tokensByWord are Tokens by the words of the document alone: each Len from
// the greatest on, each Far from the least on, byte by byte. No text is too long.
func tokensByWord(s string) []impl.Token {
	var tokens []impl.Token
	for at := 0; at < len(s); {
		if token, ok := copyByWord(s, at); ok {
			tokens = append(tokens, token)
			at += token.Len
			continue
		}
		last := len(tokens) - 1
		if last >= 0 && tokens[last].Text != "" && len(tokens[last].Text) < 127 {
			tokens[last].Text += s[at : at+1]
		} else {
			tokens = append(tokens, told(s[at:at+1]))
		}
		at++
	}
	return tokens
}

func copyByWord(s string, at int) (impl.Token, bool) {
	for length := min(67, len(s)-at); length >= 4; length-- {
		for far := 1; far <= 255 && far <= at; far++ {
			if s[at:at+length] == s[at-far:at-far+length] {
				return copied(length, far), true
			}
		}
	}
	return impl.Token{}, false
}

func packedByWord(tokens []impl.Token) string {
	packed := ""
	for _, token := range tokens {
		if token.Text != "" {
			packed += string([]byte{byte(len(token.Text))}) + token.Text
		} else {
			packed += string([]byte{byte(124 + token.Len), byte(token.Far)})
		}
	}
	return packed
}

func checkPacked(t *testing.T, s string, want []impl.Token) {
	t.Helper()
	if got := impl.Tokens(s); !slices.Equal(got, want) {
		t.Errorf("Tokens(%.60q) = %#v, want %#v", s, got, want)
	}
	packed := packedByWord(want)
	if got := impl.Compress(s); got != packed {
		t.Errorf("Compress(%.60q) = %x, want %x", s, got, packed)
	}
	if got, ok := impl.Expand(packed); got != s || !ok {
		t.Errorf("Expand(%.60x) = %.60q, %v, want %.60q", packed, got, ok, s)
	}
}

func checkRefused(t *testing.T, why string, packed string) {
	t.Helper()
	if text, ok := impl.Expand(packed); text != "" || ok {
		t.Errorf("%s: Expand(%.60x) = %.60q, %v, want nothing and false", why, packed, text, ok)
	}
}

func TestPackedLimits(t *testing.T) {
	if impl.MaxPlain != 2000 || impl.MaxCopy != 67 || impl.MaxFar != 255 {
		t.Errorf("MaxPlain, MaxCopy, MaxFar = %d, %d, %d", impl.MaxPlain, impl.MaxCopy, impl.MaxFar)
	}
}

func TestTokensOfShortTexts(t *testing.T) {
	for _, c := range []struct {
		s    string
		want []impl.Token
	}{
		{"", nil},
		{"a", []impl.Token{told("a")}},
		{"\x00", []impl.Token{told("\x00")}},
		{"abc", []impl.Token{told("abc")}},
		{"aaa", []impl.Token{told("aaa")}},
		{"abcd", []impl.Token{told("abcd")}},
		{"aaaa", []impl.Token{told("aaaa")}},
		{"aaaaa", []impl.Token{told("a"), copied(4, 1)}},
		{"abababa", []impl.Token{told("ab"), copied(5, 2)}},
		{"hello hello", []impl.Token{told("hello "), copied(5, 6)}},
		{"abcdabcdabcdx", []impl.Token{told("abcd"), copied(8, 4), told("x")}},
		{"abcdXabcdYZ", []impl.Token{told("abcdX"), copied(4, 5), told("YZ")}},
		{"\xff\xfe\x80\x00\xff\xfe\x80\x00", []impl.Token{told("\xff\xfe\x80\x00"), copied(4, 4)}},
		{"éééé", []impl.Token{told("é"), copied(6, 2)}},
	} {
		checkPacked(t, c.s, c.want)
	}
}

func TestCompressToTheByte(t *testing.T) {
	for _, c := range []struct{ s, want string }{
		{"", ""}, {"a", "\x01a"}, {"abcd", "\x04abcd"}, {"aaaaa", "\x01a\x80\x01"}, {"hello hello", "\x06hello \x81\x06"},
		{"abcdabcdabcdx", "\x04abcd\x84\x04\x01x"}, {strings.Repeat("\x00", 68), "\x01\x00\xbf\x01"},
		{"abcd" + risingBytes(128, 100) + "abcd", "\x68abcd" + risingBytes(128, 100) + "\x80\x68"},
		{unlikeText(128), "\x7f" + unlikeText(128)[:127] + "\x01" + unlikeText(128)[127:]},
	} {
		if got := impl.Compress(c.s); got != c.want {
			t.Errorf("Compress(%.60q) = %x, want %x", c.s, got, c.want)
		}
	}
}

func TestTextsThatAreToldAreCut(t *testing.T) {
	for _, length := range []int{126, 127, 128, 129, 253, 254, 255, 381, 382} {
		s := unlikeText(length)
		var want []impl.Token
		for rest := s; rest != ""; rest = rest[min(127, len(rest)):] {
			want = append(want, told(rest[:min(127, len(rest))]))
		}
		checkPacked(t, s, want)
		checkPacked(t, s+s[length-4:], append(want, copied(4, 4)))
		checkPacked(t, "aaaaa"+s, append([]impl.Token{told("a"), copied(4, 1)}, want...))
	}
}

func TestTextsOfMaxPlain(t *testing.T) {
	for _, s := range []string{unlikeText(2001), strings.Repeat("\x00", 2001), strings.Repeat("a shelf of cells; ", 200)[:2001]} {
		checkPacked(t, s[:1999], tokensByWord(s[:1999]))
		checkPacked(t, s[:2000], tokensByWord(s[:2000]))
		for _, long := range []string{s, s + "z", strings.Repeat(s, 500)} {
			if tokens := impl.Tokens(long); len(tokens) != 0 {
				t.Errorf("Tokens of %d bytes: %d, want none", len(long), len(tokens))
			}
			if packed := impl.Compress(long); packed != "" {
				t.Errorf("Compress of %d bytes = %.60x, want nothing", len(long), packed)
			}
		}
		checkRefused(t, "of one byte more than MaxPlain", packedByWord(tokensByWord(s)))
	}
}

func TestLongestPackedTextIsLongerThanItsText(t *testing.T) {
	packed := impl.Compress(unlikeText(2000))
	if len(packed) != 2016 {
		t.Errorf("a text in which nothing stands twice is packed to %d bytes, want 2016", len(packed))
	}
	if text, ok := impl.Expand(packed); text != unlikeText(2000) || !ok {
		t.Errorf("it doesn't come back")
	}
}

func TestCopiesOfThreeBytesAreNone(t *testing.T) {
	for _, s := range []string{"abcXabcY", "abcabc", "aaaa", "abcXabc", "ababa", "abXabYabZ", "éXéYé"} {
		checkPacked(t, s, []impl.Token{told(s)})
	}
	checkPacked(t, "abcXabcX", []impl.Token{told("abcX"), copied(4, 4)})
	checkPacked(t, "ababab", []impl.Token{told("ab"), copied(4, 2)})
}

func TestCopiesAtTheEndOfTheText(t *testing.T) {
	const s = "0123456789"
	for length := 1; length <= len(s); length++ {
		for behind := range len(s) - length + 1 {
			part := s[behind : behind+length]
			want := []impl.Token{told(s + "-" + part)}
			if length >= 4 {
				want = []impl.Token{told(s + "-"), copied(length, len(s)+1-behind)}
			}
			checkPacked(t, s+"-"+part, want)
		}
	}
}

func TestCopiesOfMaxCopyAndMore(t *testing.T) {
	s := risingBytes(0, 200)
	for _, c := range []struct {
		length int
		want   []impl.Token
	}{
		{66, []impl.Token{copied(66, 200)}}, {67, []impl.Token{copied(67, 200)}}, {68, []impl.Token{copied(67, 200), told(s[67:68])}},
		{70, []impl.Token{copied(67, 200), told(s[67:70])}}, {71, []impl.Token{copied(67, 200), copied(4, 200)}},
		{134, []impl.Token{copied(67, 200), copied(67, 200)}}, {135, []impl.Token{copied(67, 200), copied(67, 200), told(s[134:135])}},
		{200, []impl.Token{copied(67, 200), copied(67, 200), copied(66, 200)}},
	} {
		checkPacked(t, s+s[:c.length], append([]impl.Token{told(s[:127]), told(s[127:])}, c.want...))
	}
}

func TestCopiesThatReachIntoThemselves(t *testing.T) {
	for _, c := range []struct {
		s    string
		want []impl.Token
	}{
		{strings.Repeat("a", 8), []impl.Token{told("a"), copied(7, 1)}},
		{strings.Repeat("a", 68), []impl.Token{told("a"), copied(67, 1)}},
		{strings.Repeat("a", 71), []impl.Token{told("a"), copied(67, 1), told("aaa")}},
		{strings.Repeat("a", 72), []impl.Token{told("a"), copied(67, 1), copied(4, 1)}},
		{strings.Repeat("a", 138), []impl.Token{told("a"), copied(67, 1), copied(67, 1), told("aaa")}},
		{strings.Repeat("ab", 20), []impl.Token{told("ab"), copied(38, 2)}},
		{strings.Repeat("abc", 20), []impl.Token{told("abc"), copied(57, 3)}},
		{strings.Repeat("abcde", 4) + "abX", []impl.Token{told("abcde"), copied(17, 5), told("X")}},
		{"abcabcaX", []impl.Token{told("abc"), copied(4, 3), told("X")}},
		{strings.Repeat(risingBytes(0, 66), 2), []impl.Token{told(risingBytes(0, 66)), copied(66, 66)}},
		{strings.Repeat(risingBytes(0, 66), 3), []impl.Token{told(risingBytes(0, 66)), copied(67, 66), copied(65, 66)}},
	} {
		checkPacked(t, c.s, c.want)
	}
}

func TestPlacesAheadUpToMaxFar(t *testing.T) {
	const four = "\xfc\xfd\xfe\xff"
	for _, far := range []int{5, 127, 128, 254, 255} {
		filled := four + risingBytes(0, far-4)
		tokens := append(tokensByWord(filled), copied(4, far))
		checkPacked(t, filled+four, tokens)
	}
	for _, far := range []int{256, 257, 258, 400} {
		filled := four + unlikeText(far-4) + four
		for _, token := range impl.Tokens(filled) {
			if token.Text == "" {
				t.Errorf("a copy of %d from %d ahead, where four bytes stand %d ahead", token.Len, token.Far, far)
			}
		}
		checkPacked(t, filled, tokensByWord(filled))
	}
}

func TestLongerCopiesBeyondMaxFarDoNotCount(t *testing.T) {
	for between := 235; between <= 245; between++ {
		s := "ABCDEFGH" + unlikeText(between) + "ABCDEX" + "ABCDEFGH"
		tokens := impl.Tokens(s)
		want := copied(8, between+14)
		if between+14 > 255 {
			want = copied(5, 6)
		}
		if !slices.Contains(tokens, want) {
			t.Errorf("of %d bytes between: %#v, want %#v in it", between, tokens, want)
		}
		checkPacked(t, s, tokensByWord(s))
	}
}

func TestOfCopiesThatAreAlikeLongTheLeastFar(t *testing.T) {
	for _, c := range []struct {
		s    string
		want []impl.Token
	}{
		{"abcdXabcdYabcdZ", []impl.Token{told("abcdX"), copied(4, 5), told("Y"), copied(4, 5), told("Z")}},
		{"abcdXabcdY--abcdZ", []impl.Token{told("abcdX"), copied(4, 5), told("Y--"), copied(4, 7), told("Z")}},
		{"abcdeXabcdYabcdZ", []impl.Token{told("abcdeX"), copied(4, 6), told("Y"), copied(4, 5), told("Z")}},
		{"aaaaaXaaaaa", []impl.Token{told("a"), copied(4, 1), told("X"), copied(5, 6)}},
		{"aaaaaaaXaaaaa", []impl.Token{told("a"), copied(6, 1), told("X"), copied(5, 6)}},
	} {
		checkPacked(t, c.s, c.want)
	}
}

func TestTheGreatestLenAheadOfTheLeastFar(t *testing.T) {
	for _, c := range []struct {
		s    string
		want []impl.Token
	}{
		{"abcdefXabcdYabcdef", []impl.Token{told("abcdefX"), copied(4, 7), told("Y"), copied(6, 12)}},
		{"abcdefXabcdYabcdeZ", []impl.Token{told("abcdefX"), copied(4, 7), told("Y"), copied(5, 12), told("Z")}},
		{"abcdXabcdefYabcdef", []impl.Token{told("abcdX"), copied(4, 5), told("efY"), copied(6, 7)}},
		{"aaaaaaabXaaaab", []impl.Token{told("a"), copied(6, 1), told("bX"), copied(5, 6)}},
	} {
		checkPacked(t, c.s, c.want)
	}
}

// A copy is made as soon as there is one, even where a longer one would begin a
// byte later; and a copy may begin in the midst of what another one has made.
func TestCopiesAreMadeFromTheBeginningOn(t *testing.T) {
	checkPacked(t, "abcd-bcdefghij-abcdefghij", []impl.Token{told("abcd-bcdefghij-"), copied(4, 15), copied(6, 11)})
	checkPacked(t, "abcdefX"+"abcdef"+"YcdefY", []impl.Token{told("abcdefX"), copied(6, 7), told("Y"), copied(5, 5)})
}

func TestPackedTextsThatExpand(t *testing.T) {
	for _, c := range []struct{ packed, want string }{
		{"", ""}, {"\x01a", "a"}, {"\x04abcd", "abcd"}, {"\x01a\x80\x01", "aaaaa"}, {"\x01a\xbf\x01", strings.Repeat("a", 68)},
		{"\x06hello \x81\x06", "hello hello"}, {"\x04abcd\x84\x04\x01x", "abcdabcdabcdx"}, {"\x02\x00\xff\x80\x02", "\x00\xff\x00\xff\x00\xff"},
		{"\x01a\xbf\x01\x03aaa", strings.Repeat("a", 71)}, {"\x7f" + unlikeText(127), unlikeText(127)},
	} {
		if got, ok := impl.Expand(c.packed); got != c.want || !ok {
			t.Errorf("Expand(%x) = %q, %v, want %q", c.packed, got, ok, c.want)
		}
	}
}

func TestTextsThatArePackedOfNone(t *testing.T) {
	far255 := "\xfc\xfd\xfe\xff" + risingBytes(0, 251)
	told255 := "\x7f" + far255[:127] + "\x7f" + far255[127:254] + "\x01" + far255[254:]
	for _, c := range []struct{ why, packed string }{
		{"cut off", "\x01"}, {"cut off", "\x7f"}, {"cut off", "\x04abc"}, {"cut off", "\x01a\x80"}, {"cut off", "\x80"},
		{"cut off", "\x04abcd\x84\x04\x01"}, {"cut off", "\x01a\xbf\x01\x03aa"},
		{"a byte too many", "\x04abcd\x84\x04\x01x\x00"}, {"a byte too many", "\x01a\x80\x01\x01"}, {"a byte too many", "\x04abcd\x84\x04\x01xy"},
		{"a byte too many", "\x01ab"}, {"a byte too many", "\x01a\x80"}, {"a byte too many", "\x01a\xff"},
		{"a length of 0", "\x00"}, {"a length of 0", "\x00\x00"}, {"a length of 0", "\x01a\x00"}, {"a length of 0", "\x00\x01a"},
		{"a length of 0", "\x00a"}, {"a length of 0", "\x04abcd\x00\x84\x04"},
		{"a copy longer than MaxCopy", "\x01a\xc0\x01"}, {"a copy longer than MaxCopy", "\x01a\xc1\x01"}, {"a copy longer than MaxCopy", "\x01a\xff\x01"},
		{"no way back", "\x01a\x80\x00"}, {"no way back", "\x04abcd\x84\x00"}, {"no way back", "\x80\x00"},
		{"from ahead of the beginning", "\x80\x01"}, {"from ahead of the beginning", "\xbf\xff"}, {"from ahead of the beginning", "\x01a\x80\x02"},
		{"from ahead of the beginning", "\x04abcd\x80\x05"}, {"from ahead of the beginning", "\x04abcd\x80\xff"},
		{"from ahead of the beginning", "\x7f" + far255[:127] + "\x7f" + far255[127:254] + "\x80\xff"},
		{"could have been longer", "\x01a\x80\x01\x80\x01"}, {"could have been longer", "\x04abcd\x80\x04\x80\x04"},
		{"could have been longer", "\x04abcd\x80\x04\x01a"}, {"could have been longer", "\x01a\x80\x01\x01a"}, {"could have been longer", "\x01a\xbe\x01\x01a"},
		{"could have been longer", "\x01a\xbe\x01\x04aaaa"}, {"could have been longer", "\x01a\xbe\x01\x80\x01"},
		{"could have been longer, from farther ahead", "\x07abcdefX\x80\x07\x01Y\x80\x05\x02ef"},
		{"could have been nearer", "\x05abcdX\x80\x05\x01Y\x80\x0a"}, {"could have been nearer", "\x01a\xbf\x01\x80\x02"},
		{"could have been nearer", "\x02aa\x80\x02"}, {"could have been nearer", "\x04abcd\x80\x04\x80\x08"},
		{"could have been a copy", "\x05aaaaa"}, {"could have been a copy", "\x02aa\x80\x01"}, {"could have been a copy", "\x08abcdabcd"},
		{"could have been a copy", "\x04abcd\x04abcd"}, {"could have been a copy", "\x05abcda\x83\x04"}, {"could have been a copy", "\x01a\xbf\x01\x04aaaa"},
		{"could have been a copy", told255 + "\x04\xfc\xfd\xfe\xff"},
		{"two texts that make one", "\x01a\x01b"}, {"two texts that make one", "\x7e" + unlikeText(126) + "\x01x"},
		{"two texts that make one", "\x01" + unlikeText(128)[:1] + "\x7f" + unlikeText(128)[1:]}, {"two texts that make one", "\x04abcd\x80\x04\x01x\x01y"},
		{"a text that isn't packed", "abc"}, {"a text that isn't packed", "hello hello"}, {"a text that isn't packed", "\xff"},
		{"far too long", strings.Repeat("\xbf\x01", 100000)}, {"far too long", "\x01a" + strings.Repeat("\xbf\x01", 100000)},
		{"far too long", strings.Repeat("\x7f", 128*1000)}, {"far too long", strings.Repeat("\x00", 100000)},
	} {
		checkRefused(t, c.why, c.packed)
	}
	if text, ok := impl.Expand(told255 + "\x80\xff"); text != far255+"\xfc\xfd\xfe\xff" || !ok {
		t.Error("a copy from MaxFar ahead doesn't come back")
	}
}

func TestEachFirstByteOfAToken(t *testing.T) {
	const s = "abc"
	for head := range 256 {
		packed := "\x03" + s + string([]byte{byte(head), 3})
		length := head - 124
		if length < 4 || length > 67 {
			checkRefused(t, fmt.Sprintf("first byte %d", head), packed)
			continue
		}
		want := s + strings.Repeat(s, 23)[:length]
		if got, ok := impl.Expand(packed); got != want || !ok {
			t.Errorf("Expand(%x) = %q, %v, want %q", packed, got, ok, want)
		}
	}
}

func TestShortTextsAreTokenedByWord(t *testing.T) {
	for _, s := range append(allTexts("ab", 12), allTexts("a\x00\xff", 7)...) {
		if got, want := impl.Tokens(s), tokensByWord(s); !slices.Equal(got, want) {
			t.Fatalf("Tokens(%q) = %#v, want %#v", s, got, want)
		}
	}
}

// Of these bytes both texts and copies can be made, so that nearly all ways to
// get a packed text wrong are among the texts.
func TestExpandTakesTextsOfCompressAlone(t *testing.T) {
	packings := map[string]string{}
	for _, s := range allTexts("\x01\x02\x80", 9) {
		packings[packedByWord(tokensByWord(s))] = s
	}
	for _, packed := range allTexts("\x00\x01\x02\x03\x80\x81", 6) {
		text, ok := impl.Expand(packed)
		if ok && impl.Compress(text) != packed || !ok && text != "" {
			t.Fatalf("Expand(%x) = %x, %v, but Compress of that is %x", packed, text, ok, impl.Compress(text))
		}
		if want, is := packings[packed]; is && (text != want || !ok) {
			t.Fatalf("Expand(%x) = %x, %v, want %x", packed, text, ok, want)
		}
	}
	for packed, s := range packings {
		if text, ok := impl.Expand(packed); text != s || !ok {
			t.Fatalf("Expand(%x) = %x, %v, want %x", packed, text, ok, s)
		}
	}
}

func TestEachPackedTextIsOfOneTextAlone(t *testing.T) {
	texts := map[string]string{}
	for _, s := range append(allTexts("ab", 12), allTexts("\x01\x80\x04", 8)...) {
		packed := impl.Compress(s)
		if other, is := texts[packed]; is && other != s {
			t.Fatalf("%q and %q are both packed to %x", s, other, packed)
		}
		texts[packed] = s
		if text, ok := impl.Expand(packed); text != s || !ok {
			t.Fatalf("Expand of Compress(%q) = %q, %v", s, text, ok)
		}
	}
}

// drawnTexts are the same ones at each run: of few bytes and of many, with
// parts of what is ahead said again.
func drawnTexts(count int) []string {
	draw := rand.New(rand.NewSource(3))
	drawn := make([]string, count)
	for i := range drawn {
		length, kinds := draw.Intn(700), 1+draw.Intn(1<<draw.Intn(9))
		var s []byte
		for len(s) < length {
			if len(s) > 0 && draw.Intn(8) == 0 {
				far, again := 1+draw.Intn(min(len(s), 270)), draw.Intn(80)
				for range again {
					s = append(s, s[len(s)-far])
				}
			}
			s = append(s, byte(draw.Intn(kinds)))
		}
		drawn[i] = string(s)
	}
	return drawn
}

func TestDrawnTextsArePackedByWord(t *testing.T) {
	for _, s := range drawnTexts(400) {
		checkPacked(t, s, tokensByWord(s))
	}
}

func TestChangedPackedTextsAreOfOneTextAlone(t *testing.T) {
	draw := rand.New(rand.NewSource(4))
	for _, s := range drawnTexts(80) {
		packed := impl.Compress(s)
		if s == "" {
			continue
		}
		checkRefused(t, "a nought behind", packed+"\x00")
		for range 12 {
			changed := []byte(packed)
			changed[draw.Intn(len(changed))] ^= byte(1 + draw.Intn(255))
			text, ok := impl.Expand(string(changed))
			if !ok && text != "" || ok && (text == s || packedByWord(tokensByWord(text)) != string(changed)) {
				t.Fatalf("Expand(%x) = %x, %v", changed, text, ok)
			}
		}
	}
}

func TestPackedAnswersAreNewMemory(t *testing.T) {
	const s = "abcdXabcdY"
	want := tokensByWord(s)
	first, second := impl.Tokens(s), impl.Tokens(s)
	for i := range first {
		first[i] = told("changed")
	}
	_ = append(first[:1], told("more"))
	if !slices.Equal(second, want) || !slices.Equal(impl.Tokens(s), want) {
		t.Errorf("one answer changed another: %#v, want %#v", second, want)
	}
}

func TestNothingIsKeptOfAnEarlierText(t *testing.T) {
	checkPacked(t, "abcdefgh", []impl.Token{told("abcdefgh")})
	checkPacked(t, "efghabcd", []impl.Token{told("efghabcd")})
	checkRefused(t, "from ahead of the beginning", "\x80\x04")
}

func FuzzPacked(f *testing.F) {
	for _, s := range append(drawnTexts(20), texts...) {
		f.Add(s)
		f.Add(impl.Compress(s))
	}
	f.Fuzz(func(t *testing.T, s string) {
		if text, ok := impl.Expand(s); ok && packedByWord(tokensByWord(text)) != s || !ok && text != "" {
			t.Errorf("Expand(%x) = %x, %v", s, text, ok)
		}
		if len(s) > impl.MaxPlain {
			if len(impl.Tokens(s)) != 0 || impl.Compress(s) != "" {
				t.Errorf("a text of %d bytes is packed", len(s))
			}
			return
		}
		checkPacked(t, s, tokensByWord(s))
	})
}
