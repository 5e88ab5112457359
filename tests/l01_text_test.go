package tests

import (
	"math"
	"slices"
	"strings"
	"testing"

	"loop.example/g00813/impl"
)

// texts are held against each other in pairs: texts that begin others, bytes
// above 127, bytes that are no runes, and all the marks of the chapter.
var texts = []string{
	"", "\x00", "\x00\x00", "\t", "\n", "\n\n", " ", "  ", "-", "0", "00", "9", "10", "A", "Z", "a", "aa", "ab", "abc",
	"abd", "b", "apple", "apply", "a b", "a\tb", "a\nb", "\x7f", "\x80", "\xc3", "é", "\xff", "\xff\x00", "\xff\xff",
	strings.Repeat("a", 3000), strings.Repeat("a", 3000) + "b",
}

func allTexts(alphabet string, longest int) []string {
	all := []string{""}
	for from, length := 0, 0; length < longest; length++ {
		end := len(all)
		for _, s := range all[from:end] {
			for i := range len(alphabet) {
				all = append(all, s+alphabet[i:i+1])
			}
		}
		from = end
	}
	return all
}

func TestDecText(t *testing.T) {
	for _, c := range []struct {
		n    int
		want string
	}{
		{0, "0"}, {1, "1"}, {9, "9"}, {10, "10"}, {100, "100"}, {999999999, "999999999"}, {1000000000, "1000000000"},
		{-1, "-1"}, {-10, "-10"}, {-120, "-120"}, {-1000000000, "-1000000000"},
		{math.MaxInt64, "9223372036854775807"}, {math.MinInt64, "-9223372036854775808"}, {math.MinInt64 + 1, "-9223372036854775807"},
	} {
		if got := impl.DecText(c.n); got != c.want {
			t.Errorf("DecText(%d) = %q, want %q", c.n, got, c.want)
		}
	}
}

func TestReadDecOfNumbers(t *testing.T) {
	for _, c := range []struct {
		s    string
		want int
	}{
		{"0", 0}, {"7", 7}, {"10", 10}, {"120", 120}, {"1000", 1000}, {"99999999", 99999999}, {"100000000", 100000000},
		{"999999998", 999999998}, {"999999999", 999999999},
	} {
		if got := impl.ReadDec(c.s); got != c.want {
			t.Errorf("ReadDec(%q) = %d, want %d", c.s, got, c.want)
		}
	}
}

func TestReadDecOfNoNumbers(t *testing.T) {
	for _, s := range []string{
		"", "00", "01", "012", "000000000", "0000000001", "099999999", "0999999999",
		"1000000000", "9999999999", "9223372036854775807", "9223372036854775808",
		"18446744073709551616", "18446744073709551617", "36893488147419103239", strings.Repeat("9", 100000),
		strings.Repeat("0", 100000), "1" + strings.Repeat("0", 64),
		"-", "+", "-0", "-1", "-120", "+0", "+1", "--1", "1-", "1+", "-9223372036854775808",
		" ", " 1", "1 ", "1 2", "\t1", "1\t", "1\n", "\n1", "1\r", "\x00", "1\x00", "\x001",
		"1_000", "1,000", "1.0", "1e3", "0x1", "0b1", "0o7", "a", "1a", "a1", "/", ":", "1/", "1:",
		"\x80", "\xb0", "\xb1", "1\xb1", "\xff", "é", "１", "٣", "²", "1\u00a0",
	} {
		if got := impl.ReadDec(s); got != -1 {
			t.Errorf("ReadDec(%.40q) = %d, want -1", s, got)
		}
	}
}

func TestReadDecOfEachByte(t *testing.T) {
	for b := range 256 {
		want := -1
		if b >= '0' && b <= '9' {
			want = b - '0'
		}
		if got := impl.ReadDec(string([]byte{byte(b)})); got != want {
			t.Errorf("ReadDec of byte %d = %d, want %d", b, got, want)
		}
	}
}

func TestNumbersComeBack(t *testing.T) {
	const most = 999999999
	for _, n := range []int{0, 1, 9, 10, 11, 99, 100, 101, most - 1, most} {
		if got := impl.ReadDec(impl.DecText(n)); got != n {
			t.Errorf("ReadDec(DecText(%d)) = %d", n, got)
		}
	}
	for n := 0; n <= most; n += 99991 {
		if got := impl.ReadDec(impl.DecText(n)); got != n {
			t.Fatalf("ReadDec(DecText(%d)) = %d", n, got)
		}
	}
	for _, n := range []int{-1, -most, most + 1, 10 * most, math.MaxInt32, math.MaxInt64, math.MinInt64} {
		if got := impl.ReadDec(impl.DecText(n)); got != -1 {
			t.Errorf("ReadDec(DecText(%d)) = %d, want -1", n, got)
		}
	}
}

func TestReadDecTakesTextsOfDecTextAlone(t *testing.T) {
	numbers := map[string]int{}
	for n := range 10000 {
		numbers[impl.DecText(n)] = n
	}
	for _, s := range allTexts("0192-+ \x80", 4) {
		want, ok := numbers[s]
		if !ok {
			want = -1
		}
		if got := impl.ReadDec(s); got != want {
			t.Fatalf("ReadDec(%q) = %d, want %d", s, got, want)
		}
	}
}

func TestLines(t *testing.T) {
	for _, c := range []struct {
		s    string
		want []string
	}{
		{"", nil}, {"\n", []string{"", ""}}, {"\n\n", []string{"", "", ""}}, {"a", []string{"a"}}, {"a\n", []string{"a", ""}},
		{"\na", []string{"", "a"}}, {"a\nb", []string{"a", "b"}}, {"a\n\nb\n", []string{"a", "", "b", ""}},
		{" ", []string{" "}}, {" a\tb \n\t", []string{" a\tb ", "\t"}}, {"a\r\nb", []string{"a\r", "b"}},
		{"\x00\n\xff\n\x8a", []string{"\x00", "\xff", "\x8a"}}, {"a\x0bb\x0cc\u0085d\u2028e", []string{"a\x0bb\x0cc\u0085d\u2028e"}},
	} {
		if got := impl.Lines(c.s); !slices.Equal(got, c.want) {
			t.Errorf("Lines(%q) = %q, want %q", c.s, got, c.want)
		}
	}
}

func TestLinesMakeTheTextAgain(t *testing.T) {
	for _, s := range allTexts("a\n \t\xff", 5) {
		lines := impl.Lines(s)
		if strings.Join(lines, "\n") != s {
			t.Fatalf("Lines(%q) = %q", s, lines)
		}
		if s != "" && len(lines) != strings.Count(s, "\n")+1 {
			t.Fatalf("Lines(%q) has %d parts", s, len(lines))
		}
	}
}

func TestWords(t *testing.T) {
	for _, c := range []struct {
		s    string
		want []string
	}{
		{"", nil}, {" ", nil}, {"\t", nil}, {" \t \t\t  ", nil}, {"a", []string{"a"}}, {" a", []string{"a"}}, {"a ", []string{"a"}},
		{"\ta\t", []string{"a"}}, {" a\tbc  d", []string{"a", "bc", "d"}}, {"put row col 12 v", []string{"put", "row", "col", "12", "v"}},
		{"a\nb c", []string{"a\nb", "c"}}, {"\n", []string{"\n"}}, {"a\rb\x0bc\x0cd", []string{"a\rb\x0bc\x0cd"}},
		{"\x00 \xff\x80\t\xa0", []string{"\x00", "\xff\x80", "\xa0"}}, {"a\u00a0b\u2003c", []string{"a\u00a0b\u2003c"}},
	} {
		if got := impl.Words(c.s); !slices.Equal(got, c.want) {
			t.Errorf("Words(%q) = %q, want %q", c.s, got, c.want)
		}
	}
}

func TestWordsAreTheLongestParts(t *testing.T) {
	for _, s := range allTexts("a\n \t\xff", 5) {
		want := strings.FieldsFunc(strings.ReplaceAll(s, "\t", " "), func(r rune) bool { return r == ' ' })
		if got := impl.Words(s); !slices.Equal(got, want) {
			t.Fatalf("Words(%q) = %q, want %q", s, got, want)
		}
	}
}

func TestBefore(t *testing.T) {
	rising := []string{"", "\x00", "\x00\x00", "\n", " ", "0", "10", "9", "Z", "a", "ab", "abc", "abd", "b", "\x7f", "\x80", "é", "\xff", "\xff\x00", "\xff\xff"}
	for i, a := range rising {
		for j, b := range rising {
			if got := impl.Before(a, b); got != (i < j) {
				t.Errorf("Before(%q, %q) = %v", a, b, got)
			}
		}
	}
}

func TestOneIsAheadOrTheyAreOne(t *testing.T) {
	for _, a := range texts {
		for _, b := range texts {
			held := 0
			for _, so := range []bool{a == b, impl.Before(a, b), impl.Before(b, a)} {
				if so {
					held++
				}
			}
			if held != 1 {
				t.Errorf("of %.20q and %.20q %d hold, want one", a, b, held)
			}
		}
	}
}

func TestBeforeGoesOn(t *testing.T) {
	few := allTexts("a\x00\xff", 3)
	for _, a := range few {
		for _, b := range few {
			for _, c := range few {
				if impl.Before(a, b) && impl.Before(b, c) && !impl.Before(a, c) {
					t.Fatalf("%q ahead of %q, that ahead of %q, but not the first ahead of the last", a, b, c)
				}
			}
		}
	}
}

func TestShared(t *testing.T) {
	for _, c := range []struct {
		a, b string
		want int
	}{
		{"", "", 0}, {"", "a", 0}, {"a", "a", 1}, {"x", "y", 0}, {"ab", "abc", 2}, {"apple", "apply", 4}, {"xab", "yab", 0},
		{"abxc", "abyc", 2}, {"\x00\xff", "\x00\xfe", 1}, {"é", "è", 1}, {"\x80", "\xff", 0},
		{strings.Repeat("a", 3000), strings.Repeat("a", 2999) + "b", 2999},
	} {
		if got := impl.Shared(c.a, c.b); got != c.want {
			t.Errorf("Shared(%.20q, %.20q) = %d, want %d", c.a, c.b, got, c.want)
		}
	}
}

func TestSharedTellsWhoIsAhead(t *testing.T) {
	for _, a := range texts {
		for _, b := range texts {
			n := impl.Shared(a, b)
			if n != impl.Shared(b, a) || n < 0 || n > len(a) || n > len(b) || a[:n] != b[:n] {
				t.Fatalf("Shared(%.20q, %.20q) = %d", a, b, n)
			}
			if n < len(a) && n < len(b) && a[n] == b[n] {
				t.Errorf("Shared(%.20q, %.20q) = %d, but one more is alike", a, b, n)
			}
			ahead := n < len(b) && (n == len(a) || a[n] < b[n])
			if impl.Before(a, b) != ahead {
				t.Errorf("Before(%.20q, %.20q) isn't as their first other byte tells", a, b)
			}
		}
	}
}

func TestTextAnswersAreNewMemory(t *testing.T) {
	const s = "a b\nc d\n"
	for _, f := range []func(string) []string{impl.Lines, impl.Words} {
		want := slices.Clone(f(s))
		first := f(s)
		second := f(s)
		for i := range first {
			first[i] = "changed"
		}
		if first = append(first, "more"); !slices.Equal(second, want) || !slices.Equal(f(s), want) {
			t.Errorf("one answer changed another: %q, want %q", second, want)
		}
	}
}

func TestTextsAnswerAtLongArguments(t *testing.T) {
	long := strings.Repeat("a \n\t", 50000)
	if n := len(impl.Lines(long)); n != 50001 {
		t.Errorf("Lines tells %d parts", n)
	}
	if n := len(impl.Words(long)); n != 100000 { // a newline between marks is a word
		t.Errorf("Words tells %d parts", n)
	}
	if n := impl.Shared(long, long); n != len(long) || impl.Before(long, long) {
		t.Errorf("Shared of a text and itself is %d", n)
	}
}

func FuzzTexts(f *testing.F) {
	for _, s := range texts {
		f.Add(s, 0)
	}
	f.Fuzz(func(t *testing.T, s string, n int) {
		if got := impl.ReadDec(s); got != -1 && (got < 0 || got > 999999999 || impl.DecText(got) != s) {
			t.Errorf("ReadDec(%q) = %d", s, got)
		}
		if got := impl.ReadDec(impl.DecText(n)); n >= 0 && n <= 999999999 && got != n {
			t.Errorf("ReadDec(DecText(%d)) = %d", n, got)
		}
		if strings.Join(impl.Lines(s), "\n") != s {
			t.Errorf("Lines(%q) = %q", s, impl.Lines(s))
		}
		for _, w := range impl.Words(s) {
			if w == "" || strings.ContainsAny(w, " \t") {
				t.Errorf("Words(%q) has %q", s, w)
			}
		}
	})
}
