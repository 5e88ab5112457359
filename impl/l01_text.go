package impl

import (
	"iter"
	"strconv"
	"strings"
)

const (
	// No number that ReadDec takes has more digits. Longer texts are refused
	// before they are read, so that the sum of their digits can't run over.
	decDigits = 9

	lineMarks = "\n"
	wordMarks = " \t"
)

func DecText(n int) string { return strconv.Itoa(n) }

func ReadDec(s string) int {
	if len(s) > decDigits {
		return -1
	}
	n := 0
	for i := range len(s) {
		if s[i] < '0' || s[i] > '9' {
			return -1
		}
		n = n*10 + int(s[i]-'0')
	}
	// Each number has one text alone: the empty text and needless noughts
	// ahead come to a number whose text is another one.
	if DecText(n) != s {
		return -1
	}
	return n
}

func Lines(s string) []string {
	// Between no marks stands one empty part, but the empty text has no line.
	if s == "" {
		return nil
	}
	var lines []string
	for line := range partsBetween(s, lineMarks) {
		lines = append(lines, line)
	}
	return lines
}

func Words(s string) []string {
	var words []string
	for word := range wordsOf(s) {
		words = append(words, word)
	}
	return words
}

func Before(a string, b string) bool { return a < b }

func Shared(a string, b string) int {
	most := min(len(a), len(b))
	for i := range most {
		if a[i] != b[i] {
			return i
		}
	}
	return most
}

func wordsOf(s string) iter.Seq[string] {
	return func(yield func(string) bool) {
	parts:
		for part := range partsBetween(s, wordMarks) {
			switch {
			case part == "": // two marks side by side have no word between them
				continue parts
			case !yield(part):
				break parts
			}
		}
	}
}

func partsBetween(s string, marks string) iter.Seq[string] {
	return func(yield func(string) bool) {
		from := 0
	places:
		for at := 0; at <= len(s); at++ { // the end of s ends its last part as a mark does
			switch {
			case at < len(s) && strings.IndexByte(marks, s[at]) < 0:
				continue places
			case !yield(s[from:at]):
				break places
			}
			from = at + 1
		}
	}
}
