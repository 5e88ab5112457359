package tests

import (
	"encoding/binary"
	"fmt"
	"hash/crc32"
	"math"
	"math/rand"
	"regexp"
	"slices"
	"strings"
	"testing"

	"loop.example/g00813/impl"
)

var (
	wrongMsgKinds = []int{0, 8, 9, -1, -7, 127, 128, 129, 255, 256, 256 + 1, 256 + 7, 1<<32 + 1, math.MinInt64, math.MinInt64 + 1, math.MaxInt64 - 1, math.MaxInt64}
	rightTags     = []int{0, 1, 2, 127, 128, 300, 16383, 16384, 65536, 999999, 1000000}
	wrongTags     = []int{-1, -2, -300, -1000000, 1000001, 1000002, 1<<32 - 1, 1 << 32, 1<<32 + 1, math.MinInt64, math.MinInt64 + 1, math.MaxInt64 - 1, math.MaxInt64}
	rightValues   = []string{"", "v", "\x00", "\xff", "hi", "a\nb ", strings.Repeat("v", 29), strings.Repeat("v", 30), strings.Repeat("\x00", 30), strings.Repeat("\xff", 30)}
	wrongValues   = []string{strings.Repeat("v", 31), strings.Repeat("\x00", 31), strings.Repeat("v", 127), strings.Repeat("v", 128), strings.Repeat("v", 256), strings.Repeat("v", 256+30), strings.Repeat("v", 100000)}
)

// What a Msg of each Kind has: names, a time, a Value.
var msgShapes = map[int]struct{ named, timed, valued bool }{
	1: {true, true, true}, 2: {true, true, false}, 3: {true, true, false}, 4: {false, true, true}, 5: {}, 6: {}, 7: {},
}

var nameByWord = regexp.MustCompile(`^[!-~]{1,16}$`)

func msgRightByWord(m impl.Msg) bool {
	shape, is := msgShapes[m.Kind]
	names := m.Row == "" && m.Col == ""
	if shape.named {
		names = nameByWord.MatchString(m.Row) && nameByWord.MatchString(m.Col)
	}
	mostAt, mostValue := 0, 0
	if shape.timed {
		mostAt = 1000000000
	}
	if shape.valued {
		mostValue = 30
	}
	return is && m.Tag >= 0 && m.Tag <= 1000000 && names && m.At >= 0 && m.At <= mostAt && len(m.Value) <= mostValue
}

func sizedByWord(s string) string { return varByWord(len(s)) + s }

// msgByWord is any Msg, right or not, in the form of PutMsg.
func msgByWord(m impl.Msg) string {
	return string([]byte{byte(m.Kind)}) + varByWord(m.Tag) + sizedByWord(m.Row) + sizedByWord(m.Col) + varByWord(m.At) + sizedByWord(m.Value)
}

// msgOfText goes through a text by the words of the document.
func msgOfText(s string) (impl.Msg, bool) {
	at := 1
	number := func() int {
		n, behind := uvarint(s, at)
		at = behind
		return n
	}
	text := func() string {
		length := number()
		if at < 0 || length > len(s)-at {
			at = -1
			return ""
		}
		at += length
		return s[at-length : at]
	}
	if s == "" {
		return impl.Msg{}, false
	}
	var m impl.Msg
	m.Kind, m.Tag = int(s[0]), number()
	m.Row, m.Col = text(), text()
	m.At, m.Value = number(), text()
	if at != len(s) || !msgRightByWord(m) {
		return impl.Msg{}, false
	}
	return m, true
}

func frameByWord(s string) string {
	sum := crc32.Checksum([]byte(s), crc32.MakeTable(crc32.Castagnoli))
	return string([]byte{byte(len(s))}) + fourBytes(int(sum)) + s
}

func waitsByWord(s string) bool {
	return s == "" || s[0] >= 1 && s[0] <= 120 && len(s) < 5+int(s[0])
}

// takenByWord is what becomes of a text that waits where bytes come.
func takenByWord(left, s string) (impl.Feed, []string) {
	var list []string
	rest := left + s
	for !waitsByWord(rest) {
		end := 5 + int(rest[0])
		if rest[0] < 1 || rest[0] > 120 || rest[:end] != frameByWord(rest[5:end]) {
			return impl.Feed{Bad: true}, list
		}
		list, rest = append(list, rest[5:end]), rest[end:]
	}
	return impl.Feed{Left: rest}, list
}

// plainMsgs are one right Msg of each Kind.
func plainMsgs() []impl.Msg {
	return []impl.Msg{
		{Kind: 1, Tag: 300, Row: "r", Col: "c", At: 5, Value: "hi"}, {Kind: 2, Tag: 1, Row: "row", Col: "c", At: 1000}, {Kind: 3, Tag: 1000000, Row: "r", Col: "col"},
		{Kind: 4, Tag: 2, At: 5, Value: "v"}, {Kind: 5, Tag: 128}, {Kind: 6}, {Kind: 7, Tag: 16384},
	}
}

// rightMsgs have each Kind with each edge of what such a Msg has.
func rightMsgs() []impl.Msg {
	list := plainMsgs()
	for _, m := range plainMsgs() {
		shape := msgShapes[m.Kind]
		with := func(set func(m *impl.Msg)) {
			other := m
			set(&other)
			list = append(list, other)
		}
		for _, tag := range rightTags {
			with(func(m *impl.Msg) { m.Tag = tag })
		}
		for _, name := range rightNames {
			if shape.named {
				with(func(m *impl.Msg) { m.Row = name })
				with(func(m *impl.Msg) { m.Col = name })
				with(func(m *impl.Msg) { m.Row, m.Col = name, name })
			}
		}
		for _, at := range rightTimes {
			if shape.timed {
				with(func(m *impl.Msg) { m.At = at })
			}
		}
		for _, value := range rightValues {
			if shape.valued {
				with(func(m *impl.Msg) { m.Value = value })
			}
		}
	}
	return append(list,
		impl.Msg{Kind: 1, Tag: 1000000, Row: longestName, Col: strings.Repeat("~", 16), At: 1000000000, Value: strings.Repeat("\xff", 30)},
		impl.Msg{Kind: 1, Row: "!", Col: "!"}, impl.Msg{Kind: 4}, impl.Msg{Kind: 4, Tag: 1000000, At: 1000000000, Value: strings.Repeat("\x00", 30)},
	)
}

func drawnMsg(draw *rand.Rand) impl.Msg {
	m := impl.Msg{Kind: 1 + draw.Intn(7), Tag: draw.Intn(1 << draw.Intn(20))}
	shape := msgShapes[m.Kind]
	if shape.named {
		m.Row, m.Col = rightNames[draw.Intn(len(rightNames))], rightNames[draw.Intn(len(rightNames))]
	}
	if shape.timed {
		m.At = draw.Intn(1 << draw.Intn(30))
	}
	if shape.valued {
		m.Value = drawnBytes(draw, draw.Intn(31))
	}
	return m
}

func shownMsg(m impl.Msg) string {
	shown := fmt.Sprintf("%#v", m)
	return shown[:min(len(shown), 300)]
}

func checkMsg(t *testing.T, m impl.Msg) string {
	t.Helper()
	want := msgByWord(m)
	if !msgRightByWord(m) || !impl.MsgOk(m) {
		t.Fatalf("MsgOk(%#v) = %v, want true", m, impl.MsgOk(m))
	}
	if got := impl.PutMsg(m); got != want {
		t.Fatalf("PutMsg(%#v) = %x, want %x", m, got, want)
	}
	if got, ok := impl.GetMsg(want); !ok || got != m {
		t.Fatalf("GetMsg(%x) = %#v, %v, want %#v", want, got, ok, m)
	}
	return want
}

func checkWrongMsg(t *testing.T, why string, m impl.Msg) {
	t.Helper()
	if msgRightByWord(m) || impl.MsgOk(m) {
		t.Fatalf("%s: MsgOk(%s) = %v, want false", why, shownMsg(m), impl.MsgOk(m))
	}
	if got := impl.PutMsg(m); got != "" {
		t.Fatalf("%s: PutMsg(%s) = %.200x, want nothing", why, shownMsg(m), got)
	}
}

func checkNoMsg(t *testing.T, why string, s string) {
	t.Helper()
	if got, ok := impl.GetMsg(s); ok || got != (impl.Msg{}) {
		t.Fatalf("%s: GetMsg(%.200x) = %#v, %v, want the zero Msg and false", why, s, got, ok)
	}
	if m, is := msgOfText(s); is {
		t.Fatalf("%s: by the words of the document %x is %#v", why, s, m)
	}
}

// checkText is of a text that may be a Msg by chance.
func checkText(t *testing.T, why string, s string) bool {
	t.Helper()
	m, is := msgOfText(s)
	if !is {
		checkNoMsg(t, why, s)
	} else if checkMsg(t, m) != s {
		t.Fatalf("%s: %x isn't the text of %#v", why, s, m)
	}
	return is
}

func checkTake(t *testing.T, f impl.Feed, s string) (impl.Feed, []string) {
	t.Helper()
	want, list := f, []string(nil)
	if !f.Bad && waitsByWord(f.Left) {
		want, list = takenByWord(f.Left, s)
	}
	got, texts := impl.Take(f, s)
	if got != want || !slices.Equal(texts, list) {
		t.Fatalf("Take(%#v, %.300x) = %#v, %.300q, want %#v, %.300q", f, s, got, texts, want, list)
	}
	if impl.FeedOk(f) != impl.FeedOk(got) {
		t.Fatalf("Take(%#v, %.300x) is right %v, what it was given %v", f, s, impl.FeedOk(got), impl.FeedOk(f))
	}
	return got, texts
}

// checkPieces takes a stream in pieces, each as long as length says.
func checkPieces(t *testing.T, stream string, want []string, length func() int) {
	t.Helper()
	var f impl.Feed
	var all []string
	for rest := stream; rest != ""; {
		piece := rest[:min(length(), len(rest))]
		rest = rest[len(piece):]
		var texts []string
		f, texts = checkTake(t, f, piece)
		all = append(all, texts...)
	}
	if f != (impl.Feed{}) || !slices.Equal(all, want) {
		t.Fatalf("in pieces %.300x is %.300q, with %#v left, want %.300q", stream, all, f, want)
	}
}

func TestMessageLimits(t *testing.T) {
	if impl.MaxTag != 1000000 || impl.MaxFrame != 120 {
		t.Errorf("MaxTag, MaxFrame = %d, %d", impl.MaxTag, impl.MaxFrame)
	}
	kinds := [...]int{impl.MsPut, impl.MsDel, impl.MsGet, impl.MsFound, impl.MsNone, impl.MsDone, impl.MsBad}
	if kinds != [...]int{1, 2, 3, 4, 5, 6, 7} {
		t.Errorf("Kinds %v", kinds)
	}
}

func TestMessagesToTheByte(t *testing.T) {
	for _, c := range []struct {
		m    impl.Msg
		want string
	}{
		{impl.Msg{Kind: 1, Tag: 300, Row: "r", Col: "c", At: 5, Value: "hi"}, "\x01\xac\x02\x01r\x01c\x05\x02hi"},
		{impl.Msg{Kind: 1, Row: "row", Col: "co"}, "\x01\x00\x03row\x02co\x00\x00"},
		{impl.Msg{Kind: 2, Tag: 127, Row: "r", Col: "c", At: 128}, "\x02\x7f\x01r\x01c\x80\x01\x00"},
		{impl.Msg{Kind: 3, Tag: 1000000, Row: "r", Col: "c", At: 1000000000}, "\x03\xc0\x84\x3d\x01r\x01c\x80\x94\xeb\xdc\x03\x00"},
		{impl.Msg{Kind: 4, Tag: 1, At: 5, Value: "v\x00"}, "\x04\x01\x00\x00\x05\x02v\x00"},
		{impl.Msg{Kind: 4}, "\x04\x00\x00\x00\x00\x00"},
		{impl.Msg{Kind: 5, Tag: 128}, "\x05\x80\x01\x00\x00\x00\x00"},
		{impl.Msg{Kind: 6, Tag: 2}, "\x06\x02\x00\x00\x00\x00"},
		{impl.Msg{Kind: 7}, "\x07\x00\x00\x00\x00\x00"},
		{impl.Msg{Kind: 1, Tag: 7, Row: longestName, Col: "c", At: 1, Value: strings.Repeat("v", 30)}, "\x01\x07\x10" + longestName + "\x01c\x01\x1e" + strings.Repeat("v", 30)},
	} {
		if got := impl.PutMsg(c.m); got != c.want {
			t.Errorf("PutMsg(%#v) = %x, want %x", c.m, got, c.want)
		}
		checkMsg(t, c.m)
	}
}

func TestRightMessagesComeBack(t *testing.T) {
	seen := map[string]impl.Msg{}
	for _, m := range rightMsgs() {
		s := checkMsg(t, m)
		if other, is := seen[s]; is && other != m {
			t.Errorf("one text of %#v and of %#v", m, other)
		}
		if len(s) > 74 {
			t.Errorf("%#v has %d bytes", m, len(s))
		}
		seen[s] = m
	}
	draw := rand.New(rand.NewSource(23))
	for range 2000 {
		checkMsg(t, drawnMsg(draw))
	}
}

func TestMessagesOfNoKind(t *testing.T) {
	for _, m := range append(plainMsgs(), impl.Msg{}) {
		for _, kind := range wrongMsgKinds {
			m.Kind = kind
			checkWrongMsg(t, "a Kind that is none", m)
		}
	}
}

func TestMessagesWithOtherTags(t *testing.T) {
	for _, m := range plainMsgs() {
		for _, tag := range wrongTags {
			m.Tag = tag
			checkWrongMsg(t, "a Tag out of bounds", m)
		}
	}
}

func TestMessagesWithOtherNames(t *testing.T) {
	for _, m := range plainMsgs() {
		named := msgShapes[m.Kind].named
		for _, name := range append(slices.Clone(rightNames), wrongNames...) {
			if slices.Contains(rightNames, name) == named || name == "" && !named {
				continue
			}
			for _, names := range [][2]string{{name, m.Col}, {m.Row, name}, {name, name}} {
				other := m
				other.Row, other.Col = names[0], names[1]
				checkWrongMsg(t, "names that aren't so", other)
			}
		}
	}
	for b := range 256 {
		name := string([]byte{byte(b)})
		for _, m := range []impl.Msg{{Kind: 1, Row: name, Col: "c"}, {Kind: 2, Row: "r", Col: name}, {Kind: 3, Row: "r" + name, Col: name + "c"}} {
			if want := b >= 33 && b <= 126; impl.MsgOk(m) != want || (impl.PutMsg(m) != "") != want {
				t.Errorf("whether %#v is right isn't %v", m, want)
			}
		}
	}
}

func TestMessagesWithOtherTimes(t *testing.T) {
	for _, m := range plainMsgs() {
		for _, at := range wrongTimes {
			m.At = at
			checkWrongMsg(t, "an At out of bounds", m)
		}
		for _, at := range rightTimes {
			m.At = at
			if at != 0 && !msgShapes[m.Kind].timed {
				checkWrongMsg(t, "an At where there is none", m)
			} else {
				checkMsg(t, m)
			}
		}
	}
}

func TestMessagesWithOtherValues(t *testing.T) {
	for _, m := range plainMsgs() {
		for _, value := range wrongValues {
			m.Value = value
			checkWrongMsg(t, "a Value too long", m)
		}
		for _, value := range rightValues {
			m.Value = value
			if value != "" && !msgShapes[m.Kind].valued {
				checkWrongMsg(t, "a Value where there is none", m)
			} else {
				checkMsg(t, m)
			}
		}
	}
}

func TestMessagesOfAllEdges(t *testing.T) {
	names := []string{"", "r", longestName, longestName + "n", "a b"}
	right := 0
	for kind := -1; kind <= 9; kind++ {
		for _, tag := range []int{-1, 0, 128, 1000000, 1000001} {
			for _, row := range names {
				for _, col := range names {
					for _, at := range []int{-1, 0, 5, 1000000000, 1000000001} {
						for _, value := range []string{"", "v", strings.Repeat("v", 30), strings.Repeat("v", 31)} {
							m := impl.Msg{Kind: kind, Tag: tag, Row: row, Col: col, At: at, Value: value}
							if msgRightByWord(m) {
								checkMsg(t, m)
								right++
							} else {
								checkWrongMsg(t, "an edge", m)
								checkText(t, "an edge", msgByWord(m))
							}
						}
					}
				}
			}
		}
	}
	if want := 3 * (2*2*3*3 + 2*2*2*3 + 3*3 + 3); right != want {
		t.Errorf("%d are right, want %d", right, want)
	}
}

func TestTextsOfWrongMessagesAreNone(t *testing.T) {
	for _, m := range plainMsgs() {
		other := func(why string, set func(m *impl.Msg)) {
			wrong := m
			set(&wrong)
			if msgRightByWord(wrong) {
				return
			}
			checkWrongMsg(t, why, wrong)
			checkNoMsg(t, why, msgByWord(wrong))
		}
		for _, kind := range []int{0, 8, 9, 127, 128, 255} {
			other("a Kind that is none", func(m *impl.Msg) { m.Kind = kind })
		}
		for kind := 1; kind <= 7; kind++ {
			other("another Kind", func(m *impl.Msg) { m.Kind = kind })
		}
		for _, tag := range []int{1000001, 1000002, 1 << 32, 1<<32 + 1, impl.MaxVar, impl.MaxVar + 1, math.MaxInt64, -1} {
			other("a Tag out of bounds", func(m *impl.Msg) { m.Tag = tag })
			other("an At out of bounds", func(m *impl.Msg) { m.At = tag * 1000 })
			other("an At out of bounds", func(m *impl.Msg) { m.At = tag | 1<<40 })
		}
		for _, name := range append([]string{"n"}, wrongNames...) {
			other("a Row that isn't so", func(m *impl.Msg) { m.Row = name })
			other("a Col that isn't so", func(m *impl.Msg) { m.Col = name })
		}
		for _, value := range append([]string{"v"}, wrongValues...) {
			other("a Value that isn't so", func(m *impl.Msg) { m.Value = value })
		}
		other("an At that isn't so", func(m *impl.Msg) { m.At = 1000000001 })
		other("an At that isn't so", func(m *impl.Msg) { m.At = 1 })
	}
}

func TestGetMsgOfTextsCutOrLengthened(t *testing.T) {
	checkNoMsg(t, "nothing", "")
	for _, m := range rightMsgs() {
		s := impl.PutMsg(m)
		for end := range s {
			checkNoMsg(t, "cut off", s[:end])
		}
		for _, more := range []string{"\x00", "\x01", "x", "\xff", "\x00\x00\x00", s, strings.Repeat("x", 1000)} {
			checkNoMsg(t, "lengthened", s+more)
		}
		checkText(t, "cut ahead", s[1:])
		for at := range s {
			checkText(t, "a byte missing", s[:at]+s[at+1:])
			checkText(t, "a byte twice", s[:at+1]+s[at:])
			checkText(t, "a nought between", s[:at]+"\x00"+s[at:])
		}
	}
}

func TestGetMsgOfTextsOfWhichAByteWasChanged(t *testing.T) {
	none := 0
	for _, m := range append(plainMsgs(), impl.Msg{Kind: 1, Tag: 1000000, Row: longestName, Col: longestName, At: 1000000000, Value: strings.Repeat("v", 30)}, impl.Msg{Kind: 4, Value: "\x00\x00\x00"}) {
		s := []byte(impl.PutMsg(m))
		for at := range s {
			was := s[at]
			for b := range 256 {
				s[at] = byte(b)
				if byte(b) == was {
					continue
				}
				if got, ok := impl.GetMsg(string(s)); ok && got == m {
					t.Fatalf("%x is %#v as well", s, m)
				}
				if !checkText(t, "a byte changed", string(s)) {
					none++
				}
			}
			s[at] = was
		}
	}
	if none < 5000 {
		t.Errorf("only %d changed texts are no Msg", none)
	}
}

func TestGetMsgOfNumbersInMoreBytes(t *testing.T) {
	// Each number of these stands in a byte of 0 .. 127: behind 128 more of it
	// may stand noughts, which are worth nothing.
	for _, c := range []struct {
		s      string
		places []int
	}{
		{"\x01\x05\x01r\x01c\x07\x02hi", []int{1, 2, 4, 6, 7}}, {"\x03\x00\x01r\x01c\x00\x00", []int{1, 2, 4, 6, 7}}, {"\x04\x7f\x00\x00\x7f\x01v", []int{1, 2, 3, 4, 5}}, {"\x06\x00\x00\x00\x00\x00", []int{1, 2, 3, 4, 5}},
	} {
		if !checkText(t, "as it should be", c.s) {
			t.Fatalf("%x is no Msg", c.s)
		}
		for _, at := range c.places {
			for more := range 12 {
				long := string([]byte{c.s[at] | 128}) + strings.Repeat("\x80", more) + "\x00"
				checkNoMsg(t, "a number in more bytes than it needs", c.s[:at]+long+c.s[at+1:])
				checkNoMsg(t, "a number without an end", c.s[:at]+long[:len(long)-1])
			}
			checkNoMsg(t, "a number in ten bytes", c.s[:at]+"\x80\x80\x80\x80\x80\x80\x80\x80\x80\x01"+c.s[at+1:])
			checkNoMsg(t, "a number above all", c.s[:at]+"\xff\xff\xff\xff\xff\xff\xff\xff\x7f"+c.s[at+1:])
		}
	}
	checkNoMsg(t, "a Tag of two bytes in three", "\x01\xac\x82\x00\x01r\x01c\x05\x02hi")
	checkNoMsg(t, "an At of five bytes in six", "\x03\x00\x01r\x01c\x80\x94\xeb\xdc\x83\x00\x00")
	checkNoMsg(t, "a Kind as a number of two bytes", "\x81\x00\x00\x01r\x01c\x05\x02hi")
}

func TestGetMsgOfLengthsBehindTheEnd(t *testing.T) {
	for _, c := range []struct{ why, ahead, behind string }{
		{"of Row", "\x01\x05", "r\x01c\x07\x02hi"}, {"of Col", "\x01\x05\x01r", "c\x07\x02hi"}, {"of Value", "\x01\x05\x01r\x01c\x07", "hi"},
		{"of Row", "\x05\x05", "\x00\x00\x00"}, {"of Col", "\x05\x05\x00", "\x00\x00"}, {"of Value", "\x05\x05\x00\x00\x00", ""}, {"of Value", "\x04\x05\x00\x00\x07", "v"},
	} {
		for _, length := range []int{len(c.behind) + 1, len(c.behind) + 2, 16, 30, 100, 127, 128, 300, 1 << 31, 1 << 32, 1 << 56, impl.MaxVar - 1, impl.MaxVar, impl.MaxVar + 1, math.MaxInt64 - 1, math.MaxInt64, -1, math.MinInt64} {
			checkNoMsg(t, "a length "+c.why+" behind the end", c.ahead+varByWord(length)+c.behind)
		}
	}
}

func TestGetMsgOfTextsThatAreNone(t *testing.T) {
	for _, s := range append(append(drawnTexts(200), texts...), wrongNames...) {
		checkNoMsg(t, "no Msg at all", s)
	}
	is := 0
	for _, s := range allTexts("\x00\x01\x04", 7) {
		if checkText(t, "short", s) {
			is++
		}
	}
	for _, s := range allTexts("\x01!\x03", 8) {
		if checkText(t, "short", s) {
			is++
		}
	}
	if is == 0 {
		t.Error("not one short text is a Msg")
	}
	for b := range 256 {
		for length := range 12 {
			checkText(t, "one byte again and again", strings.Repeat(string([]byte{byte(b)}), length))
		}
	}
	checkNoMsg(t, "a frame", impl.Frame(impl.PutMsg(plainMsgs()[0])))
	checkNoMsg(t, "parts in another order", "\x01\x05\x01r\x01c\x02hi\x07")
	checkNoMsg(t, "a Kind behind", "\x05\x01r\x01c\x07\x02hi\x01")
	checkNoMsg(t, "without an At", "\x01\x05\x01r\x01c\x02hi")
	checkNoMsg(t, "without a Tag", "\x01\x01r\x01c\x07\x02hi")
}

func TestFrame(t *testing.T) {
	if got := impl.Frame("abc"); got != "\x03\xb7\x3f\x4b\x36abc" {
		t.Errorf("Frame of abc = %x", got)
	}
	if got := impl.Frame("a"); got != "\x01\x30\x43\xd0\xc1a" {
		t.Errorf("Frame of a = %x", got)
	}
	for length := 1; length <= 120; length++ {
		for _, s := range []string{risingBytes(length, length), strings.Repeat("\x00", length), strings.Repeat("\xff", length), strings.Repeat("a", length)} {
			if got, want := impl.Frame(s), frameByWord(s); got != want || len(got) != 5+length {
				t.Errorf("Frame(%x) = %x, want %x", s, got, want)
			}
		}
	}
}

func TestFramesOfNothingAndOfTooMuch(t *testing.T) {
	for _, length := range []int{0, 121, 122, 127, 128, 129, 240, 255, 256, 257, 256 + 120, 65536 + 1, 100000} {
		for _, b := range []string{"a", "\x00"} {
			if got := impl.Frame(strings.Repeat(b, length)); got != "" {
				t.Errorf("Frame of %d bytes = %.60x, want nothing", length, got)
			}
		}
	}
}

func TestFeedOkOfBadOnes(t *testing.T) {
	if !impl.FeedOk(impl.Feed{Bad: true}) {
		t.Error("a Bad Feed with nothing Left isn't right")
	}
	frame := impl.Frame("abc")
	for _, left := range []string{"x", "\x00", "\x03", "\x80", "\xff", frame, frame[:1], frame[:4], frame[:5], frame[:7], strings.Repeat("\x01", 5)} {
		if impl.FeedOk(impl.Feed{Bad: true, Left: left}) {
			t.Errorf("a Bad Feed with %x Left is right", left)
		}
	}
}

func TestFeedOkOfWhatWaits(t *testing.T) {
	if !impl.FeedOk(impl.Feed{}) {
		t.Error("a Feed with nothing Left isn't right")
	}
	for length := 1; length <= 120; length++ {
		frame := frameByWord(risingBytes(7*length, length))
		for end := range len(frame) {
			if !impl.FeedOk(impl.Feed{Left: frame[:end]}) {
				t.Fatalf("a Frame of %d bytes that has come up to %d doesn't wait", length, end)
			}
			// Whatever stands behind the first byte, it isn't looked at yet.
			for _, b := range []string{"\x00", "\xff"} {
				if end > 0 && !impl.FeedOk(impl.Feed{Left: frame[:1] + strings.Repeat(b, end-1)}) {
					t.Fatalf("%d bytes of %x behind the length %d don't wait", end-1, b, length)
				}
			}
		}
		for _, left := range []string{frame, frame + "\x01", frame + frame, frame[:1] + strings.Repeat("\x00", 4+length), frame[:len(frame)-1] + "!"} {
			if impl.FeedOk(impl.Feed{Left: left}) {
				t.Fatalf("%x waits, and has all of the %d bytes", left, length)
			}
		}
	}
}

func TestFeedOkOfFirstBytes(t *testing.T) {
	for b := range 256 {
		for length := 1; length < 270; length++ {
			left := string([]byte{byte(b)}) + strings.Repeat("\x01", length-1)
			if got, want := impl.FeedOk(impl.Feed{Left: left}), b >= 1 && b <= 120 && length < 5+b; got != want {
				t.Fatalf("FeedOk with the first of %d bytes %d = %v, want %v", length, b, got, want)
			}
		}
	}
}

func TestTakeOneFrame(t *testing.T) {
	for length := 1; length <= 120; length++ {
		for _, s := range []string{risingBytes(length, length), strings.Repeat("\x00", length), strings.Repeat("\x01", length)} {
			f, list := checkTake(t, impl.Feed{}, impl.Frame(s))
			if f != (impl.Feed{}) || !slices.Equal(list, []string{s}) {
				t.Fatalf("Take of the Frame of %x = %#v, %q", s, f, list)
			}
		}
	}
}

func TestTakeNothing(t *testing.T) {
	frame := impl.Frame("abc")
	for end := range len(frame) {
		if f, list := checkTake(t, impl.Feed{Left: frame[:end]}, ""); f.Left != frame[:end] || f.Bad || len(list) != 0 {
			t.Errorf("Take of nothing behind %x = %#v, %q", frame[:end], f, list)
		}
	}
	if f, list := checkTake(t, impl.Feed{Bad: true}, ""); !f.Bad || len(list) != 0 {
		t.Errorf("Take of nothing where it is Bad = %#v, %q", f, list)
	}
}

// edgeStreams are Frames one behind the other, and their texts.
func edgeStreams() (streams []string, lists [][]string) {
	x := risingBytes(0, 120)
	lists = [][]string{
		{"a"}, {"a", "a"}, {"abc", "d", "ef"}, {x}, {x[:119], x, x[:1], x}, {x, x, x}, {"\x00", "\x00\x00", "\x01", "\x01\x01\x01\x01\x01\x01"}, slices.Repeat([]string{"a"}, 30),
		{impl.Frame("abc"), impl.Frame("a") + impl.Frame("b"), impl.Frame(x[:115])}, {strings.Repeat("\x01", 120), strings.Repeat("\x78", 120), strings.Repeat("\x00", 120)},
	}
	var msgs []string
	for _, m := range plainMsgs() {
		msgs = append(msgs, impl.PutMsg(m))
	}
	lists = append(lists, msgs)
	for _, list := range lists {
		stream := ""
		for _, s := range list {
			stream += frameByWord(s)
		}
		streams = append(streams, stream)
	}
	return streams, lists
}

func TestTakeFramesInPiecesOfEverySize(t *testing.T) {
	streams, lists := edgeStreams()
	for i, stream := range streams {
		for size := 1; size <= len(stream); size++ {
			checkPieces(t, stream, lists[i], func() int { return size })
		}
		draw := rand.New(rand.NewSource(24))
		for most := range 12 {
			checkPieces(t, stream, lists[i], func() int { return draw.Intn(2 + 12*most) }) // some have no bytes
		}
	}
}

func TestTakeAtEachPlaceOfAStream(t *testing.T) {
	streams, lists := edgeStreams()
	for i, stream := range streams {
		for at := range len(stream) + 1 {
			f, ahead := checkTake(t, impl.Feed{}, stream[:at])
			// A Frame's end may come with the beginning of the next one.
			g, behind := checkTake(t, f, stream[at:]+"\x05abc")
			if got := append(ahead, behind...); g.Left != "\x05abc" || g.Bad || !slices.Equal(got, lists[i]) {
				t.Fatalf("taken up to %d of %x: %#v, %q", at, stream, g, got)
			}
		}
	}
}

func TestMessagesComeBackFromFrames(t *testing.T) {
	draw := rand.New(rand.NewSource(25))
	for range 100 {
		var msgs []impl.Msg
		var list []string
		stream := ""
		for range 1 + draw.Intn(20) {
			m := drawnMsg(draw)
			msgs, list = append(msgs, m), append(list, checkMsg(t, m))
			stream += impl.Frame(impl.PutMsg(m))
		}
		checkPieces(t, stream, list, func() int { return draw.Intn(100) })
		_, texts := impl.Take(impl.Feed{}, stream)
		for i, s := range texts {
			if m, ok := impl.GetMsg(s); !ok || m != msgs[i] {
				t.Fatalf("behind a Frame %#v is %#v, %v", msgs[i], m, ok)
			}
		}
	}
}

func TestTakeOfChangedFrames(t *testing.T) {
	for _, s := range []string{"a", "abc", "\x00\x00\x00\x00", impl.PutMsg(plainMsgs()[0]), risingBytes(3, 120)} {
		frame := impl.Frame(s)
		for at := range frame {
			turns := []int{1, 2, 128, 255}
			if len(s) < 20 {
				turns = turns[:0]
				for turn := 1; turn < 256; turn++ {
					turns = append(turns, turn)
				}
			}
			for _, turn := range turns {
				bent := []byte(frame)
				bent[at] ^= byte(turn)
				checkBent(t, s, string(bent))
			}
		}
	}
}

// checkBent is of a Frame of which a byte was changed: it is told once all is
// there of what its first byte says.
func checkBent(t *testing.T, s, bent string) {
	t.Helper()
	for _, ahead := range [][]string{nil, {"a"}, {"abc", "de"}} {
		stream := ""
		for _, text := range ahead {
			stream += frameByWord(text)
		}
		f, list := checkTake(t, impl.Feed{}, stream+bent)
		if waits := int(bent[0]) > len(s) && bent[0] <= 120; f.Bad == waits || !slices.Equal(list, ahead) {
			t.Fatalf("Take of the changed Frame %x behind %q = %#v, %q", bent, ahead, f, list)
		}
		f, list = checkTake(t, impl.Feed{}, stream+bent+frameByWord(s)+strings.Repeat("\x00", 120))
		if f != (impl.Feed{Bad: true}) || !slices.Equal(list, ahead) {
			t.Fatalf("Take of the changed Frame %x behind %q, with bytes behind it = %#v, %q", bent, ahead, f, list)
		}
	}
	var f impl.Feed
	for i := range len(bent) {
		var list []string
		f, list = checkTake(t, f, bent[i:i+1])
		if len(list) != 0 {
			t.Fatalf("byte by byte the changed Frame %x tells %q", bent, list)
		}
	}
}

func TestTakeOfFirstBytesThatAreNone(t *testing.T) {
	for _, b := range []int{0, 121, 122, 127, 128, 129, 255} {
		first := string([]byte{byte(b)})
		for _, behind := range []string{"", "\x00", "\x01", "\x00\x00\x00\x00\x00", "abc", impl.Frame("abc"), strings.Repeat("\x01", 300)} {
			for _, ahead := range [][]string{nil, {"a"}, {"abc", "de"}} {
				stream := ""
				for _, text := range ahead {
					stream += frameByWord(text)
				}
				if f, list := checkTake(t, impl.Feed{}, stream+first+behind); f != (impl.Feed{Bad: true}) || !slices.Equal(list, ahead) {
					t.Errorf("Take of %x behind %q = %#v, %q", first+behind, ahead, f, list)
				}
			}
		}
	}
}

func TestTakeOfFramesOfWrongForm(t *testing.T) {
	sum := crc32.Checksum([]byte("abc"), crc32.MakeTable(crc32.Castagnoli))
	long := strings.Repeat("a", 130)
	longSum := fourBytes(int(crc32.Checksum([]byte(long[:121]), crc32.MakeTable(crc32.Castagnoli))))
	for _, c := range []struct{ why, s string }{
		{"the sum's highest byte first", "\x03" + string(binary.BigEndian.AppendUint32(nil, sum)) + "abc"}, {"another sum", "\x03" + fourBytes(int(crc32.ChecksumIEEE([]byte("abc")))) + "abc"},
		{"the sum of the length, too", "\x03" + fourBytes(int(crc32.Checksum([]byte("\x03abc"), crc32.MakeTable(crc32.Castagnoli)))) + "abc"}, {"no sum", "\x03\x00\x00\x00\x00abc"},
		{"the sum behind", "\x03abc" + fourBytes(int(sum))}, {"the sum ahead", fourBytes(int(sum)) + "\x03abc"},
		{"a length that has the sum in it", "\x07" + fourBytes(int(sum)) + "abcdefgh"}, {"a length that has the sum and itself in it", "\x08" + fourBytes(int(sum)) + "abcdefghi"},
		{"a text of nothing", "\x00" + "\x00\x00\x00\x00"}, {"a text of 121 bytes", "\x79" + longSum + long[:121]}, {"a length of two bytes", "\x83\x00" + fourBytes(int(sum)) + "abc"},
		{"a text of 128 bytes", "\x80\x01" + fourBytes(int(crc32.Checksum([]byte(long[:128]), crc32.MakeTable(crc32.Castagnoli)))) + long[:128]},
		{"a length and a text, sealed", impl.Sealed("\x03abc")}, {"a bare byte ahead", "\x00" + impl.Frame("abc")}, {"a newline ahead", "\n" + impl.Frame("abcdefghijkl")},
	} {
		if f, list := checkTake(t, impl.Feed{}, c.s); f != (impl.Feed{Bad: true}) || len(list) != 0 {
			t.Errorf("%s: Take = %#v, %q, want a Bad one", c.why, f, list)
		}
		if f, list := checkTake(t, impl.Feed{}, impl.Frame("a")+c.s+impl.Frame("b")); f != (impl.Feed{Bad: true}) || !slices.Equal(list, []string{"a"}) {
			t.Errorf("%s: behind a right one Take = %#v, %q, want a Bad one and the right one", c.why, f, list)
		}
	}
}

func TestTakeLooksAtASumThatIsAllThere(t *testing.T) {
	bent := impl.Frame("abc")[:4] + "\x00abc"
	for end := range len(bent) {
		if f, list := checkTake(t, impl.Feed{}, bent[:end]); f != (impl.Feed{Left: bent[:end]}) || len(list) != 0 {
			t.Errorf("Take of %x = %#v, %q, want it to wait", bent[:end], f, list)
		}
		if f, list := checkTake(t, impl.Feed{Left: bent[:end]}, bent[end:]); f != (impl.Feed{Bad: true}) || len(list) != 0 {
			t.Errorf("Take of the rest behind %x = %#v, %q, want a Bad one", bent[:end], f, list)
		}
	}
}

func TestTakeOfABadFeed(t *testing.T) {
	for _, s := range []string{"", "a", "\x00", impl.Frame("abc"), impl.Frame("abc") + impl.Frame("a"), strings.Repeat("\xff", 1000)} {
		if f, list := checkTake(t, impl.Feed{Bad: true}, s); f != (impl.Feed{Bad: true}) || len(list) != 0 {
			t.Errorf("Take of %.100x where it is Bad = %#v, %.100q", s, f, list)
		}
	}
}

func TestTakeOfFeedsThatAreNotRight(t *testing.T) {
	frame := impl.Frame("abc")
	for _, f := range []impl.Feed{
		{Left: frame}, {Left: frame + frame}, {Left: frame + "\x01"}, {Left: frame[:7] + "x"}, {Left: "\x00"}, {Left: "\x79"}, {Left: "\x80"}, {Left: "\x80\x01"}, {Left: "\xff"}, {Left: strings.Repeat("\x01", 6)},
		{Left: "x", Bad: true}, {Left: frame, Bad: true}, {Left: frame[:3], Bad: true}, {Left: "\x00", Bad: true}, {Left: "\x80", Bad: true},
	} {
		if impl.FeedOk(f) {
			t.Errorf("FeedOk(%#v) = true", f)
		}
		for _, s := range []string{"", "a", "\x00", frame, frame[3:], frame + frame} {
			if got, list := checkTake(t, f, s); got != f || len(list) != 0 {
				t.Errorf("Take(%#v, %x) = %#v, %q, want it as it was", f, s, got, list)
			}
		}
	}
}

func TestTakeOfDrawnStreams(t *testing.T) {
	draw := rand.New(rand.NewSource(26))
	bad := 0
	for range 3000 {
		var stream []byte
		for range draw.Intn(6) {
			stream = append(stream, frameByWord(drawnBytes(draw, 1+draw.Intn(1<<draw.Intn(7))))...)
		}
		for range draw.Intn(3) {
			if len(stream) > 0 {
				stream[draw.Intn(len(stream))] = byte(draw.Intn(256))
			}
		}
		if draw.Intn(3) == 0 {
			stream = append(stream, drawnBytes(draw, draw.Intn(9))...)
		}
		want, list := takenByWord("", string(stream))
		if want.Bad {
			bad++
		}
		// However it is cut, what comes of it is the same.
		for _, most := range []int{2, 10, 200, 1 << 20} {
			var f impl.Feed
			var all []string
			for rest := string(stream); rest != ""; {
				piece := rest[:min(draw.Intn(most), len(rest))]
				rest = rest[len(piece):]
				g, texts := checkTake(t, f, piece)
				f, all = g, append(all, texts...)
			}
			if f != want || !slices.Equal(all, list) {
				t.Fatalf("in pieces below %d %x is %#v, %q, want %#v, %q", most, stream, f, all, want, list)
			}
		}
	}
	if bad < 500 || bad > 2500 {
		t.Errorf("%d of the drawn streams are Bad", bad)
	}
}

func TestMessagesAnswerAtLongArguments(t *testing.T) {
	const count = 100000
	long := strings.Repeat("a", count)
	for _, s := range []string{long, strings.Repeat("\x00", count), strings.Repeat("\xff", count), strings.Repeat("\x80", count), "\x01\x00" + sizedByWord(long) + "\x01c\x00\x00", "\x01\x00\x01r\x01c\x00" + sizedByWord(long)} {
		checkNoMsg(t, "long", s)
		checkTake(t, impl.Feed{}, s)
		checkTake(t, impl.Feed{Left: s}, s)
		checkTake(t, impl.Feed{Left: "\x05"}, s)
	}
	stream := strings.Repeat(impl.Frame("abc"), count)
	if f, list := impl.Take(impl.Feed{}, stream); f != (impl.Feed{}) || !slices.Equal(list, slices.Repeat([]string{"abc"}, count)) {
		t.Errorf("Take of %d Frames tells %d texts, %#v", count, len(list), f)
	}
	if f, list := impl.Take(impl.Feed{}, stream+"\x00"); f != (impl.Feed{Bad: true}) || len(list) != count {
		t.Errorf("Take of %d Frames and a bare byte tells %d texts, %#v", count, len(list), f)
	}
	checkWrongMsg(t, "long", impl.Msg{Kind: 1, Row: long, Col: long, Value: long})
	checkWrongMsg(t, "long", impl.Msg{Kind: 1, Row: "r", Col: "c", Value: long})
	checkWrongMsg(t, "long", impl.Msg{Kind: 5, Value: long})
}

func TestMessagesWriteIntoNoArgument(t *testing.T) {
	frames := impl.Frame("abc") + impl.Frame("de") + impl.PutMsg(plainMsgs()[0])
	b := []byte(frames)
	s := string(b)
	for at := range len(s) + 1 {
		for end := at; end <= len(s); end++ {
			f := impl.Feed{Left: s[:at]}
			impl.Take(f, s[at:end])
			impl.FeedOk(f)
			impl.GetMsg(s[at:end])
			impl.Frame(s[at:end])
			if f.Left != frames[:at] || f.Bad || s != frames {
				t.Fatal("a Feed or a text was written into")
			}
		}
	}
	for _, m := range rightMsgs() {
		was := m
		impl.MsgOk(m)
		impl.PutMsg(m)
		if m != was {
			t.Fatalf("%#v was written into: %#v", was, m)
		}
	}
}

func TestTakenTextsAreNewMemory(t *testing.T) {
	stream := impl.Frame("abc") + impl.Frame("de") + impl.Frame("f") + "\x05"
	_, one := impl.Take(impl.Feed{}, stream)
	_, other := impl.Take(impl.Feed{}, stream)
	for i := range one {
		one[i] = "changed"
	}
	_ = append(one[:1], "more")
	f, again := impl.Take(impl.Feed{}, stream)
	want := []string{"abc", "de", "f"}
	if !slices.Equal(other, want) || !slices.Equal(again, want) || f.Left != "\x05" {
		t.Errorf("what was changed in an answer is in another: %q, %q", other, again)
	}
}

func FuzzMessages(f *testing.F) {
	for _, m := range plainMsgs() {
		f.Add(m.Kind, m.Tag, m.Row, m.Col, m.At, m.Value, impl.PutMsg(m), 3)
	}
	f.Add(8, -1, " ", "", 1000000001, strings.Repeat("v", 31), impl.Frame("abc")+"\x05a", 1)
	f.Fuzz(func(t *testing.T, kind, tag int, row, col string, at int, value, s string, size int) {
		m := impl.Msg{Kind: kind, Tag: tag, Row: row, Col: col, At: at, Value: value}
		if msgRightByWord(m) {
			checkMsg(t, m)
		} else {
			checkWrongMsg(t, "fuzz", m)
		}
		checkText(t, "fuzz", s)
		checkText(t, "fuzz", msgByWord(m))
		want := ""
		if len(s) >= 1 && len(s) <= 120 {
			want = frameByWord(s)
		}
		if got := impl.Frame(s); got != want {
			t.Errorf("Frame(%x) = %x, want %x", s, got, want)
		}
		checkTake(t, impl.Feed{Left: value}, s)
		checkTake(t, impl.Feed{Left: value, Bad: true}, s)
		left, all := takenByWord("", want+s)
		var g impl.Feed
		var got []string
		for rest := want + s; rest != ""; {
			piece := rest[:min(max(size, 1), len(rest))]
			rest = rest[len(piece):]
			next, texts := checkTake(t, g, piece)
			g, got = next, append(got, texts...)
		}
		if g != left || !slices.Equal(got, all) {
			t.Errorf("in pieces of %d %x is %#v, %q, want %#v, %q", size, want+s, g, got, left, all)
		}
	})
}
