package desc_test

import (
	"math"
	"regexp"
	"slices"
	"strings"
	"testing"

	"pinfold/api"
	"pinfold/desc"
)

// start is the place of a text's first byte.
var start = api.Place{Off: 0, Line: 1, Col: 1}

// token is a token of one line, with off bytes ahead of it.
func token(kind int, text string, off int) api.Token {
	return api.Token{Kind: kind, Text: text, At: api.Place{Off: off, Line: 1, Col: off + 1}}
}

func word(text string, off int) api.Token { return token(api.TokWord, text, off) }
func list(text string, off int) api.Token { return token(api.TokList, text, off) }
func sign(text string, off int) api.Token { return token(api.TokSign, text, off) }

func TestAll(t *testing.T) { // P2.1
	name := strings.Repeat("n", api.MaxName)
	for _, x := range []struct {
		text string
		want []api.Token
	}{
		{"", nil},
		{" \t\n\r", nil},
		{"#", nil},
		{"# a { é \x00 A", nil},
		{"#\n#\n", nil},
		{"domain c0 cpus 0-3,8;", []api.Token{word("domain", 0), word("c0", 7), word("cpus", 10), list("0-3,8", 15), sign(";", 20)}},
		{"a", []api.Token{word("a", 0)}},
		{"z_9a0_", []api.Token{word("z_9a0_", 0)}},
		{"az", []api.Token{word("az", 0)}},
		{"queue queued", []api.Token{word("queue", 0), word("queued", 6)}},
		{name, []api.Token{word(name, 0)}},
		{" " + name + ";", []api.Token{word(name, 1), sign(";", 33)}},
		{"0", []api.Token{list("0", 0)}},
		{"9,-,,--00129-", []api.Token{list("9,-,,--00129-", 0)}},
		{"1" + strings.Repeat(",", 100), []api.Token{list("1"+strings.Repeat(",", 100), 0)}},
		{"{", []api.Token{sign("{", 0)}},
		{"{{};}", []api.Token{sign("{", 0), sign("{", 1), sign("}", 2), sign(";", 3), sign("}", 4)}},
		{"1a1{a1;", []api.Token{list("1", 0), word("a1", 1), sign("{", 3), word("a1", 4), sign(";", 6)}},
		{"a#b{1\n", []api.Token{word("a", 0)}},
		{"a##", []api.Token{word("a", 0)}},
		{"\ta\t\t1\r", []api.Token{word("a", 1), list("1", 4)}},
		{"#\ra", nil}, // a return is no line end
	} {
		l, e, at := desc.All(x.text)
		if !slices.Equal(l, x.want) || e != api.OK || at != (api.Place{}) {
			t.Errorf("%q: %v, %d, %v", x.text, l, e, at)
		}
	}
}

func TestAllTellsPlaces(t *testing.T) { // P2.1
	l, e, at := desc.All("a # {\n\n b1\r\t{\r\n#\n# \r c\n2")
	want := []api.Token{
		{Kind: api.TokWord, Text: "a", At: api.Place{Off: 0, Line: 1, Col: 1}},
		{Kind: api.TokWord, Text: "b1", At: api.Place{Off: 8, Line: 3, Col: 2}},
		{Kind: api.TokSign, Text: "{", At: api.Place{Off: 12, Line: 3, Col: 6}},
		{Kind: api.TokList, Text: "2", At: api.Place{Off: 23, Line: 6, Col: 1}},
	}
	if !slices.Equal(l, want) || e != api.OK || at != (api.Place{}) {
		t.Error(l, e, at)
	}
}

func TestAllRefuses(t *testing.T) { // P2.1
	long := strings.Repeat("n", api.MaxName+1)
	for _, x := range []struct {
		text string
		e    api.Errno
		at   api.Place
	}{
		{"a A", api.ErrByte, api.Place{Off: 2, Line: 1, Col: 3}},
		{"A", api.ErrByte, start},
		{"aB", api.ErrByte, api.Place{Off: 1, Line: 1, Col: 2}},
		{"_", api.ErrByte, start},
		{"-1", api.ErrByte, start},
		{",1", api.ErrByte, start},
		{"a-", api.ErrByte, api.Place{Off: 1, Line: 1, Col: 2}},
		{"a,b", api.ErrByte, api.Place{Off: 1, Line: 1, Col: 2}},
		{"1_", api.ErrByte, api.Place{Off: 1, Line: 1, Col: 2}},
		{"{ };\n\n\t(", api.ErrByte, api.Place{Off: 7, Line: 3, Col: 2}},
		{"# é\n é", api.ErrByte, api.Place{Off: 6, Line: 2, Col: 2}},
		{"a\x00", api.ErrByte, api.Place{Off: 1, Line: 1, Col: 2}},
		{"a\v", api.ErrByte, api.Place{Off: 1, Line: 1, Col: 2}},
		{"a\f", api.ErrByte, api.Place{Off: 1, Line: 1, Col: 2}},
		{"\xff", api.ErrByte, start},
		{"\u00a0", api.ErrByte, start},
		{long, api.ErrBig, start},
		{"1\n" + long + "n", api.ErrBig, api.Place{Off: 2, Line: 2, Col: 1}},
		// the first one in the text's order
		{long + "A", api.ErrBig, start},
		{"A" + long, api.ErrByte, start},
		{long[1:] + "A" + long, api.ErrByte, api.Place{Off: 32, Line: 1, Col: 33}},
	} {
		l, e, at := desc.All(x.text)
		if len(l) != 0 || e != x.e || at != x.at {
			t.Errorf("%q: %v, %d, %v, not %d, %v", x.text, l, e, at, x.e, x.at)
		}
	}
}

func TestAllOfEachByte(t *testing.T) { // P2.1
	for c := range 256 {
		text := string([]byte{byte(c)})
		kind := 0
		switch {
		case strings.Contains("abcdefghijklmnopqrstuvwxyz", text):
			kind = api.TokWord
		case strings.Contains("0123456789", text):
			kind = api.TokList
		case strings.Contains("{};", text):
			kind = api.TokSign
		}
		l, e, at := desc.All(text)
		switch {
		case kind != 0 && (e != api.OK || !slices.Equal(l, []api.Token{token(kind, text, 0)})):
			t.Errorf("%q: %v, %d", text, l, e)
		case kind == 0 && strings.Contains(" \t\n\r#", text) && (e != api.OK || len(l) != 0):
			t.Errorf("%q: %v, %d", text, l, e)
		case kind == 0 && !strings.Contains(" \t\n\r#", text) && (e != api.ErrByte || at != start || len(l) != 0):
			t.Errorf("%q: %v, %d, %v", text, l, e, at)
		}
	}
}

func TestAllOfLongTexts(t *testing.T) { // P2.1
	for _, x := range []struct {
		text string
		len  int
		e    api.Errno
		at   api.Place
	}{
		{strings.Repeat("{", api.MaxText), api.MaxText, api.OK, api.Place{}},
		{strings.Repeat("\n", api.MaxText), 0, api.OK, api.Place{}},
		{strings.Repeat("1", api.MaxText), 1, api.OK, api.Place{}},
		{strings.Repeat("\n", api.MaxText-1) + "A", 0, api.ErrByte, api.Place{Off: api.MaxText - 1, Line: api.MaxText, Col: 1}},
		{strings.Repeat("{", api.MaxText+1), 0, api.ErrBig, start},
		{strings.Repeat("\n", api.MaxText+1), 0, api.ErrBig, start},
		{"A" + strings.Repeat(" ", api.MaxText), 0, api.ErrBig, start}, // ahead of all else
		{"\n\n" + strings.Repeat("a", api.MaxText), 0, api.ErrBig, start},
	} {
		l, e, at := desc.All(x.text)
		if len(l) != x.len || e != x.e || at != x.at {
			t.Errorf("%q, %d bytes: %d tokens, %d, %v", x.text[:4], len(x.text), len(l), e, at)
		}
	}
}

func TestAt(t *testing.T) { // P2.2
	for _, x := range []struct {
		text string
		off  int
		want api.Place
	}{
		{"", 0, start}, {"", 1, start}, {"", -1, start}, {"", math.MaxInt, start}, {"", math.MinInt, start},
		{"ab\nc", 0, start},
		{"ab\nc", 1, api.Place{Off: 1, Line: 1, Col: 2}},
		{"ab\nc", 2, api.Place{Off: 2, Line: 1, Col: 3}}, // a line end stands in its own line
		{"ab\nc", 3, api.Place{Off: 3, Line: 2, Col: 1}},
		{"ab\nc", 4, api.Place{Off: 4, Line: 2, Col: 2}},
		{"ab\nc", 5, api.Place{Off: 4, Line: 2, Col: 2}},
		{"ab\nc", math.MaxInt, api.Place{Off: 4, Line: 2, Col: 2}},
		{"ab\nc", -1, start}, {"ab\nc", math.MinInt, start},
		{"\n\n\n", 3, api.Place{Off: 3, Line: 4, Col: 1}},
		{"a\r\n\tb", 4, api.Place{Off: 4, Line: 2, Col: 2}},
		{"a\rb", 2, api.Place{Off: 2, Line: 1, Col: 3}},
		{"é\xff", 3, api.Place{Off: 3, Line: 1, Col: 4}}, // bytes count, not runes
		{strings.Repeat("x\n", api.MaxText), 2*api.MaxText - 1, api.Place{Off: 2*api.MaxText - 1, Line: api.MaxText, Col: 2}},
	} {
		if got := desc.At(x.text, x.off); got != x.want {
			t.Errorf("%.20q, %d: %v, not %v", x.text, x.off, got, x.want)
		}
	}
	text := "a\n\n{ é}\r\n#\tx\n\x00"
	for off := range len(text) + 1 {
		if got := desc.At(text, off); got != place(text, off) {
			t.Errorf("%q, %d: %v, not %v", text, off, got, place(text, off))
		}
	}
}

func TestIsWord(t *testing.T) { // P2.2
	for _, s := range []string{"domain", "queue", "cpus"} {
		if !desc.IsWord(s) {
			t.Error(s)
		}
	}
	for _, s := range []string{"", "a", "domains", "omain", "queue ", " cpus", "cpu", "Domain", "CPUS", "queue\x00", "{", "0"} {
		if desc.IsWord(s) {
			t.Errorf("%q", s)
		}
	}
}

func TestIsName(t *testing.T) { // P2.2
	long := strings.Repeat("z", api.MaxName)
	for _, s := range []string{"a", "z", "c0", "a_", "a__9", "az09_", "domains", "domain_", "queu", "cpus0", long} {
		if !desc.IsName(s) {
			t.Error(s)
		}
	}
	for _, s := range []string{"", "domain", "queue", "cpus", "0", "0a", "_", "_a", "A", "aA", "a-", "a,b", "a b", " a", "a\n", "a{", "a;", "é", "aé", "a\x00", "a\xff", "a#", long + "z"} {
		if desc.IsName(s) {
			t.Errorf("%q", s)
		}
	}
	for c := range 256 {
		s := string([]byte{byte(c)})
		small, digit := s >= "a" && s <= "z", s >= "0" && s <= "9"
		if desc.IsName(s) != small {
			t.Errorf("%q first", s)
		}
		if desc.IsName("q"+s+"q") != (small || digit || s == "_") {
			t.Errorf("%q within", s)
		}
	}
}

func TestPrint(t *testing.T) { // P2.3
	for _, x := range []struct {
		l    []api.Token
		want string
	}{
		{nil, ""},
		{[]api.Token{}, ""},
		{[]api.Token{word("a", 0)}, "a"},
		{[]api.Token{word("domain", 0), word("a", 100), word("cpus", 3), list("0-3", 3), sign(";", 0)}, "domain a cpus 0-3 ;"},
		{[]api.Token{sign("{", 0), sign("{", 0), sign("}", 0)}, "{ { }"},
		{[]api.Token{{}, {Text: "a b\n"}, {Kind: 9}, {}}, " a b\n  "}, // the texts, whatever they are
	} {
		was := slices.Clone(x.l)
		if got := desc.Print(x.l); got != x.want {
			t.Errorf("%q, not %q", got, x.want)
		}
		if !slices.Equal(x.l, was) {
			t.Error("the list that was handed in is another one", x.l)
		}
	}
}

var (
	gapForm   = regexp.MustCompile(`^([ \t\n\r]|#[^\n]*)*`)
	tokenForm = regexp.MustCompile(`^(?:([a-z][a-z0-9_]*)|([0-9][0-9,-]*)|([{};]))`)
)

// place is what the document says of a place, told by what is ahead of it.
func place(text string, off int) api.Place {
	ahead := text[:off]
	return api.Place{Off: off, Line: 1 + strings.Count(ahead, "\n"), Col: off - strings.LastIndex(ahead, "\n")}
}

// cut is what the document says of a text, told by the tokens' forms.
func cut(text string) ([]api.Token, api.Errno, api.Place) {
	if len(text) > api.MaxText {
		return nil, api.ErrBig, start
	}
	var l []api.Token
	for off := 0; ; {
		off += len(gapForm.FindString(text[off:]))
		if off == len(text) {
			return l, api.OK, api.Place{}
		}
		kinds := tokenForm.FindStringSubmatch(text[off:])
		switch {
		case kinds == nil:
			return nil, api.ErrByte, place(text, off)
		case len(kinds[1]) > api.MaxName:
			return nil, api.ErrBig, place(text, off)
		}
		kind := slices.IndexFunc(kinds[1:], func(s string) bool { return s != "" }) + 1
		l = append(l, api.Token{Kind: kind, Text: kinds[0], At: place(text, off)})
		off += len(kinds[0])
	}
}

// bare is the tokens without their places.
func bare(l []api.Token) []api.Token {
	l = slices.Clone(l)
	for i := range l {
		l[i].At = api.Place{}
	}
	return l
}

// check holds all that is promised of a text's tokens against what All answers.
func check(t *testing.T, text string) {
	l, e, at := desc.All(text)
	wantL, wantE, wantAt := cut(text)
	if !slices.Equal(l, wantL) || e != wantE || at != wantAt {
		t.Fatalf("%q: %v, %d, %v, not %v, %d, %v", text, l, e, at, wantL, wantE, wantAt)
	}
	printed := desc.Print(l)
	if again, e, _ := desc.All(printed); len(printed) <= api.MaxText && (e != api.OK || !slices.Equal(bare(again), bare(l))) { // P2.4
		t.Fatalf("%q, printed %q: %v, %d", text, printed, again, e)
	}
	end := 0
	for _, k := range l { // P2.5
		off := k.At.Off
		if off < end || k.At != desc.At(text, off) || gapForm.FindString(text[end:off]) != text[end:off] || !strings.HasPrefix(text[off:], k.Text) {
			t.Fatalf("%q: %v behind %d", text, k, end)
		}
		end = off + len(k.Text)
	}
	if rest := text[end:]; e == api.OK && gapForm.FindString(rest) != rest {
		t.Fatalf("%q: %q is left", text, rest)
	}
}

// checkAll checks all texts of so many of the pieces at most that begin with text.
func checkAll(t *testing.T, pieces []string, text string, most int) {
	check(t, text)
	if most == 0 {
		return
	}
	for _, p := range pieces {
		checkAll(t, pieces, text+p, most-1)
	}
}

func TestAllShortTexts(t *testing.T) { // P2.1, P2.4, P2.5
	checkAll(t, []string{"a", "7", "_", "-", ",", "{", ";", "#", "\n", " ", "A"}, "", 5)
	checkAll(t, []string{"domain", "cpus", "0-3,8", "}", "\t", "\r", "#", "\n", strings.Repeat("n", 16), "\xff", "é"}, "", 4)
}

func TestTokensAreNew(t *testing.T) { // what is answered is the caller's own
	l, _, _ := desc.All("a 1 ;")
	l[0], l[2].Text = api.Token{}, "x"
	if again, e, _ := desc.All("a 1 ;"); e != api.OK || desc.Print(again) != "a 1 ;" {
		t.Error(again, e)
	}
}

func FuzzAll(f *testing.F) { // P2.1, P2.4, P2.5
	for _, text := range []string{"", "domain m { domain a cpus 0-1; domain b queue 4 cpus 2; }", "a A", "# x\na", "1-a", strings.Repeat("n", 33)} {
		f.Add(text)
	}
	f.Fuzz(check)
}
