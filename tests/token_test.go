package tests

import (
	"math"
	"reflect"
	"regexp"
	"slices"
	"strconv"
	"strings"
	"testing"
	"unsafe"

	"loop.example/g00349/impl"
)

var (
	piece  = regexp.MustCompile(`[ \n]+|;[^\n]*|[()']|[^ \n()';]+`)
	symbol = regexp.MustCompile(`\A[a-z+\-*/<=?!]{1,12}\z`)
	number = regexp.MustCompile(`\A(0|-?[1-9][0-9]{0,9})\z`)
)

func open() impl.Token           { return impl.Token{Kind: impl.TokOpen} }
func shut() impl.Token           { return impl.Token{Kind: impl.TokClose} }
func quote() impl.Token          { return impl.Token{Kind: impl.TokQuote} }
func num(n int64) impl.Token     { return impl.Token{Kind: impl.TokNum, Num: n} }
func truth(n int64) impl.Token   { return impl.Token{Kind: impl.TokBool, Num: n} }
func sym(name string) impl.Token { return impl.Token{Kind: impl.TokSym, Name: name} }

// wantToken tells a token by the shape of its text alone.
func wantToken(text string) (impl.Token, bool) {
	switch {
	case text == "(":
		return open(), true
	case text == ")":
		return shut(), true
	case text == "'":
		return quote(), true
	case text == "#t":
		return truth(1), true
	case text == "#f":
		return truth(0), true
	case symbol.MatchString(text):
		return sym(text), true
	case number.MatchString(text):
		n, err := strconv.ParseInt(text, 10, 64)
		return num(n), err == nil && n >= -impl.MaxNum && n <= impl.MaxNum
	}
	return impl.Token{}, false
}

func wantTokens(text string) impl.TokensResult {
	if len(text) > impl.MaxText {
		return impl.TokensResult{Code: impl.ErrMany}
	}
	var list []impl.Token
	for _, span := range piece.FindAllStringIndex(text, -1) {
		word := text[span[0]:span[1]]
		if strings.ContainsAny(word[:1], " \n;") {
			continue
		}
		token, ok := wantToken(word)
		if !ok {
			return impl.TokensResult{Code: impl.ErrText, At: int64(span[0])}
		}
		if len(list) == impl.MaxTokens {
			return impl.TokensResult{Code: impl.ErrMany, At: int64(span[0])}
		}
		list = append(list, token)
	}
	return impl.TokensResult{Tokens: list}
}

func sameTokens(a, b impl.TokensResult) bool {
	return a.Code == b.Code && a.At == b.At && slices.Equal(a.Tokens, b.Tokens)
}

func wantSpot(cut impl.TokensResult) impl.IntResult {
	if cut.Code != impl.OK {
		return impl.IntResult{Code: cut.Code, Value: cut.At}
	}
	return impl.IntResult{Value: int64(len(cut.Tokens))}
}

func checkTokens(t *testing.T, text string, want impl.TokensResult) {
	t.Helper()
	if got := impl.TokensOf(text); !sameTokens(got, want) {
		t.Fatalf("TokensOf(%q) = %+v, not %+v", text, got, want)
	}
	if got := impl.SpotOf(text); got != wantSpot(want) {
		t.Fatalf("SpotOf(%q) = %+v, not %+v", text, got, wantSpot(want))
	}
}

// someTexts: many texts by a fixed rule, of pieces at which tokens begin, end or go wrong.
func someTexts(count int, most int, pieces []string) []string {
	state := uint64(0x9E3779B97F4A7C15)
	next := func(n int) int {
		state ^= state << 13
		state ^= state >> 7
		state ^= state << 17
		return int(state>>11) % n
	}
	list := make([]string, count)
	for i := range list {
		var b strings.Builder
		for range next(most) {
			b.WriteString(pieces[next(len(pieces))])
		}
		list[i] = b.String()
	}
	return list
}

func rightPieces() []string {
	return []string{"(", ")", "'", " ", " ", "\n", "a", "zz", "-", "+", "call/cc ", "null? ", "set! ", "0 ", " 7 ", "-12 ", " 1000000000 ",
		" -1000000000 ", " #t ", " #f ", " ;", "; x ( 1A\n", ";\n", " abcdefghijkl "}
}

func wrongPieces() []string {
	return append(rightPieces(), "0", "1", "9", "#", "t", "f", "A", "\t", "\r", "\x00", "\xff", "é", "-0 ", "01 ", "1000000001 ", "abcdefghijklm ", ".", "\"", "`")
}

func TestTokenExamples(t *testing.T) {
	sharp := impl.TokensResult{Code: impl.ErrText}
	cases := []struct {
		text string
		want impl.TokensResult
	}{
		{"", impl.TokensResult{}},
		{" ", impl.TokensResult{}},
		{"\n", impl.TokensResult{}},
		{"  \n \n\n  ", impl.TokensResult{}},
		{";", impl.TokensResult{}},
		{"; all of ( this ' is A comment", impl.TokensResult{}},
		{";\n;\n", impl.TokensResult{}},
		{";a\nb", impl.TokensResult{Tokens: []impl.Token{sym("b")}}},
		{";a;b\nc;d\n;e", impl.TokensResult{Tokens: []impl.Token{sym("c")}}},
		{"a;b", impl.TokensResult{Tokens: []impl.Token{sym("a")}}},
		{"a;(", impl.TokensResult{Tokens: []impl.Token{sym("a")}}},
		{"12;3\n4", impl.TokensResult{Tokens: []impl.Token{num(12), num(4)}}},
		{"(;)\n)", impl.TokensResult{Tokens: []impl.Token{open(), shut()}}},
		{"a(b)c'd", impl.TokensResult{Tokens: []impl.Token{sym("a"), open(), sym("b"), shut(), sym("c"), quote(), sym("d")}}},
		{"1(#t)-2'#f", impl.TokensResult{Tokens: []impl.Token{num(1), open(), truth(1), shut(), num(-2), quote(), truth(0)}}},
		{"()''", impl.TokensResult{Tokens: []impl.Token{open(), shut(), quote(), quote()}}},
		{"- + -1 0 -- +-*/<=?!", impl.TokensResult{Tokens: []impl.Token{sym("-"), sym("+"), num(-1), num(0), sym("--"), sym("+-*/<=?!")}}},
		{"1000000000 -1000000000", impl.TokensResult{Tokens: []impl.Token{num(impl.MaxNum), num(-impl.MaxNum)}}},
		{"abcdefghijkl", impl.TokensResult{Tokens: []impl.Token{sym("abcdefghijkl")}}},
		{"abcdefghijklm", sharp},
		{"a\nabcdefghijklm", impl.TokensResult{Code: impl.ErrText, At: 2}},
		{"-0", sharp}, {"01", sharp}, {"+1", sharp}, {"1a", sharp}, {"a1", sharp}, {"-1-", sharp},
		{"1000000001", sharp}, {"-1000000001", sharp}, {"99999999999999999999", sharp},
		{"#", sharp}, {"#T", sharp}, {"#tt", sharp}, {"#t#f", sharp}, {"##t", sharp}, {"a#", sharp}, {"#a", sharp}, {"#1", sharp}, {"#F", sharp},
		{"A", sharp}, {"z{", sharp}, {"`a", sharp}, {".", sharp}, {"\t", sharp}, {"\r\n", sharp}, {"\x00", sharp}, {"\xff", sharp}, {"é", sharp}, {"[", sharp}, {"\"", sharp},
		{"(f A)", impl.TokensResult{Code: impl.ErrText, At: 3}},
		{"  é", impl.TokensResult{Code: impl.ErrText, At: 2}},
		{"; é\n (é", impl.TokensResult{Code: impl.ErrText, At: 7}},
		{"a\x00b", sharp}, {"a\tb", sharp},
		{"ok No 01", impl.TokensResult{Code: impl.ErrText, At: 3}},
		{"#(", sharp}, {"(#)", impl.TokensResult{Code: impl.ErrText, At: 1}},
	}
	for _, c := range cases {
		checkTokens(t, c.text, c.want)
		checkTokens(t, c.text, wantTokens(c.text))
	}
}

// All short texts of the signs that matter.
func TestShortTokens(t *testing.T) {
	var try func(text string, left int)
	try = func(text string, left int) {
		checkTokens(t, text, wantTokens(text))
		if left > 0 {
			for _, c := range "( ';\n-01a#tfA" {
				try(text+string(c), left-1)
			}
		}
	}
	try("", 4)
}

func TestSomeTokens(t *testing.T) {
	for _, text := range someTexts(6000, 40, rightPieces()) {
		checkTokens(t, text, wantTokens(text))
	}
	for _, text := range someTexts(6000, 14, wrongPieces()) {
		checkTokens(t, text, wantTokens(text))
	}
	for _, text := range someTexts(3000, 260, []string{"(", ")", "'", "a ", " ", "\n", ";\n"}) {
		checkTokens(t, text, wantTokens(text))
	}
}

// Each byte by itself, and inside of a word.
func TestTokenBytes(t *testing.T) {
	for b := range 256 {
		one := string([]byte{byte(b)})
		for _, text := range []string{one, "a" + one, one + "a", "a" + one + "b", "1" + one, "#" + one, "( " + one + " )"} {
			checkTokens(t, text, wantTokens(text))
		}
		want := int64(impl.ErrText)
		if strings.Contains("abcdefghijklmnopqrstuvwxyz+-*/<=?!", one) {
			want = impl.OK
		}
		for _, name := range []string{one, "a" + one, one + "a", "abcde" + one + "fghijk"} {
			if got := impl.SymFault(name); got != want {
				t.Errorf("SymFault(%q) = %d, not %d", name, got, want)
			}
		}
	}
}

func TestSymFault(t *testing.T) {
	for size := range 40 {
		want := int64(impl.OK)
		if size < 1 || size > 12 {
			want = impl.ErrText
		}
		for _, letter := range []string{"a", "z", "-", "!"} {
			if got := impl.SymFault(strings.Repeat(letter, size)); got != want {
				t.Errorf("SymFault of %d times %s = %d", size, letter, got)
			}
		}
	}
	for _, name := range []string{"a b", " a", "a ", "a\n", "A", "a1", "1", "-1", "#t", "(", "a(", "'a", ";", "a.b", "é", "\xff", "a\x00", "abcdefghijk1", strings.Repeat("a", 1000000)} {
		if got := impl.SymFault(name); got != impl.ErrText {
			t.Errorf("SymFault(%.40q) = %d", name, got)
		}
	}
}

func TestTokenBounds(t *testing.T) {
	blank := strings.Repeat(" ", impl.MaxText)
	hundred := strings.Repeat("(", impl.MaxTokens)
	cases := []struct {
		text string
		want impl.IntResult
	}{
		{blank, impl.IntResult{}},
		{blank + " ", impl.IntResult{Code: impl.ErrMany}},
		{blank[1:] + "a", impl.IntResult{Value: 1}},
		{blank + "a", impl.IntResult{Code: impl.ErrMany}},
		{blank[1:] + "A", impl.IntResult{Code: impl.ErrText, Value: impl.MaxText - 1}},
		{"A" + blank, impl.IntResult{Code: impl.ErrMany}},
		{hundred + "(" + blank, impl.IntResult{Code: impl.ErrMany}},
		{";" + blank[1:], impl.IntResult{}},
		{";" + blank, impl.IntResult{Code: impl.ErrMany}},
		{hundred, impl.IntResult{Value: impl.MaxTokens}},
		{hundred + " ; (\n ", impl.IntResult{Value: impl.MaxTokens}},
		{hundred + "(", impl.IntResult{Code: impl.ErrMany, Value: impl.MaxTokens}},
		{hundred + " \n'", impl.IntResult{Code: impl.ErrMany, Value: impl.MaxTokens + 2}},
		{hundred + ";(\nab", impl.IntResult{Code: impl.ErrMany, Value: impl.MaxTokens + 3}},
		{hundred + "01", impl.IntResult{Code: impl.ErrText, Value: impl.MaxTokens}},
		{hundred + " A (", impl.IntResult{Code: impl.ErrText, Value: impl.MaxTokens + 1}},
		{hundred + "( A", impl.IntResult{Code: impl.ErrMany, Value: impl.MaxTokens}},
		{hundred[1:] + " A(((", impl.IntResult{Code: impl.ErrText, Value: impl.MaxTokens}},
		{strings.Repeat("ab ", impl.MaxTokens), impl.IntResult{Value: impl.MaxTokens}},
		{strings.Repeat("ab ", impl.MaxTokens) + "ab", impl.IntResult{Code: impl.ErrMany, Value: 3 * impl.MaxTokens}},
		{strings.Repeat("a", impl.MaxText), impl.IntResult{Code: impl.ErrText}},
		{strings.Repeat("(", 5000000), impl.IntResult{Code: impl.ErrMany}},
	}
	for _, c := range cases {
		if got := impl.SpotOf(c.text); got != c.want {
			t.Errorf("SpotOf(%.140q) = %+v, not %+v", c.text, got, c.want)
		}
		if got := impl.TokensOf(c.text); wantSpot(got) != c.want || (got.Code != impl.OK && got.Tokens != nil) {
			t.Errorf("TokensOf(%.140q) = %+v, not %+v", c.text, got, c.want)
		}
		checkTokens(t, c.text, wantTokens(c.text))
	}
}

// rightTokens: tokens at which kinds, signs and bounds turn.
func rightTokens() []impl.Token {
	list := []impl.Token{open(), shut(), quote(), truth(0), truth(1)}
	for _, n := range edgeNums() {
		list = append(list, num(n))
	}
	for _, name := range []string{"a", "z", "-", "+", "*", "/", "<", "=", "?", "!", "--", "quo", "call/cc", "set!", "abcdefghijkl", "-----------!"} {
		list = append(list, sym(name))
	}
	return list
}

type wrongToken struct {
	token impl.Token
	code  int64
}

func wrongTokens() []wrongToken {
	var list []wrongToken
	for _, kind := range []int64{0, -1, 7, 8, 100, math.MaxInt64, math.MinInt64, 1<<32 + 1, -5} {
		list = append(list, wrongToken{impl.Token{Kind: kind}, impl.ErrForm}, wrongToken{impl.Token{Kind: kind, Num: 1}, impl.ErrForm},
			wrongToken{impl.Token{Kind: kind, Name: "a"}, impl.ErrForm})
	}
	for _, kind := range []int64{impl.TokOpen, impl.TokClose, impl.TokQuote} {
		list = append(list, wrongToken{impl.Token{Kind: kind, Num: 1}, impl.ErrForm}, wrongToken{impl.Token{Kind: kind, Num: math.MinInt64}, impl.ErrForm},
			wrongToken{impl.Token{Kind: kind, Name: "a"}, impl.ErrForm}, wrongToken{impl.Token{Kind: kind, Name: "A"}, impl.ErrForm})
	}
	for _, n := range wildNums() {
		list = append(list, wrongToken{num(n), impl.ErrRange}, wrongToken{truth(n), impl.ErrRange},
			wrongToken{impl.Token{Kind: impl.TokNum, Num: n, Name: "a"}, impl.ErrForm}, wrongToken{impl.Token{Kind: impl.TokBool, Num: n, Name: "A"}, impl.ErrForm},
			wrongToken{impl.Token{Kind: impl.TokSym, Num: n, Name: "a"}, impl.ErrForm}, wrongToken{impl.Token{Kind: impl.TokSym, Num: n, Name: "A"}, impl.ErrForm})
	}
	for _, n := range []int64{-1, 2, 3, 10, impl.MaxNum} {
		list = append(list, wrongToken{truth(n), impl.ErrRange}, wrongToken{impl.Token{Kind: impl.TokSym, Num: n}, impl.ErrForm})
	}
	for _, name := range []string{"", "A", "a1", "1", "-1", "a b", "#t", "(", "'", ";", "a\n", "é", "\xff", "\x00", "abcdefghijklm", strings.Repeat("a", 100000)} {
		list = append(list, wrongToken{sym(name), impl.ErrText}, wrongToken{impl.Token{Kind: impl.TokSym, Num: 1, Name: name}, impl.ErrForm})
		if name != "" {
			list = append(list, wrongToken{impl.Token{Kind: impl.TokNum, Name: name}, impl.ErrForm}, wrongToken{impl.Token{Kind: impl.TokBool, Num: 1, Name: name}, impl.ErrForm})
		}
	}
	return list
}

func TestTokenText(t *testing.T) {
	cases := []struct {
		token impl.Token
		want  string
	}{
		{open(), "("}, {shut(), ")"}, {quote(), "'"}, {num(0), "0"}, {num(-20), "-20"}, {num(impl.MaxNum), "1000000000"},
		{num(-impl.MaxNum), "-1000000000"}, {truth(1), "#t"}, {truth(0), "#f"}, {sym("-"), "-"}, {sym("call/cc"), "call/cc"}, {sym("abcdefghijkl"), "abcdefghijkl"},
	}
	for _, c := range cases {
		if got := impl.TokenText(c.token); got != (impl.TextResult{Text: c.want}) {
			t.Errorf("TokenText(%+v) = %+v, not %q", c.token, got, c.want)
		}
	}
	for _, c := range wrongTokens() {
		if got := impl.TokenText(c.token); got != (impl.TextResult{Code: c.code}) {
			t.Errorf("TokenText(%.60q) = %+v, not %d", c.token.Name, got, c.code)
		}
		if got := impl.TokensText([]impl.Token{open(), c.token}); got != (impl.TextResult{Code: c.code}) {
			t.Errorf("TokensText of ( and kind %d, number %d, name %.60q = %+v, not %d", c.token.Kind, c.token.Num, c.token.Name, got, c.code)
		}
	}
}

// The first fault of a list is the first one's, whatever stands behind it; too many is asked ahead of all.
func TestTokensTextFaults(t *testing.T) {
	wrong := wrongTokens()
	for i, a := range wrong {
		b := wrong[(i*7+3)%len(wrong)]
		if got := impl.TokensText([]impl.Token{num(1), a.token, sym("x"), b.token}); got != (impl.TextResult{Code: a.code}) {
			t.Fatalf("codes %d and %d: %+v", a.code, b.code, got)
		}
		many := slices.Repeat([]impl.Token{a.token}, impl.MaxTokens+1)
		if got := impl.TokensText(many); got != (impl.TextResult{Code: impl.ErrMany}) {
			t.Fatalf("%d of code %d: %+v", len(many), a.code, got)
		}
		if got := impl.TokensText(many[1:]); got != (impl.TextResult{Code: a.code}) {
			t.Fatalf("%d of code %d: %+v", len(many)-1, a.code, got)
		}
		last := append(slices.Repeat([]impl.Token{open()}, impl.MaxTokens-1), a.token)
		if got := impl.TokensText(last); got != (impl.TextResult{Code: a.code}) {
			t.Fatalf("code %d behind %d: %+v", a.code, len(last)-1, got)
		}
	}
}

func TestTokensText(t *testing.T) {
	cases := []struct {
		list []impl.Token
		want string
	}{
		{nil, ""},
		{[]impl.Token{}, ""},
		{[]impl.Token{shut()}, ")"},
		{[]impl.Token{open(), shut()}, "( )"},
		{[]impl.Token{open(), sym("f"), quote(), num(-3), truth(1), shut(), truth(0)}, "( f ' -3 #t ) #f"},
		{[]impl.Token{num(1), num(2), sym("-"), num(3)}, "1 2 - 3"},
		{slices.Repeat([]impl.Token{open()}, impl.MaxTokens), strings.Repeat("( ", impl.MaxTokens-1) + "("},
		{slices.Repeat([]impl.Token{sym("abcdefghijkl")}, impl.MaxTokens), strings.TrimSpace(strings.Repeat("abcdefghijkl ", impl.MaxTokens))},
	}
	for _, c := range cases {
		if got := impl.TokensText(c.list); got != (impl.TextResult{Text: c.want}) {
			t.Errorf("TokensText(%+v) = %+v, not %q", c.list, got, c.want)
		}
	}
	if got := impl.TokensText(slices.Repeat([]impl.Token{open()}, impl.MaxTokens+1)); got != (impl.TextResult{Code: impl.ErrMany}) {
		t.Errorf("TokensText of one more than MaxTokens = %+v", got)
	}
}

// apart: whether two texts lie in different memory.
func apart(a, b string) bool {
	from, start := uintptr(unsafe.Pointer(unsafe.StringData(a))), uintptr(unsafe.Pointer(unsafe.StringData(b)))
	return len(a) == 0 || len(b) == 0 || from+uintptr(len(a)) <= start || start+uintptr(len(b)) <= from
}

// Promise 1: the same again behind other calls, in new memory that can be written into, and no argument is changed.
func TestPromise1Tokens(t *testing.T) {
	texts := append(someTexts(300, 40, rightPieces()), someTexts(300, 10, wrongPieces())...)
	for _, text := range texts {
		kept := strings.Clone(text)
		first := impl.TokensOf(text)
		again := impl.TokensOf(text)
		if text != kept || !sameTokens(first, again) {
			t.Fatalf("TokensOf(%q) = %+v, then %+v", kept, first, again)
		}
		for i := range first.Tokens {
			if !apart(first.Tokens[i].Name, text) {
				t.Fatalf("TokensOf(%q): the name %q is a part of the text", text, first.Tokens[i].Name)
			}
			first.Tokens[i] = impl.Token{Kind: -1, Num: -1, Name: "changed"}
		}
		if third := impl.TokensOf(text); !sameTokens(third, again) {
			t.Fatalf("TokensOf(%q) = %+v behind a change of its answer, not %+v", text, third, again)
		}
		if again.Code != impl.OK && again.Tokens != nil {
			t.Fatalf("TokensOf(%q) = %+v", text, again)
		}
	}
}

func TestPromise1TokenTexts(t *testing.T) {
	list := rightTokens()
	wrong := []impl.Token{}
	for _, w := range wrongTokens() {
		wrong = append(wrong, w.token)
	}
	for _, tokens := range [][]impl.Token{list, list[:1], list[len(list)-1:], wrong, nil} {
		kept := slices.Clone(tokens)
		first, again := impl.TokensText(tokens), impl.TokensText(tokens)
		if first != again || !reflect.DeepEqual(kept, tokens) {
			t.Fatalf("TokensText: %+v, then %+v", first, again)
		}
		for _, token := range tokens {
			one, two := impl.TokenText(token), impl.TokenText(token)
			if one != two || one.Code != impl.OK && one.Text != "" {
				t.Fatalf("TokenText(%+v) = %+v, then %+v", token, one, two)
			}
			if !apart(one.Text, token.Name) || !apart(first.Text, token.Name) {
				t.Fatalf("the text of %+v is its name itself", token)
			}
		}
	}
}

// Promise 3: each token alone, and each two side by side.
func TestPromise3Pairs(t *testing.T) {
	for _, a := range rightTokens() {
		readBack(t, []impl.Token{a})
		for _, b := range rightTokens() {
			readBack(t, []impl.Token{a, b})
		}
	}
}

func readBack(t *testing.T, list []impl.Token) {
	t.Helper()
	text := impl.TokensText(list)
	if text.Code != impl.OK {
		t.Fatalf("TokensText(%+v) = %+v", list, text)
	}
	want := impl.TokensResult{Tokens: list}
	if len(text.Text) > impl.MaxText {
		want = impl.TokensResult{Code: impl.ErrMany}
	}
	if got := impl.TokensOf(text.Text); !sameTokens(got, want) {
		t.Fatalf("read back from %q: %+v, not %+v", text.Text, got, want)
	}
}

// Promise 3: lists of all lengths.
func TestPromise3Lists(t *testing.T) {
	right := rightTokens()
	for size := range impl.MaxTokens + 1 {
		for start := range 9 {
			list := make([]impl.Token, size)
			for i := range list {
				list[i] = right[(start*31+i*(2*start+1))%len(right)]
			}
			readBack(t, list)
			for i := range list {
				list[i] = right[(start*31+i*(2*start+1))%5]
			}
			readBack(t, list)
		}
	}
}

// Promise 3: what is read from a text is written so that it is read the same again, one blank between.
func TestPromise3Texts(t *testing.T) {
	for _, text := range someTexts(4000, 40, rightPieces()) {
		first := impl.TokensOf(text)
		if first.Code != impl.OK {
			continue
		}
		written := impl.TokensText(first.Tokens)
		if written.Code != impl.OK {
			t.Fatalf("%q is read and not written: %+v", text, written)
		}
		readBack(t, first.Tokens)
		if strings.Contains(written.Text, "  ") || strings.TrimSpace(written.Text) != written.Text {
			t.Fatalf("%q is written %q", text, written.Text)
		}
	}
}
