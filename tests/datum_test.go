package tests

import (
	"fmt"
	"math"
	"slices"
	"strings"
	"testing"

	"loop.example/g00349/impl"
)

func datNum(parent, n int64) impl.Datum {
	return impl.Datum{Kind: impl.DatNum, Parent: parent, Num: n}
}
func datBool(parent, n int64) impl.Datum {
	return impl.Datum{Kind: impl.DatBool, Parent: parent, Num: n}
}
func datSym(parent int64, name string) impl.Datum {
	return impl.Datum{Kind: impl.DatSym, Parent: parent, Name: name}
}
func datList(parent int64) impl.Datum { return impl.Datum{Kind: impl.DatList, Parent: parent} }

func data(list ...impl.Datum) []impl.Datum { return list }

func right(list ...impl.Datum) impl.DataResult { return impl.DataResult{Data: list} }

func wrong(code, at int64) impl.DataResult { return impl.DataResult{Code: code, At: at} }

func sameRead(a, b impl.DataResult) bool {
	return a.Code == b.Code && a.At == b.At && slices.Equal(a.Data, b.Data)
}

// wantOne tells the fault of a datum by itself.
func wantOne(d impl.Datum) int64 {
	switch d.Kind {
	case impl.DatNum:
		if d.Name != "" {
			return impl.ErrForm
		}
		if d.Num < -impl.MaxNum || d.Num > impl.MaxNum {
			return impl.ErrRange
		}
	case impl.DatBool:
		if d.Name != "" {
			return impl.ErrForm
		}
		if d.Num != 0 && d.Num != 1 {
			return impl.ErrRange
		}
	case impl.DatSym:
		if d.Num != 0 {
			return impl.ErrForm
		}
		if !symbol.MatchString(d.Name) {
			return impl.ErrText
		}
	case impl.DatList:
		if d.Num != 0 || d.Name != "" {
			return impl.ErrForm
		}
	default:
		return impl.ErrForm
	}
	return impl.OK
}

// wantDataFault keeps the chain of lists that can still take a datum, instead of going up by Parent.
func wantDataFault(d []impl.Datum) int64 {
	if len(d) == 0 || len(d) > 80 {
		return impl.ErrMany
	}
	var chain []int64
	for i, x := range d {
		if code := wantOne(x); code != impl.OK {
			return code
		}
		if i == 0 && x.Parent != -1 || i > 0 && (x.Parent < 0 || x.Parent >= int64(i)) {
			return impl.ErrRange
		}
		if i > 0 {
			k := slices.Index(chain, x.Parent)
			if k < 0 {
				return impl.ErrForm
			}
			chain = chain[:k+1]
		}
		if len(chain)+1 > 12 {
			return impl.ErrMany
		}
		if x.Kind == impl.DatList {
			chain = append(chain, int64(i))
		}
	}
	return impl.OK
}

type readFault struct{ code, at int64 }

type readByHand struct {
	tokens []impl.Token
	at     int
	data   []impl.Datum
}

func (r *readByHand) fail(code int64) {
	panic(readFault{code, int64(r.at)})
}

func (r *readByHand) put(d impl.Datum) int64 {
	r.data = append(r.data, d)
	return int64(len(r.data)) - 1
}

// datum reads one datum whole; deep counts the lists around it and itself.
func (r *readByHand) datum(parent int64, deep int) {
	if r.at == len(r.tokens) || r.tokens[r.at].Kind == impl.TokClose {
		r.fail(impl.ErrForm)
	}
	token := r.tokens[r.at]
	if len(r.data) >= 80 || deep > 12 || token.Kind == impl.TokQuote && (len(r.data) >= 79 || deep > 11) {
		r.fail(impl.ErrMany)
	}
	r.at++
	switch token.Kind {
	case impl.TokQuote:
		list := r.put(datList(parent))
		r.put(datSym(list, "quote"))
		r.datum(list, deep+1)
	case impl.TokOpen:
		list := r.put(datList(parent))
		for r.at == len(r.tokens) || r.tokens[r.at].Kind != impl.TokClose {
			r.datum(list, deep+1)
		}
		r.at++
	case impl.TokNum:
		r.put(datNum(parent, token.Num))
	case impl.TokBool:
		r.put(datBool(parent, token.Num))
	default:
		r.put(datSym(parent, token.Name))
	}
}

func wantRead(text string) (result impl.DataResult) {
	cut := wantTokens(text)
	if cut.Code != impl.OK {
		return wrong(cut.Code, cut.At)
	}
	r := readByHand{tokens: cut.Tokens}
	defer func() {
		if f, ok := recover().(readFault); ok {
			result = wrong(f.code, f.at)
		}
	}()
	r.datum(-1, 1)
	if r.at < len(r.tokens) {
		r.fail(impl.ErrForm)
	}
	return impl.DataResult{Data: r.data}
}

func checkRead(t *testing.T, text string, want impl.DataResult) {
	t.Helper()
	got := impl.ReadData(text)
	if !sameRead(got, want) || got.Code != impl.OK && got.Data != nil {
		t.Fatalf("ReadData(%q) = %+v, not %+v", text, got, want)
	}
	if got.Code == impl.OK && impl.DataFault(got.Data) != impl.OK {
		t.Fatalf("ReadData(%q) = %+v has the fault %d", text, got, impl.DataFault(got.Data))
	}
}

// wantText writes data without their bound of bytes; which parts a datum has is asked of all of the others.
func wantText(d []impl.Datum, at int) string {
	if d[at].Kind != impl.DatList {
		kind := map[int64]int64{impl.DatNum: impl.TokNum, impl.DatBool: impl.TokBool, impl.DatSym: impl.TokSym}[d[at].Kind]
		return impl.TokenText(impl.Token{Kind: kind, Num: d[at].Num, Name: d[at].Name}).Text
	}
	parts := []string{}
	for _, part := range wantParts(d, at) {
		parts = append(parts, wantText(d, int(part)))
	}
	return "(" + strings.Join(parts, " ") + ")"
}

func wantParts(d []impl.Datum, at int) []int64 {
	var parts []int64
	for i, x := range d {
		if x.Parent == int64(at) {
			parts = append(parts, int64(i))
		}
	}
	return parts
}

// wantSub copies a datum part by part.
func wantSub(d []impl.Datum, at int) []impl.Datum {
	var list []impl.Datum
	var take func(at int, parent int64)
	take = func(at int, parent int64) {
		x := d[at]
		x.Parent = parent
		list = append(list, x)
		place := int64(len(list)) - 1
		for _, part := range wantParts(d, at) {
			take(int(part), place)
		}
	}
	take(at, -1)
	return list
}

func wantWritten(d []impl.Datum) impl.TextResult {
	text := wantText(d, 0)
	if len(text) > impl.MaxText {
		return impl.TextResult{Code: impl.ErrMany}
	}
	return impl.TextResult{Text: text}
}

// dice: numbers by a fixed rule.
type dice uint64

func (s *dice) next(n int) int {
	*s ^= *s << 13
	*s ^= *s >> 7
	*s ^= *s << 17
	return int(*s>>11) % n
}

func (s *dice) leaf(parent int64) impl.Datum {
	names := []string{"a", "x", "quote", "if", "call/cc", "+", "-", "abcdefghijkl"}
	nums := []int64{0, 1, -1, 7, -20, 12345, impl.MaxNum, -impl.MaxNum}
	switch s.next(3) {
	case 0:
		return datNum(parent, nums[s.next(len(nums))])
	case 1:
		return datBool(parent, int64(s.next(2)))
	}
	return datSym(parent, names[s.next(len(names))])
}

// data grows up to most data; lists are as likely as said by often of 10, and steep says how seldom a list is left.
func (s *dice) data(most, often, steep int) []impl.Datum {
	list := data(datList(-1))
	chain := []int64{0}
	for len(list) < most {
		for len(chain) > 1 && s.next(steep) == 0 {
			chain = chain[:len(chain)-1]
		}
		if len(chain) == impl.MaxDeep {
			chain = chain[:1+s.next(impl.MaxDeep-1)]
		}
		parent := chain[len(chain)-1]
		if s.next(10) < often {
			chain = append(chain, int64(len(list)))
			list = append(list, datList(parent))
		} else {
			list = append(list, s.leaf(parent))
		}
	}
	return list
}

// someData: many data without fault, of all sizes and shapes, at the bounds as well.
func someData(count int) [][]impl.Datum {
	s := dice(0x2545F4914F6CDD1D)
	list := [][]impl.Datum{data(datList(-1)), data(datNum(-1, 0)), data(datNum(-1, -impl.MaxNum)), data(datBool(-1, 0)), data(datBool(-1, 1)),
		data(datSym(-1, "a")), data(datSym(-1, "abcdefghijkl")), deepData(12), wideData(80)}
	for i := range count {
		most := 1 + s.next(80)
		if i%4 == 0 {
			most = 80 - s.next(2)
		}
		list = append(list, s.data(most, s.next(11), 1+s.next(12)))
	}
	return list
}

// deepData: lists in one another, the innermost one empty.
func deepData(deep int) []impl.Datum {
	var list []impl.Datum
	for i := range deep {
		list = append(list, datList(int64(i)-1))
	}
	return list
}

// wideData: a list of small numbers.
func wideData(count int) []impl.Datum {
	list := data(datList(-1))
	for len(list) < count {
		list = append(list, datNum(0, int64(len(list)%10)))
	}
	return list
}

func TestReadExamples(t *testing.T) {
	q := func(parent int64) []impl.Datum { return data(datList(parent), datSym(parent+1, "quote")) }
	cases := []struct {
		text string
		want impl.DataResult
	}{
		{"7", right(datNum(-1, 7))},
		{"-1000000000", right(datNum(-1, -impl.MaxNum))},
		{"#t", right(datBool(-1, 1))},
		{" #f ; x", right(datBool(-1, 0))},
		{"set!", right(datSym(-1, "set!"))},
		{"()", right(datList(-1))},
		{"( ; )\n )", right(datList(-1))},
		{"(())", right(datList(-1), datList(0))},
		{"(()())", right(datList(-1), datList(0), datList(0))},
		{"((())())", right(datList(-1), datList(0), datList(1), datList(0))},
		{"(a)", right(datList(-1), datSym(0, "a"))},
		{"(a (b 2) #t)", right(datList(-1), datSym(0, "a"), datList(0), datSym(2, "b"), datNum(2, 2), datBool(0, 1))},
		{"(((a) b) c)", right(datList(-1), datList(0), datList(1), datSym(2, "a"), datSym(1, "b"), datSym(0, "c"))},
		{"'5", impl.DataResult{Data: append(q(-1), datNum(0, 5))}},
		{"'#f", impl.DataResult{Data: append(q(-1), datBool(0, 0))}},
		{"'x", impl.DataResult{Data: append(q(-1), datSym(0, "x"))}},
		{"'quote", impl.DataResult{Data: append(q(-1), datSym(0, "quote"))}},
		{"' \n;)\n x", impl.DataResult{Data: append(q(-1), datSym(0, "x"))}},
		{"'()", impl.DataResult{Data: append(q(-1), datList(0))}},
		{"'(a 1)", impl.DataResult{Data: append(q(-1), datList(0), datSym(2, "a"), datNum(2, 1))}},
		{"(quote x)", impl.DataResult{Data: append(q(-1), datSym(0, "x"))}},
		{"''x", right(datList(-1), datSym(0, "quote"), datList(0), datSym(2, "quote"), datSym(2, "x"))},
		{"'''()", right(datList(-1), datSym(0, "quote"), datList(0), datSym(2, "quote"), datList(2), datSym(4, "quote"), datList(4))},
		{"('a b)", right(datList(-1), datList(0), datSym(1, "quote"), datSym(1, "a"), datSym(0, "b"))},
		{"(''a b)", right(datList(-1), datList(0), datSym(1, "quote"), datList(1), datSym(3, "quote"), datSym(3, "a"), datSym(0, "b"))},
		{"('(a) 'b)", right(datList(-1), datList(0), datSym(1, "quote"), datList(1), datSym(3, "a"), datList(0), datSym(5, "quote"), datSym(5, "b"))},
		{"'('a)", right(datList(-1), datSym(0, "quote"), datList(0), datList(2), datSym(3, "quote"), datSym(3, "a"))},
		{"", wrong(impl.ErrForm, 0)},
		{" \n ", wrong(impl.ErrForm, 0)},
		{"; only (a) 'comment\n;", wrong(impl.ErrForm, 0)},
		{")", wrong(impl.ErrForm, 0)},
		{")a", wrong(impl.ErrForm, 0)},
		{"'", wrong(impl.ErrForm, 1)},
		{"''", wrong(impl.ErrForm, 2)},
		{"')", wrong(impl.ErrForm, 1)},
		{"'')", wrong(impl.ErrForm, 2)},
		{"')a", wrong(impl.ErrForm, 1)},
		{"(')", wrong(impl.ErrForm, 2)},
		{"(a ')", wrong(impl.ErrForm, 3)},
		{"(a '') b", wrong(impl.ErrForm, 4)},
		{"(", wrong(impl.ErrForm, 1)},
		{"(f", wrong(impl.ErrForm, 2)},
		{"((a)", wrong(impl.ErrForm, 4)},
		{"('a", wrong(impl.ErrForm, 3)},
		{"'(", wrong(impl.ErrForm, 2)},
		{"(f))", wrong(impl.ErrForm, 3)},
		{"a)", wrong(impl.ErrForm, 1)},
		{"a b", wrong(impl.ErrForm, 1)},
		{"a '", wrong(impl.ErrForm, 1)},
		{"() ()", wrong(impl.ErrForm, 2)},
		{"'a b", wrong(impl.ErrForm, 2)},
		{"''a)", wrong(impl.ErrForm, 3)},
		{"'(a) 1 2 3", wrong(impl.ErrForm, 4)},
		{"#t ; left (\n (", wrong(impl.ErrForm, 1)},
		{"(f A)", wrong(impl.ErrText, 3)},
		{"a  A", wrong(impl.ErrText, 3)},
		{") A", wrong(impl.ErrText, 2)},
		{"((( 01", wrong(impl.ErrText, 4)},
		{"ab cd 1000000001", wrong(impl.ErrText, 6)},
	}
	for _, c := range cases {
		checkRead(t, c.text, c.want)
		checkRead(t, c.text, wantRead(c.text))
	}
}

// All short texts of the tokens that matter.
func TestReadShort(t *testing.T) {
	var try func(text string, left int)
	try = func(text string, left int) {
		checkRead(t, text, wantRead(text))
		if left > 0 {
			for _, token := range []string{"(", ")", "'", " 1"} {
				try(text+token, left-1)
			}
		}
	}
	try("", 8)
}

func TestReadSome(t *testing.T) {
	for _, text := range someTexts(6000, 30, rightPieces()) {
		checkRead(t, text, wantRead(text))
		checkRead(t, "("+text, wantRead("("+text))
	}
	for _, text := range someTexts(3000, 12, wrongPieces()) {
		checkRead(t, "("+text+")", wantRead("("+text+")"))
	}
	for _, text := range someTexts(4000, 130, []string{"(", "(", ")", "'", "a ", "1 ", "()", "'b ", "(c)", "; '\n"}) {
		checkRead(t, "((("+text, wantRead("((("+text))
	}
	for _, text := range someTexts(4000, 100, []string{"a ", "1 ", "'b ", "()", "'()", "(c)"}) {
		checkRead(t, "("+text+")", wantRead("("+text+")"))
	}
}

// times: a text again and again.
func times(n int, text string) string { return strings.Repeat(text, n) }

func TestReadMany(t *testing.T) {
	const many, form = impl.ErrMany, impl.ErrForm
	cases := []struct {
		text     string
		code, at int64
	}{
		{"(" + times(79, "a ") + ")", impl.OK, 0},
		{"(" + times(80, "a ") + ")", many, 80},
		{"(" + times(80, "a ") + "b", many, 80},
		{"(" + times(79, "a "), form, 80},
		{"(" + times(79, "a ") + ") a", form, 81},
		{"(" + times(79, "a ") + "()", many, 80},
		{"(" + times(78, "a ") + "())", impl.OK, 0},
		{"(" + times(78, "a ") + "(a", many, 80},
		{"(" + times(78, "a ") + "(')", many, 80},
		{"(" + times(79, "a ") + "'a)", many, 80},
		{"(" + times(78, "a ") + "'a)", many, 79},
		{"(" + times(78, "a ") + "')", many, 79},
		{"(" + times(78, "a ") + "'", many, 79},
		{"(" + times(77, "a ") + "'a)", many, 79},
		{"(" + times(77, "a ") + "'", form, 79},
		{"(" + times(77, "a ") + "')", form, 79},
		{"(" + times(77, "a ") + "''a", many, 79},
		{"(" + times(76, "a ") + "'a)", impl.OK, 0},
		{"(" + times(76, "a ") + "'())", impl.OK, 0},
		{"(" + times(76, "a ") + "'(a))", many, 79},
		{"(" + times(76, "a ") + "''a)", many, 78},
		{"(" + times(74, "a ") + "''a)", impl.OK, 0},
		{"(" + times(26, "'a ") + "a)", impl.OK, 0},
		{"(" + times(26, "'a ") + "a a)", many, 54},
		{"(" + times(26, "'a ") + "'", many, 53},
		{"(" + times(26, "'a ") + ")", impl.OK, 0},
		{"(" + times(118, "a ") + ")", many, 80},
		{"(" + times(119, "a ") + ")", many, 239},
		{times(120, ")"), form, 0},
		{times(121, ")"), many, 120},
	}
	for _, c := range cases {
		got := impl.ReadData(c.text)
		if got.Code != c.code || got.At != c.at {
			t.Errorf("ReadData(%q) = %d at %d, not %d at %d", c.text, got.Code, got.At, c.code, c.at)
		}
		checkRead(t, c.text, wantRead(c.text))
	}
}

func TestReadDeep(t *testing.T) {
	const many, form = impl.ErrMany, impl.ErrForm
	cases := []struct {
		text     string
		code, at int64
	}{
		{times(12, "(") + times(12, ")"), impl.OK, 0},
		{times(13, "(") + times(13, ")"), many, 12},
		{times(11, "(") + "a" + times(11, ")"), impl.OK, 0},
		{times(12, "(") + "a" + times(12, ")"), many, 12},
		{times(12, "(") + "'", many, 12},
		{times(12, "("), form, 12},
		{times(12, "(") + times(12, ")") + ")", form, 24},
		{times(11, "(") + "()()" + times(11, ")"), impl.OK, 0},
		{times(11, "(") + "()" + times(10, ")") + times(10, "(") + "()" + times(11, ")"), impl.OK, 0},
		{times(11, "(") + "'a", many, 11},
		{times(11, "(") + "'", many, 11},
		{times(11, "(") + "')", many, 11},
		{times(10, "(") + "'a" + times(10, ")"), impl.OK, 0},
		{times(10, "(") + "'()" + times(10, ")"), impl.OK, 0},
		{times(10, "(") + "'(a)", many, 12},
		{times(10, "(") + "''a", many, 11},
		{times(10, "(") + "')", form, 11},
		{times(10, "(") + "'", form, 11},
		{times(10, "(") + "'a'b'()" + times(10, ")"), impl.OK, 0},
		{times(11, "'") + "a", impl.OK, 0},
		{times(11, "'") + "()", impl.OK, 0},
		{times(11, "'") + "(a)", many, 12},
		{times(11, "'") + "(')", many, 12},
		{times(11, "'"), form, 11},
		{times(11, "'") + ")", form, 11},
		{times(11, "'") + "a a", form, 12},
		{times(12, "'"), many, 11},
		{times(12, "'") + "a", many, 11},
		{"(" + times(10, "'") + "a " + times(10, "'") + "b)", impl.OK, 0},
		{"(" + times(11, "'") + "a)", many, 11},
	}
	for _, c := range cases {
		got := impl.ReadData(c.text)
		if got.Code != c.code || got.At != c.at {
			t.Errorf("ReadData(%q) = %d at %d, not %d at %d", c.text, got.Code, got.At, c.code, c.at)
		}
		checkRead(t, c.text, wantRead(c.text))
	}
}

// Every bound of how many beside every bound of how deep.
func TestReadBothBounds(t *testing.T) {
	for wide := 60; wide <= 80; wide++ {
		for deep := range 14 {
			for _, end := range []string{"", "a", "'", "'a", "''a", "()", "(a)", "'()", ")", "')", "a a"} {
				text := "(" + times(wide, "a ") + times(deep, "(") + end
				checkRead(t, text, wantRead(text))
				checkRead(t, text+times(deep+1, ")"), wantRead(text+times(deep+1, ")")))
			}
		}
	}
}

func TestReadBytes(t *testing.T) {
	for _, c := range []struct {
		text string
		want impl.DataResult
	}{
		{"a" + times(399, " "), right(datSym(-1, "a"))},
		{"a" + times(400, " "), wrong(impl.ErrMany, 0)},
		{times(399, " ") + "'", wrong(impl.ErrForm, 1)},
		{times(400, " ") + "'", wrong(impl.ErrMany, 0)},
		{times(399, "\n") + "A", wrong(impl.ErrText, 399)},
		{times(400, " "), wrong(impl.ErrForm, 0)},
		{times(401, " "), wrong(impl.ErrMany, 0)},
		{";" + times(399, "x"), wrong(impl.ErrForm, 0)},
		{";" + times(400, "x"), wrong(impl.ErrMany, 0)},
		{"A" + times(400, "("), wrong(impl.ErrMany, 0)},
		{times(400, "("), wrong(impl.ErrMany, 120)},
		{times(3000000, "("), wrong(impl.ErrMany, 0)},
	} {
		checkRead(t, c.text, c.want)
		checkRead(t, c.text, wantRead(c.text))
	}
}

func wrongKinds() []int64 {
	return []int64{0, -1, 5, 6, 100, 1<<32 + 1, 1<<32 + 4, -4, math.MaxInt64, math.MinInt64}
}

func wrongNames() []string {
	return []string{"", "A", "a1", "1", "-1", "a b", "#t", "(", ")", "()", "'", ";", "a\n", "é", "\xff", "\x00", "abcdefghijklm", strings.Repeat("a", 100000)}
}

type wrongDatum struct {
	datum impl.Datum
	code  int64
}

// wrongData: a datum that is wrong by itself, and would stand right as the first one.
func wrongData() []wrongDatum {
	var list []wrongDatum
	put := func(code, kind, n int64, name string) {
		list = append(list, wrongDatum{impl.Datum{Kind: kind, Parent: -1, Num: n, Name: name}, code})
	}
	for _, kind := range wrongKinds() {
		put(impl.ErrForm, kind, 0, "")
		put(impl.ErrForm, kind, 1, "")
		put(impl.ErrForm, kind, 0, "a")
	}
	for _, n := range append(wildNums(), -1, 1, impl.MaxNum) {
		put(impl.ErrForm, impl.DatList, n, "")
		put(impl.ErrForm, impl.DatList, n, "a")
		put(impl.ErrForm, impl.DatSym, n, "a")
		put(impl.ErrForm, impl.DatSym, n, "A")
		put(impl.ErrForm, impl.DatNum, n, "a")
		put(impl.ErrForm, impl.DatBool, n, "A")
	}
	for _, n := range wildNums() {
		put(impl.ErrRange, impl.DatNum, n, "")
	}
	for _, n := range append(wildNums(), -1, 2, 3, impl.MaxNum) {
		put(impl.ErrRange, impl.DatBool, n, "")
	}
	for _, name := range wrongNames() {
		put(impl.ErrText, impl.DatSym, 0, name)
		put(impl.ErrForm, impl.DatSym, 1, name)
		if name != "" {
			put(impl.ErrForm, impl.DatList, 0, name)
			put(impl.ErrForm, impl.DatNum, 5, name)
			put(impl.ErrForm, impl.DatBool, 1, name)
		}
	}
	return list
}

// checkFault: all that ask the fault tell it, and nothing beside it.
func checkFault(t *testing.T, d []impl.Datum, want int64) {
	t.Helper()
	if got := impl.DataFault(d); got != want {
		t.Fatalf("DataFault(%.400s) = %d, not %d", fmt.Sprintf("%+v", d), got, want)
	}
	if want == impl.OK {
		return
	}
	if got := impl.WriteData(d); got != (impl.TextResult{Code: want}) {
		t.Fatalf("WriteData of fault %d = %+v", want, got)
	}
	for _, at := range []int64{0, -1, int64(len(d)), math.MinInt64} {
		if got := impl.PartsOf(d, at); got.Code != want || got.List != nil {
			t.Fatalf("PartsOf of fault %d at %d = %+v", want, at, got)
		}
		if got := impl.SubData(d, at); got.Code != want || got.At != 0 || got.Data != nil {
			t.Fatalf("SubData of fault %d at %d = %+v", want, at, got)
		}
	}
}

func TestDataFaultOne(t *testing.T) {
	for _, c := range wrongData() {
		checkFault(t, data(c.datum), c.code)
		behind := c.datum
		behind.Parent = 0
		checkFault(t, data(datList(-1), behind), c.code)
		checkFault(t, data(datList(-1), datNum(0, 1), behind, datNum(9, 9)), c.code)
		for _, parent := range []int64{0, -2, 7, math.MinInt64, math.MaxInt64} { // a datum's own fault is asked ahead of its Parent's
			lost := c.datum
			lost.Parent = parent
			checkFault(t, data(lost), c.code)
		}
	}
}

func TestDataFaultExamples(t *testing.T) {
	cases := []struct {
		d    []impl.Datum
		want int64
	}{
		{nil, impl.ErrMany},
		{data(), impl.ErrMany},
		{data(datList(-1)), impl.OK},
		{wideData(80), impl.OK},
		{wideData(81), impl.ErrMany},
		{make([]impl.Datum, 80), impl.ErrForm},
		{make([]impl.Datum, 81), impl.ErrMany},
		{make([]impl.Datum, 100000), impl.ErrMany},
		{deepData(12), impl.OK},
		{deepData(13), impl.ErrMany},
		{append(deepData(12), datNum(10, 1)), impl.OK},
		{append(deepData(12), datNum(11, 1)), impl.ErrMany},
		{append(deepData(12), datNum(11, impl.MaxNum+1)), impl.ErrRange},
		{append(deepData(12), datNum(12, 1)), impl.ErrRange},
		{append(deepData(12), datNum(0, 1), datNum(11, 1)), impl.ErrForm},
		{append(deepData(13), datNum(0, impl.MaxNum+1)), impl.ErrMany},
		{data(datNum(0, 1)), impl.ErrRange},
		{data(datList(0)), impl.ErrRange},
		{data(datList(-2)), impl.ErrRange},
		{data(datList(1), datList(0)), impl.ErrRange},
		{data(datList(math.MinInt64)), impl.ErrRange},
		{data(datList(math.MaxInt64)), impl.ErrRange},
		{data(datList(-1), datNum(-1, 1)), impl.ErrRange},
		{data(datList(-1), datNum(1, 1)), impl.ErrRange},
		{data(datList(-1), datList(1)), impl.ErrRange},
		{data(datList(-1), datNum(2, 1)), impl.ErrRange},
		{data(datList(-1), datNum(math.MinInt64, 1)), impl.ErrRange},
		{data(datList(-1), datNum(math.MaxInt64, 1)), impl.ErrRange},
		{data(datList(-1), datNum(1<<32, 1)), impl.ErrRange},
		{data(datNum(-1, 1), datNum(0, 1)), impl.ErrForm},
		{data(datSym(-1, "a"), datList(0)), impl.ErrForm},
		{data(datBool(-1, 1), datList(-1)), impl.ErrRange},
		{data(datList(-1), datNum(0, 1), datNum(1, 1)), impl.ErrForm},
		{data(datList(-1), datNum(0, 1), datNum(0, 1)), impl.OK},
		{data(datList(-1), datList(0), datList(0), datNum(1, 1)), impl.ErrForm},
		{data(datList(-1), datList(0), datList(0), datNum(2, 1)), impl.OK},
		{data(datList(-1), datList(0), datNum(1, 1), datNum(0, 1), datNum(1, 1)), impl.ErrForm},
		{data(datList(-1), datList(0), datList(1), datNum(2, 1), datNum(1, 1), datNum(2, 1)), impl.ErrForm},
		{data(datList(-1), datList(0), datList(1), datNum(2, 1), datNum(1, 1), datNum(0, 1)), impl.OK},
	}
	for _, c := range cases {
		checkFault(t, c.d, c.want)
		checkFault(t, c.d, wantDataFault(c.d))
	}
}

// All short lists of two kinds with all Parents that matter.
func TestDataFaultShort(t *testing.T) {
	var try func(d []impl.Datum, left int)
	try = func(d []impl.Datum, left int) {
		checkFault(t, d, wantDataFault(d))
		if left == 0 {
			return
		}
		for parent := int64(-2); parent <= 5; parent++ {
			try(append(slices.Clone(d), datList(parent)), left-1)
			try(append(slices.Clone(d), datNum(parent, 1)), left-1)
		}
	}
	try(nil, 4)
}

// Several faults: the first one of the first datum that has one.
func TestDataFaultSome(t *testing.T) {
	s := dice(77)
	bad := wrongData()
	for _, d := range someData(1500) {
		checkFault(t, d, impl.OK)
		for range 6 {
			turned := slices.Clone(d)
			for range 1 + s.next(3) {
				i := s.next(len(turned))
				switch s.next(3) {
				case 0:
					parent := turned[i].Parent
					turned[i] = bad[s.next(len(bad))].datum
					turned[i].Parent = parent
				case 1:
					turned[i].Parent = int64(s.next(len(turned)+3)) - 2
				default:
					turned[i] = s.leaf(turned[i].Parent)
				}
			}
			checkFault(t, turned, wantDataFault(turned))
		}
	}
}

func TestWriteData(t *testing.T) {
	long := slices.Repeat(data(datSym(0, "abcdefghijkl")), 30) // with the brackets and blanks between: 391 bytes
	cases := []struct {
		d    []impl.Datum
		want string
	}{
		{data(datNum(-1, 0)), "0"},
		{data(datNum(-1, -impl.MaxNum)), "-1000000000"},
		{data(datBool(-1, 1)), "#t"},
		{data(datBool(-1, 0)), "#f"},
		{data(datSym(-1, "quote")), "quote"},
		{data(datList(-1)), "()"},
		{data(datList(-1), datList(0)), "(())"},
		{data(datList(-1), datList(0), datList(0)), "(() ())"},
		{data(datList(-1), datNum(0, 1), datNum(0, 2), datNum(0, 3)), "(1 2 3)"},
		{data(datList(-1), datList(0), datSym(1, "a"), datList(0), datSym(3, "b"), datSym(0, "c")), "((a) (b) c)"},
		{data(datList(-1), datList(0), datList(1), datSym(0, "c")), "((()) c)"},
		{data(datList(-1), datSym(0, "quote"), datSym(0, "x")), "(quote x)"},
		{deepData(12), times(12, "(") + times(12, ")")},
		{append(data(datList(-1)), append(long, datSym(0, "abcdefgh"))...), "(" + times(30, "abcdefghijkl ") + "abcdefgh)"},
	}
	for _, c := range cases {
		if got := impl.WriteData(c.d); got != (impl.TextResult{Text: c.want}) {
			t.Errorf("WriteData(%+v) = %+v, not %q", c.d, got, c.want)
		}
	}
	if n := len(cases[len(cases)-1].want); n != impl.MaxText {
		t.Errorf("the longest text has %d bytes", n)
	}
	over := append(data(datList(-1)), append(long, datSym(0, "abcdefghi"))...)
	if got := impl.WriteData(over); got != (impl.TextResult{Code: impl.ErrMany}) {
		t.Errorf("WriteData of 401 bytes = %+v", got)
	}
	for _, d := range someData(1500) {
		if got, want := impl.WriteData(d), wantWritten(d); got != want {
			t.Fatalf("WriteData(%+v) = %+v, not %+v", d, got, want)
		}
	}
}

func wrongPlaces(count int) []int64 {
	return []int64{-1, int64(count), int64(count) + 1, -2, 80, 81, 1 << 32, math.MaxInt64, math.MinInt64}
}

func TestPartsOf(t *testing.T) {
	d := impl.ReadData("(f 'x (1 (2) ()) #f)").Data
	for at, want := range [][]int64{{1, 2, 5, 10}, nil, {3, 4}, nil, nil, {6, 7, 9}, nil, {8}, nil, nil, nil} {
		if got := impl.PartsOf(d, int64(at)); got.Code != impl.OK || !slices.Equal(got.List, want) {
			t.Errorf("PartsOf at %d = %+v, not %v", at, got, want)
		}
	}
	for _, d := range someData(600) {
		for at := range d {
			got := impl.PartsOf(d, int64(at))
			if want := wantParts(d, at); got.Code != impl.OK || !slices.Equal(got.List, want) {
				t.Fatalf("PartsOf(%+v, %d) = %+v, not %v", d, at, got, want)
			}
		}
		for _, at := range wrongPlaces(len(d)) {
			if at >= 0 && at < int64(len(d)) {
				continue
			}
			if got := impl.PartsOf(d, at); got.Code != impl.ErrRange || got.List != nil {
				t.Fatalf("PartsOf of %d data at %d = %+v", len(d), at, got)
			}
		}
	}
}

func TestSubData(t *testing.T) {
	d := impl.ReadData("(f 'x (1 (2) ()) #f)").Data
	for at, want := range []string{"(f (quote x) (1 (2) ()) #f)", "f", "(quote x)", "quote", "x", "(1 (2) ())", "1", "(2)", "2", "()", "#f"} {
		got := impl.SubData(d, int64(at))
		if text := impl.WriteData(got.Data); got.Code != impl.OK || got.At != 0 || text.Text != want {
			t.Errorf("SubData at %d = %+v, written %+v, not %q", at, got, text, want)
		}
	}
	for _, d := range someData(600) {
		for at := range d {
			if got, want := impl.SubData(d, int64(at)), (impl.DataResult{Data: wantSub(d, at)}); !sameRead(got, want) {
				t.Fatalf("SubData(%+v, %d) = %+v, not %+v", d, at, got, want)
			}
		}
		for _, at := range wrongPlaces(len(d)) {
			if at >= 0 && at < int64(len(d)) {
				continue
			}
			if got := impl.SubData(d, at); got.Code != impl.ErrRange || got.At != 0 || got.Data != nil {
				t.Fatalf("SubData of %d data at %d = %+v", len(d), at, got)
			}
		}
	}
}

func TestSameData(t *testing.T) {
	if !impl.SameData(nil, nil) || !impl.SameData(nil, data()) || !impl.SameData(data(), nil) {
		t.Error("empty lists are not the same")
	}
	for _, d := range append(someData(300), []impl.Datum{{}}, data(datNum(9, impl.MaxNum+1), datSym(-7, "A")), make([]impl.Datum, 500)) {
		if !impl.SameData(d, slices.Clone(d)) {
			t.Fatalf("%+v is not the same as itself", d)
		}
		if impl.SameData(d, nil) || impl.SameData(nil, d) || impl.SameData(d, d[1:]) || impl.SameData(d[:len(d)-1], d) {
			t.Fatalf("%+v is the same as less of it", d)
		}
		for i := range d {
			for _, turn := range []func(*impl.Datum){
				func(x *impl.Datum) { x.Kind++ }, func(x *impl.Datum) { x.Parent++ }, func(x *impl.Datum) { x.Num++ }, func(x *impl.Datum) { x.Name += "a" },
			} {
				turned := slices.Clone(d)
				turn(&turned[i])
				if impl.SameData(d, turned) || impl.SameData(turned, d) {
					t.Fatalf("%+v is the same as %+v", d, turned)
				}
			}
		}
	}
}

// Promise 1: the same again behind other calls, in new memory that can be written into, and no argument is changed.
func TestPromise1ReadData(t *testing.T) {
	for _, text := range append(someTexts(400, 30, rightPieces()), "(a 'b (c) ''d)", "'a", "abc", "", ")", "(f A)") {
		kept := strings.Clone(text)
		first, again := impl.ReadData(text), impl.ReadData(text)
		if text != kept || !sameRead(first, again) || !sameRead(first, wantRead(text)) {
			t.Fatalf("ReadData(%q) = %+v, then %+v", kept, first, again)
		}
		for i := range first.Data {
			if !apart(first.Data[i].Name, text) {
				t.Fatalf("ReadData(%q): the name %q is a part of the text", text, first.Data[i].Name)
			}
			first.Data[i] = impl.Datum{Kind: -1, Parent: -9, Num: -1, Name: "changed"}
		}
		if third := impl.ReadData(text); !sameRead(third, again) {
			t.Fatalf("ReadData(%q) = %+v behind a change of its answer, not %+v", text, third, again)
		}
	}
}

func TestPromise1Data(t *testing.T) {
	list := someData(200)
	for _, w := range wrongData() {
		list = append(list, data(w.datum), data(datList(-1), w.datum))
	}
	for _, d := range append(list, nil, wideData(81), deepData(13), make([]impl.Datum, 300)) {
		kept := slices.Clone(d)
		fault, text := impl.DataFault(d), impl.WriteData(d)
		impl.SameData(d, kept)
		for _, at := range []int64{0, int64(len(d)) / 2, int64(len(d)) - 1, -1, int64(len(d))} {
			sub, parts := impl.SubData(d, at), impl.PartsOf(d, at)
			again, partsAgain := impl.SubData(d, at), impl.PartsOf(d, at)
			if !sameRead(sub, again) || parts.Code != partsAgain.Code || !slices.Equal(parts.List, partsAgain.List) {
				t.Fatalf("at %d of %+v: %+v, then %+v; %+v, then %+v", at, d, sub, again, parts, partsAgain)
			}
			for i := range sub.Data {
				if !apart(sub.Data[i].Name, d[at+int64(i)].Name) || !apart(text.Text, d[at+int64(i)].Name) {
					t.Fatalf("the name %q is handed on", sub.Data[i].Name)
				}
				sub.Data[i] = impl.Datum{Kind: -1, Parent: -9, Num: -1, Name: "changed"}
			}
			for i := range parts.List {
				parts.List[i] = -5
			}
			if third := impl.SubData(d, at); !sameRead(third, again) {
				t.Fatalf("at %d of %+v: %+v behind a change of its answer, not %+v", at, d, third, again)
			}
		}
		if !slices.Equal(d, kept) || impl.DataFault(d) != fault || impl.WriteData(d) != text {
			t.Fatalf("%+v is not as it was, %+v", d, kept)
		}
	}
}

// tokensIn: how many tokens are written of data: a list has two.
func tokensIn(d []impl.Datum) int {
	n := len(d)
	for _, x := range d {
		if x.Kind == impl.DatList {
			n++
		}
	}
	return n
}

// Promise 4: data are read back from what is written of them, as far as their tokens are not too many.
func TestPromise4ReadBack(t *testing.T) {
	many := 0
	for _, d := range someData(5000) {
		text := impl.WriteData(d)
		if text.Code != impl.OK {
			continue
		}
		got := impl.ReadData(text.Text)
		if tokensIn(d) > impl.MaxTokens {
			many++
			if got.Code != impl.ErrMany || got.Data != nil {
				t.Fatalf("%d tokens are read: %+v", tokensIn(d), got)
			}
			continue
		}
		if got.Code != impl.OK || got.At != 0 || !impl.SameData(got.Data, d) {
			t.Fatalf("read back from %q: %+v, not %+v", text.Text, got, d)
		}
	}
	if many == 0 {
		t.Error("no data of too many tokens were tried")
	}
}

// Promise 4: at the bound of tokens: 40 lists of 80 data make 120.
func TestPromise4Tokens(t *testing.T) {
	for lists := 38; lists <= 42; lists++ {
		d := data(datList(-1))
		for len(d) < lists {
			d = append(d, datList(0))
		}
		for len(d) < impl.MaxData {
			d = append(d, datNum(0, 3))
		}
		text, want := impl.WriteData(d).Text, impl.DataResult{Data: d}
		if lists > 40 { // the text ends with tokens of one byte: "3)"
			want = wrong(impl.ErrMany, int64(len(text)-(lists-40)))
		}
		if got := impl.ReadData(text); !sameRead(got, want) {
			t.Errorf("%d lists: %+v, not %+v", lists, got, want)
		}
	}
}

// Promise 4: what is read from a text is written so that it is read the same again, quotes as lists.
func TestPromise4Texts(t *testing.T) {
	read := 0
	for _, text := range someTexts(9000, 20, rightPieces()) {
		first := impl.ReadData("(" + text + ")")
		if first.Code != impl.OK {
			continue
		}
		read++
		written := impl.WriteData(first.Data)
		if written.Code != impl.OK || strings.ContainsAny(written.Text, "'\n;") || strings.Contains(written.Text, "  ") {
			t.Fatalf("%q is written %+v", text, written)
		}
		if again := impl.ReadData(written.Text); !sameRead(first, again) {
			t.Fatalf("%q is read %+v, and from %q %+v", text, first, written.Text, again)
		}
	}
	if read < 100 {
		t.Errorf("only %d texts were read", read)
	}
}

// spans: for each datum the part of the whole text that it is written in.
func spans(d []impl.Datum) []string {
	list := make([]string, len(d))
	text := wantText(d, 0)
	at := 0
	for i := range d {
		at += strings.IndexFunc(text[at:], func(r rune) bool { return r != ' ' && r != ')' })
		size := len(wantText(d, i))
		list[i] = text[at : at+size]
		if d[i].Kind == impl.DatList {
			size = 1
		}
		at += size
	}
	return list
}

// Promise 4: what is taken out of data is written as it is written in them.
func TestPromise4TakenOut(t *testing.T) {
	for _, d := range someData(800) {
		if impl.WriteData(d).Code != impl.OK {
			continue
		}
		whole := spans(d)
		for at := range d {
			sub := impl.SubData(d, int64(at))
			if got := impl.WriteData(sub.Data); got != (impl.TextResult{Text: whole[at]}) {
				t.Fatalf("at %d of %+v: %+v, not %q", at, d, got, whole[at])
			}
			parts, below := impl.PartsOf(d, int64(at)).List, impl.PartsOf(sub.Data, 0).List
			if len(parts) != len(below) {
				t.Fatalf("at %d of %+v: parts %v, then %v", at, d, parts, below)
			}
			for i := range parts {
				if parts[i] != below[i]+int64(at) {
					t.Fatalf("at %d of %+v: parts %v, then %v", at, d, parts, below)
				}
			}
		}
	}
}
