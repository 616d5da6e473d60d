package tests

import (
	"fmt"
	"math"
	"regexp"
	"slices"
	"strings"
	"testing"

	"loop.example/g00349/impl"
)

func valNum(n int64) impl.Value      { return impl.Value{Kind: impl.ValNum, Num: n} }
func valBool(n int64) impl.Value     { return impl.Value{Kind: impl.ValBool, Num: n} }
func valNil() impl.Value             { return impl.Value{Kind: impl.ValNil} }
func valNone() impl.Value            { return impl.Value{Kind: impl.ValNone} }
func valSym(name string) impl.Value  { return impl.Value{Kind: impl.ValSym, Name: name} }
func valPair(place int) impl.Value   { return impl.Value{Kind: impl.ValPair, Num: int64(place)} }
func valProc(place int64) impl.Value { return impl.Value{Kind: impl.ValProc, Num: place} }
func valCont(place int64) impl.Value { return impl.Value{Kind: impl.ValCont, Num: place} }
func valPrim(place int64) impl.Value { return impl.Value{Kind: impl.ValPrim, Num: place} }

func values(list ...impl.Value) []impl.Value { return list }

// pairsOf takes heads and tails by turns.
func pairsOf(list ...impl.Value) []impl.Pair {
	var pairs []impl.Pair
	for both := range slices.Chunk(list, 2) {
		pairs = append(pairs, impl.Pair{Head: both[0], Tail: both[1]})
	}
	return pairs
}

func cloneValue(v impl.Value) impl.Value {
	v.Name = strings.Clone(v.Name)
	return v
}

func clonePairs(pairs []impl.Pair) []impl.Pair {
	pairs = slices.Clone(pairs)
	for i, p := range pairs {
		pairs[i] = impl.Pair{Head: cloneValue(p.Head), Tail: cloneValue(p.Tail)}
	}
	return pairs
}

func sameValueResult(a, b impl.ValueResult) bool {
	return a.Code == b.Code && a.Value == b.Value && slices.Equal(a.Pairs, b.Pairs)
}

func sameValuesResult(a, b impl.ValuesResult) bool {
	return a.Code == b.Code && a.Rest == b.Rest && slices.Equal(a.Values, b.Values)
}

// wantValueFault goes kind by kind, each with what it has.
func wantValueFault(v impl.Value) int64 {
	num := func(least, most int64) int64 {
		switch {
		case v.Name != "":
			return impl.ErrForm
		case v.Num < least || v.Num > most:
			return impl.ErrRange
		}
		return impl.OK
	}
	switch v.Kind {
	case 1:
		return num(-1000000000, 1000000000)
	case 2:
		return num(0, 1)
	case 5, 6, 7, 8:
		return num(0, 99999)
	case 3, 9:
		if v == (impl.Value{Kind: v.Kind}) {
			return impl.OK
		}
		return impl.ErrForm
	case 4:
		switch {
		case v.Num != 0:
			return impl.ErrForm
		case !symbol.MatchString(v.Name):
			return impl.ErrText
		}
		return impl.OK
	}
	return impl.ErrForm
}

func wantHeapFault(pairs []impl.Pair) int64 {
	if len(pairs) > 4000 {
		return impl.ErrMany
	}
	for i, p := range pairs {
		for _, v := range values(p.Head, p.Tail) {
			if code := wantValueFault(v); code != impl.OK {
				return code
			}
		}
		for _, v := range values(p.Head, p.Tail) {
			if v.Kind == impl.ValPair && v.Num >= int64(i) {
				return impl.ErrForm
			}
		}
	}
	return impl.OK
}

// wantIn: the fault of pairs, and behind that of values in them, one behind the other.
func wantIn(pairs []impl.Pair, list ...impl.Value) int64 {
	if code := wantHeapFault(pairs); code != impl.OK {
		return code
	}
	for _, v := range list {
		if code := wantValueFault(v); code != impl.OK {
			return code
		}
		if v.Kind == impl.ValPair && v.Num >= int64(len(pairs)) {
			return impl.ErrNone
		}
	}
	return impl.OK
}

// wantLong writes a value whole, a pair as its Head and all that its Tail is written as, without the brackets of that.
func wantLong(pairs []impl.Pair, v impl.Value) string {
	switch v.Kind {
	case impl.ValNum:
		return fmt.Sprint(v.Num)
	case impl.ValBool:
		return "#" + "ft"[v.Num:v.Num+1]
	case impl.ValNil:
		return "()"
	case impl.ValSym:
		return v.Name
	case impl.ValProc:
		return "#proc"
	case impl.ValCont:
		return "#cont"
	case impl.ValPrim:
		return "#prim"
	case impl.ValNone:
		return "#none"
	}
	head, tail := wantLong(pairs, pairs[v.Num].Head), wantLong(pairs, pairs[v.Num].Tail)
	switch pairs[v.Num].Tail.Kind {
	case impl.ValNil:
		return "(" + head + ")"
	case impl.ValPair:
		return "(" + head + " " + tail[1:]
	}
	return "(" + head + " . " + tail + ")"
}

func cut(text string, most int) string { return text[:min(most, len(text))] }

func wantShow(pairs []impl.Pair, v impl.Value) impl.TextResult {
	if code := wantIn(pairs, v); code != impl.OK {
		return impl.TextResult{Code: code}
	}
	return impl.TextResult{Text: cut(wantLong(pairs, v), 120)}
}

func wantCons(pairs []impl.Pair, head, tail impl.Value) impl.ValueResult {
	if code := wantIn(pairs, head, tail); code != impl.OK {
		return impl.ValueResult{Code: code}
	}
	if len(pairs) == 4000 {
		return impl.ValueResult{Code: impl.ErrMany}
	}
	return impl.ValueResult{Pairs: append(clonePairs(pairs), impl.Pair{Head: head, Tail: tail}), Value: valPair(len(pairs))}
}

func wantList(pairs []impl.Pair, v impl.Value) impl.ValuesResult {
	if code := wantIn(pairs, v); code != impl.OK {
		return impl.ValuesResult{Code: code}
	}
	var list []impl.Value
	for v.Kind == impl.ValPair {
		list = append(list, pairs[v.Num].Head)
		v = pairs[v.Num].Tail
	}
	if len(list) > 200 {
		return impl.ValuesResult{Code: impl.ErrMany}
	}
	return impl.ValuesResult{Values: list, Rest: v}
}

// putByHand takes the parts from a list of all data, the last one first.
func putByHand(pairs *[]impl.Pair, d []impl.Datum, at int) impl.Value {
	switch d[at].Kind {
	case impl.DatNum:
		return valNum(d[at].Num)
	case impl.DatBool:
		return valBool(d[at].Num)
	case impl.DatSym:
		return valSym(d[at].Name)
	}
	list := valNil()
	for i := len(d) - 1; i > at; i-- {
		if d[i].Parent != int64(at) {
			continue
		}
		part := putByHand(pairs, d, i)
		*pairs = append(*pairs, impl.Pair{Head: part, Tail: list})
		list = valPair(len(*pairs) - 1)
	}
	return list
}

func wantPut(pairs []impl.Pair, d []impl.Datum) impl.ValueResult {
	code := wantHeapFault(pairs)
	if code == impl.OK {
		code = wantDataFault(d)
	}
	if code != impl.OK {
		return impl.ValueResult{Code: code}
	}
	all := clonePairs(pairs)
	v := putByHand(&all, d, 0)
	if len(all) > 4000 {
		return impl.ValueResult{Code: impl.ErrMany}
	}
	return impl.ValueResult{Pairs: all, Value: v}
}

// short writes pairs for a message: not more than a few of them.
func short(pairs []impl.Pair) string {
	return fmt.Sprintf("%d pairs %+v", len(pairs), pairs[max(0, len(pairs)-6):])
}

func checkShow(t *testing.T, pairs []impl.Pair, v impl.Value) {
	t.Helper()
	if got, want := impl.ShowValue(pairs, v), wantShow(pairs, v); got != want {
		t.Fatalf("ShowValue of %s and %+v = %+v, not %+v", short(pairs), v, got, want)
	}
}

func checkList(t *testing.T, pairs []impl.Pair, v impl.Value) {
	t.Helper()
	if got, want := impl.ListFrom(pairs, v), wantList(pairs, v); !sameValuesResult(got, want) || got.Code != impl.OK && got.Values != nil {
		t.Fatalf("ListFrom of %s and %+v = %+v, not %+v", short(pairs), v, got, want)
	}
}

func checkCons(t *testing.T, pairs []impl.Pair, head, tail impl.Value) {
	t.Helper()
	got, want := impl.ConsTo(pairs, head, tail), wantCons(pairs, head, tail)
	if !sameValueResult(got, want) || got.Code != impl.OK && got.Pairs != nil {
		t.Fatalf("ConsTo of %s, %+v and %+v = %d, %+v, %s, not %d, %+v, %s", short(pairs), head, tail, got.Code, got.Value, short(got.Pairs), want.Code, want.Value, short(want.Pairs))
	}
}

func checkPut(t *testing.T, pairs []impl.Pair, d []impl.Datum) {
	t.Helper()
	got, want := impl.PutData(pairs, d), wantPut(pairs, d)
	if !sameValueResult(got, want) || got.Code != impl.OK && got.Pairs != nil {
		t.Fatalf("PutData of %s and %+v = %d, %+v, %s, not %d, %+v, %s", short(pairs), d, got.Code, got.Value, short(got.Pairs), want.Code, want.Value, short(want.Pairs))
	}
}

// checkHeap asks all functions that take pairs, with a value that is a good one by itself.
func checkHeap(t *testing.T, pairs []impl.Pair, want int64) {
	t.Helper()
	if got := impl.HeapFault(pairs); got != want || wantHeapFault(pairs) != want {
		t.Fatalf("HeapFault of %s = %d, not %d, by hand %d", short(pairs), got, want, wantHeapFault(pairs))
	}
	checkShow(t, pairs, valNum(1))
	checkList(t, pairs, valNil())
	checkCons(t, pairs, valNum(1), valNil())
	checkPut(t, pairs, data(datList(-1), datNum(0, 1)))
}

// rightValues: of each kind, at the bounds; no pairs.
func rightValues() []impl.Value {
	list := values(valNil(), valNone(), valBool(0), valBool(1), valNum(0), valNum(1), valNum(-1), valNum(-20), valNum(impl.MaxNum), valNum(-impl.MaxNum))
	for _, kind := range []int64{impl.ValProc, impl.ValCont, impl.ValPrim} {
		for _, place := range []int64{0, 1, 15, 99998, 99999} {
			list = append(list, impl.Value{Kind: kind, Num: place})
		}
	}
	for _, name := range []string{"a", "z", "x", "+", "-", "*", "/", "<", "=", "?", "!", "call/cc", "set!", "null?", "if", "aaaaaaaaaaaa", "!!!!!!!!!!!!", "abcdefghijkl", "mnopqrstuvwx", "yz+-*/<=?!ab", "aa", "ba", "-a", "a-"} {
		list = append(list, valSym(name))
	}
	return list
}

type wrongValue struct {
	value impl.Value
	code  int64
}

func wrongValues() []wrongValue {
	var list []wrongValue
	add := func(code int64, v impl.Value) { list = append(list, wrongValue{v, code}) }
	for _, kind := range []int64{0, -1, 10, 11, 256 + impl.ValNum, 1<<32 + impl.ValNil, math.MaxInt64, math.MinInt64} {
		add(impl.ErrForm, impl.Value{Kind: kind})
		add(impl.ErrForm, impl.Value{Kind: kind, Num: 1, Name: "a"})
		add(impl.ErrForm, impl.Value{Kind: kind, Num: -1, Name: "A"})
	}
	for _, kind := range []int64{impl.ValNum, impl.ValBool, impl.ValPair, impl.ValProc, impl.ValCont, impl.ValPrim} {
		add(impl.ErrForm, impl.Value{Kind: kind, Name: "a"})
		add(impl.ErrForm, impl.Value{Kind: kind, Num: 1, Name: "A"})
		add(impl.ErrForm, impl.Value{Kind: kind, Num: math.MaxInt64, Name: "A"})
	}
	for _, kind := range []int64{impl.ValNil, impl.ValNone} {
		for _, v := range values(valNum(1), valNum(-1), valNum(math.MinInt64), valSym("a"), valSym("A"), impl.Value{Num: 1, Name: "a"}) {
			v.Kind = kind
			add(impl.ErrForm, v)
		}
	}
	for _, n := range []int64{-impl.MaxNum - 1, impl.MaxNum + 1, math.MaxInt64, math.MinInt64} {
		add(impl.ErrRange, valNum(n))
	}
	for _, n := range []int64{-1, 2, 256, 1 << 32, math.MaxInt64, math.MinInt64} {
		add(impl.ErrRange, valBool(n))
	}
	for _, kind := range []int64{impl.ValPair, impl.ValProc, impl.ValCont, impl.ValPrim} {
		for _, n := range []int64{-1, 100000, 1 << 32, math.MaxInt64, math.MinInt64} {
			add(impl.ErrRange, impl.Value{Kind: kind, Num: n})
		}
	}
	for _, name := range append(wrongNames(), "", "aaaaaaaaaaaaa", "a1", "1", "A", "a b", "#t", "()", "\x00", "é") {
		add(impl.ErrText, valSym(name))
		add(impl.ErrForm, impl.Value{Kind: impl.ValSym, Num: 1, Name: name})
	}
	add(impl.ErrForm, impl.Value{Kind: impl.ValSym, Num: -1, Name: "a"})
	return list
}

func TestValueFault(t *testing.T) {
	for _, v := range append(rightValues(), valPair(0), valPair(99999)) {
		if got := impl.ValueFault(v); got != impl.OK || wantValueFault(v) != impl.OK {
			t.Errorf("ValueFault(%+v) = %d", v, got)
		}
	}
	for _, w := range wrongValues() {
		if got := impl.ValueFault(w.value); got != w.code || wantValueFault(w.value) != w.code {
			t.Errorf("ValueFault(%+v) = %d, not %d", w.value, got, w.code)
		}
	}
	nums := append(wildNums(), 0, 1, 2, -1, 99999, 100000, impl.MaxNum, impl.MaxNum+1)
	for kind := int64(-2); kind <= 12; kind++ {
		for _, n := range nums {
			for _, name := range []string{"", "a", "abcdefghijkl", "abcdefghijklm", "A", " "} {
				v := impl.Value{Kind: kind, Num: n, Name: name}
				if got, want := impl.ValueFault(v), wantValueFault(v); got != want {
					t.Fatalf("ValueFault(%+v) = %d, not %d", v, got, want)
				}
			}
		}
	}
}

// chain: a list of so many small numbers; its last pair is the first one of the list.
func chain(count int) []impl.Pair {
	var pairs []impl.Pair
	for i := range count {
		tail := valNil()
		if i > 0 {
			tail = valPair(i - 1)
		}
		pairs = append(pairs, impl.Pair{Head: valNum(int64(i % 10)), Tail: tail})
	}
	return pairs
}

func TestHeapFaultExamples(t *testing.T) {
	one, none := valNum(1), valNil()
	form, text, span := impl.Value{Kind: 10}, valSym("A"), valBool(2)
	cases := []struct {
		pairs []impl.Pair
		want  int64
	}{
		{nil, impl.OK},
		{[]impl.Pair{}, impl.OK},
		{pairsOf(one, none), impl.OK},
		{pairsOf(one, none, valPair(0), valPair(0)), impl.OK},
		{pairsOf(one, none, valPair(0), none, valPair(0), valPair(1)), impl.OK},
		{pairsOf(one, none, valProc(99999), valCont(99999), valPrim(99999), valNone()), impl.OK},
		{make([]impl.Pair, 1), impl.ErrForm},
		{pairsOf(valPair(0), none), impl.ErrForm},
		{pairsOf(none, valPair(0)), impl.ErrForm},
		{pairsOf(valPair(1), none, one, none), impl.ErrForm},
		{pairsOf(one, valPair(1), one, none), impl.ErrForm},
		{pairsOf(one, none, valPair(1), none), impl.ErrForm},
		{pairsOf(one, none, none, valPair(1)), impl.ErrForm},
		{pairsOf(one, none, none, valPair(2)), impl.ErrForm},
		{pairsOf(one, none, none, valPair(99999)), impl.ErrForm},
		{pairsOf(one, none, none, valPair(100000)), impl.ErrRange},
		{pairsOf(one, none, valPair(-1), none), impl.ErrRange},
		// The Head is asked ahead of the Tail.
		{pairsOf(text, span), impl.ErrText},
		{pairsOf(span, text), impl.ErrRange},
		{pairsOf(form, text), impl.ErrForm},
		{pairsOf(text, form), impl.ErrText},
		// Both are asked by themselves ahead of whether they are pairs ahead.
		{pairsOf(valPair(0), text), impl.ErrText},
		{pairsOf(valPair(0), span), impl.ErrRange},
		{pairsOf(text, valPair(0)), impl.ErrText},
		{pairsOf(one, none, valPair(7), text), impl.ErrText},
		// A pair is asked all ahead of the next one.
		{pairsOf(one, text, span, none), impl.ErrText},
		{pairsOf(one, span, text, none), impl.ErrRange},
		{pairsOf(valPair(0), none, text, none), impl.ErrForm},
		{pairsOf(none, valPair(0), text, span), impl.ErrForm},
		{pairsOf(one, none, one, text, span, span), impl.ErrText},
		{pairsOf(one, none, text, valPair(1), form, form), impl.ErrText},
		{pairsOf(one, none, one, valPair(1), span, text), impl.ErrForm},
	}
	for _, c := range cases {
		checkHeap(t, c.pairs, c.want)
	}
}

func TestHeapFaultMany(t *testing.T) {
	for _, count := range []int{0, 1, 3999, 4000} {
		checkHeap(t, chain(count), impl.OK)
	}
	for _, count := range []int{4001, 4002, 9000} {
		checkHeap(t, chain(count), impl.ErrMany)
		checkHeap(t, make([]impl.Pair, count), impl.ErrMany)
	}
	last := chain(4000)
	last[3999].Tail = valPair(3999)
	checkHeap(t, last, impl.ErrForm)
	last[3999].Head = valSym("A")
	checkHeap(t, last, impl.ErrText)
	last[0].Head = valBool(2)
	checkHeap(t, last, impl.ErrRange)
	checkHeap(t, append(last, last[0]), impl.ErrMany)
	if impl.MaxPairs != 4000 {
		t.Error(impl.MaxPairs)
	}
}

func TestHeapFaultEach(t *testing.T) {
	for _, w := range wrongValues() {
		checkHeap(t, pairsOf(w.value, valNil()), w.code)
		checkHeap(t, pairsOf(valNum(1), valNil(), valPair(0), w.value, valNum(1), valNil()), w.code)
		if w.value.Kind != impl.ValPair {
			checkHeap(t, pairsOf(w.value, valPair(3)), w.code)
		}
	}
	for _, v := range rightValues() {
		checkHeap(t, pairsOf(v, v), impl.OK)
	}
}

// smallValues: what two pairs can have in them that makes a difference.
func smallValues() []impl.Value {
	return values(valNum(1), valNil(), valSym("a"), valPair(0), valPair(1), valPair(2), valPair(-1), valSym("A"), impl.Value{Kind: 10}, valBool(2))
}

func TestHeapFaultShort(t *testing.T) {
	list := smallValues()
	for _, a := range list {
		for _, b := range list {
			for _, c := range list {
				for _, d := range list {
					pairs := pairsOf(a, b, c, d)
					if got, want := impl.HeapFault(pairs), wantHeapFault(pairs); got != want {
						t.Fatalf("HeapFault(%+v) = %d, not %d", pairs, got, want)
					}
				}
			}
		}
	}
}

func TestShowExamples(t *testing.T) {
	for text, v := range map[string]impl.Value{
		"0": valNum(0), "-1000000000": valNum(-impl.MaxNum), "1000000000": valNum(impl.MaxNum), "#t": valBool(1), "#f": valBool(0), "()": valNil(),
		"call/cc": valSym("call/cc"), "#proc": valProc(99999), "#cont": valCont(0), "#prim": valPrim(15), "#none": valNone(),
	} {
		if got := impl.ShowValue(nil, v); got != (impl.TextResult{Text: text}) {
			t.Errorf("ShowValue(%+v) = %+v, not %s", v, got, text)
		}
	}
	one, none := valNum(1), valNil()
	for _, c := range []struct {
		pairs []impl.Pair
		want  string
	}{
		{pairsOf(one, none), "(1)"},
		{pairsOf(one, one), "(1 . 1)"},
		{pairsOf(none, none), "(())"},
		{pairsOf(one, valBool(0)), "(1 . #f)"},
		{pairsOf(one, valNone()), "(1 . #none)"},
		{pairsOf(one, valProc(3)), "(1 . #proc)"},
		{pairsOf(valSym("b"), none, valSym("a"), valPair(0)), "(a b)"},
		{pairsOf(valSym("b"), valSym("c"), valSym("a"), valPair(0)), "(a b . c)"},
		{pairsOf(one, none, valPair(0), none), "((1))"},
		{pairsOf(one, none, valPair(0), valPair(0)), "((1) 1)"},
		{pairsOf(one, none, valPair(0), one), "((1) . 1)"},
		{pairsOf(one, none, valPair(0), none, valNum(2), valPair(1)), "(2 (1))"},
		{pairsOf(one, one, valPair(0), none, valPair(0), valPair(1)), "((1 . 1) (1 . 1))"},
		{pairsOf(one, one, valPair(0), valPair(0), valPair(1), valPair(1)), "(((1 . 1) 1 . 1) (1 . 1) 1 . 1)"},
		{pairsOf(one, none, none, valPair(0)), "(() 1)"},
		{pairsOf(valSym("quote"), none, valSym("quote"), valPair(0)), "(quote quote)"},
		{pairsOf(valPrim(1), valCont(2)), "(#prim . #cont)"},
	} {
		got := impl.ShowValue(c.pairs, valPair(len(c.pairs)-1))
		if got != (impl.TextResult{Text: c.want}) {
			t.Errorf("ShowValue of %+v = %+v, not %s", c.pairs, got, c.want)
		}
		checkShow(t, c.pairs, valPair(0))
	}
}

// listOf puts a list behind pairs, with a value behind its last one.
func listOf(pairs []impl.Pair, rest impl.Value, list ...impl.Value) ([]impl.Pair, impl.Value) {
	pairs = slices.Clone(pairs)
	for _, v := range slices.Backward(list) {
		pairs = append(pairs, impl.Pair{Head: v, Tail: rest})
		rest = valPair(len(pairs) - 1)
	}
	return pairs, rest
}

// The bytes of a text: 120 are shown, and of one more the first 120, wherever that falls.
func TestShowBytes(t *testing.T) {
	for bytes := 100; bytes <= 160; bytes++ {
		for _, rest := range values(valNil(), valSym("abcdefghijkl"), valNum(-7), valNone()) {
			for _, size := range []int{1, 2, 5, 12} {
				var list []impl.Value
				for left := bytes; left > 0; left -= size + 1 {
					list = append(list, valSym(strings.Repeat("s", min(size, left))))
				}
				pairs, v := listOf(nil, rest, list...)
				checkShow(t, pairs, v)
				pairs, v = listOf(pairs, valNil(), v, v)
				checkShow(t, pairs, v)
			}
		}
	}
	names := slices.Repeat(values(valSym("abcdefghijkl")), 9)
	exact, v := listOf(nil, valNil(), append(slices.Clone(names), valNum(0))...)
	if got := impl.ShowValue(exact, v).Text; len(got) != 120 || got != "(abcdefghijkl"+strings.Repeat(" abcdefghijkl", 8)+" 0)" {
		t.Errorf("%d bytes: %q", len(got), got)
	}
	over, v := listOf(nil, valNil(), append(slices.Clone(names), valNum(10))...)
	if got := impl.ShowValue(over, v).Text; len(got) != 120 || got != "(abcdefghijkl"+strings.Repeat(" abcdefghijkl", 8)+" 10" {
		t.Errorf("%d bytes: %q", len(got), got)
	}
	inside, v := listOf(nil, valNil(), append(slices.Clone(names), valSym("xyzxyz"))...)
	if got := impl.ShowValue(inside, v).Text; got != "(abcdefghijkl"+strings.Repeat(" abcdefghijkl", 8)+" xy" {
		t.Errorf("%d bytes: %q", len(got), got)
	}
}

// Pairs that are shared so often that nobody could write the whole text.
func TestShowShared(t *testing.T) {
	both := pairsOf(valNum(1), valNil())
	heads := pairsOf(valNum(1), valNil())
	for i := range 3999 {
		both = append(both, impl.Pair{Head: valPair(i), Tail: valPair(i)})
		heads = append(heads, impl.Pair{Head: valPair(i), Tail: valNil()})
	}
	for _, at := range []int{120, 200, 3999} {
		want := strings.Repeat("(", 120)
		if got := impl.ShowValue(both, valPair(at)); got.Code != impl.OK || got.Text != want {
			t.Errorf("the pair %d, twice in each: %+v", at, got)
		}
		if got := impl.ShowValue(heads, valPair(at)); got.Code != impl.OK || got.Text != want {
			t.Errorf("the pair %d, in each: %+v", at, got)
		}
	}
	for at := range 14 {
		checkShow(t, both, valPair(at))
		checkList(t, both, valPair(at))
	}
	for _, at := range []int{58, 59, 60, 61, 117, 118, 119, 121} {
		checkShow(t, heads, valPair(at))
	}
	if got := impl.ShowValue(both, valPair(30)).Text; got != wantFirst(both, valPair(30)) {
		t.Errorf("%q", got)
	}
	wide := chain(4000)
	wide[3999].Head = valPair(3998)
	checkShow(t, wide, valPair(3999))
	checkShow(t, wide, valPair(59))
	checkShow(t, wide, valPair(60))
}

// wantFirst tells the first bytes alone: it keeps what is still to write on a stack of texts and values.
func wantFirst(pairs []impl.Pair, v impl.Value) string {
	type piece struct {
		text  string
		value impl.Value
		tail  bool
	}
	text, stack := "", []piece{{value: v}}
	for len(stack) > 0 && len(text) < 120 {
		top := stack[len(stack)-1]
		stack = stack[:len(stack)-1]
		switch {
		case top.text != "":
			text += top.text
		case top.tail && top.value.Kind == impl.ValNil:
			text += ")"
		case top.tail && top.value.Kind == impl.ValPair:
			p := pairs[top.value.Num]
			stack = append(stack, piece{value: p.Tail, tail: true}, piece{value: p.Head}, piece{text: " "})
		case top.tail:
			stack = append(stack, piece{text: ")"}, piece{value: top.value}, piece{text: " . "})
		case top.value.Kind == impl.ValPair:
			p := pairs[top.value.Num]
			stack = append(stack, piece{value: p.Tail, tail: true}, piece{value: p.Head}, piece{text: "("})
		default:
			text += wantLong(pairs, top.value)
		}
	}
	return cut(text, 120)
}

// pairs grows a heap of so many pairs; near says how often a new pair leans on the newest ones.
func (s *dice) pairs(count int, near int) []impl.Pair {
	leaves := rightValues()
	pick := func(place int, nils int) impl.Value {
		switch {
		case place > 0 && s.next(10) < near:
			return valPair(place - 1 - s.next(min(place, 3)))
		case place > 0 && s.next(4) == 0:
			return valPair(s.next(place))
		case s.next(10) < nils:
			return valNil()
		}
		return leaves[s.next(len(leaves))]
	}
	var pairs []impl.Pair
	for i := range count {
		pairs = append(pairs, impl.Pair{Head: pick(i, 1), Tail: pick(i, 8)})
	}
	return pairs
}

func someHeaps(count int, most int) [][]impl.Pair {
	s := dice(0x9E3779B97F4A7C15)
	list := [][]impl.Pair{nil, pairsOf(valNum(1), valNil())}
	for range count {
		list = append(list, s.pairs(s.next(most+1), s.next(8)))
	}
	return list
}

func TestShowSome(t *testing.T) {
	s := dice(77)
	for _, pairs := range someHeaps(1500, 40) {
		checkHeap(t, pairs, impl.OK)
		for range 4 {
			v := valPair(s.next(len(pairs) + 2))
			want := wantIn(pairs, v)
			if want == impl.OK {
				if got := impl.ShowValue(pairs, v); got.Code != impl.OK || got.Text != wantFirst(pairs, v) {
					t.Fatalf("ShowValue of %+v and %+v = %+v, not %s", pairs, v, got, wantFirst(pairs, v))
				}
			} else if got := impl.ShowValue(pairs, v); got != (impl.TextResult{Code: want}) {
				t.Fatalf("ShowValue of %+v and %+v = %+v", pairs, v, got)
			}
			checkList(t, pairs, v)
		}
	}
	for _, pairs := range someHeaps(300, 12) {
		for at := range pairs {
			checkShow(t, pairs, valPair(at))
			if wantLong := cut(wantLong(pairs, valPair(at)), 120); wantLong != wantFirst(pairs, valPair(at)) {
				t.Fatalf("by hand: %q, %q", wantLong, wantFirst(pairs, valPair(at)))
			}
		}
	}
}

// Values with a fault or of no place, behind pairs with a fault and without.
func TestValueIn(t *testing.T) {
	heaps := [][]impl.Pair{nil, chain(3), pairsOf(valSym("A"), valNil()), pairsOf(valPair(0), valNil()), chain(4000), chain(4001)}
	list := append(rightValues(), valPair(0), valPair(1), valPair(2), valPair(3), valPair(3999), valPair(4000), valPair(4001), valPair(99999))
	for _, w := range wrongValues() {
		list = append(list, w.value)
	}
	for _, pairs := range heaps {
		for _, v := range list {
			checkShow(t, pairs, v)
			if len(pairs) < 100 || v.Kind == impl.ValPair {
				checkList(t, pairs, v)
				checkCons(t, pairs, v, valNil())
				checkCons(t, pairs, valNum(1), v)
				checkCons(t, pairs, v, v)
			}
		}
	}
	for _, c := range []struct {
		pairs []impl.Pair
		value impl.Value
		want  int64
	}{
		{nil, valPair(0), impl.ErrNone},
		{nil, valPair(99999), impl.ErrNone},
		{nil, valPair(100000), impl.ErrRange},
		{nil, valPair(-1), impl.ErrRange},
		{chain(3), valPair(2), impl.OK},
		{chain(3), valPair(3), impl.ErrNone},
		{pairsOf(valSym("A"), valNil()), valBool(2), impl.ErrText},
		{pairsOf(valBool(2), valNil()), valSym("A"), impl.ErrRange},
		{pairsOf(valBool(2), valNil()), valPair(7), impl.ErrRange},
		{chain(4001), valSym("A"), impl.ErrMany},
	} {
		if show, list, cons := impl.ShowValue(c.pairs, c.value), impl.ListFrom(c.pairs, c.value), impl.ConsTo(c.pairs, c.value, valNil()); show.Code != c.want || list.Code != c.want || cons.Code != c.want {
			t.Errorf("%s and %+v: %d, %d, %d, not %d", short(c.pairs), c.value, show.Code, list.Code, cons.Code, c.want)
		}
	}
}

func TestConsExamples(t *testing.T) {
	one, none := valNum(1), valNil()
	span, text := valBool(2), valSym("A")
	for _, c := range []struct {
		pairs      []impl.Pair
		head, tail impl.Value
		want       impl.ValueResult
	}{
		{nil, one, none, impl.ValueResult{Pairs: pairsOf(one, none), Value: valPair(0)}},
		{nil, one, one, impl.ValueResult{Pairs: pairsOf(one, one), Value: valPair(0)}},
		{pairsOf(one, none), valPair(0), valPair(0), impl.ValueResult{Pairs: pairsOf(one, none, valPair(0), valPair(0)), Value: valPair(1)}},
		{pairsOf(one, none), valNone(), valProc(9), impl.ValueResult{Pairs: pairsOf(one, none, valNone(), valProc(9)), Value: valPair(1)}},
		{pairsOf(one, none), valPair(1), none, impl.ValueResult{Code: impl.ErrNone}},
		{pairsOf(one, none), none, valPair(1), impl.ValueResult{Code: impl.ErrNone}},
		{nil, valPair(0), valPair(0), impl.ValueResult{Code: impl.ErrNone}},
		// Of head ahead of all of tail.
		{nil, span, text, impl.ValueResult{Code: impl.ErrRange}},
		{nil, text, span, impl.ValueResult{Code: impl.ErrText}},
		{nil, span, valPair(0), impl.ValueResult{Code: impl.ErrRange}},
		{nil, valPair(0), text, impl.ValueResult{Code: impl.ErrNone}},
		{nil, one, text, impl.ValueResult{Code: impl.ErrText}},
		// The pairs ahead of both, and their number behind both.
		{pairsOf(text, none), span, span, impl.ValueResult{Code: impl.ErrText}},
		{chain(4000), one, none, impl.ValueResult{Code: impl.ErrMany}},
		{chain(4000), valPair(4000), none, impl.ValueResult{Code: impl.ErrNone}},
		{chain(4000), one, text, impl.ValueResult{Code: impl.ErrText}},
		{chain(4001), text, text, impl.ValueResult{Code: impl.ErrMany}},
		{chain(3999), one, valPair(3998), impl.ValueResult{Pairs: append(chain(3999), impl.Pair{Head: one, Tail: valPair(3998)}), Value: valPair(3999)}},
	} {
		if got := impl.ConsTo(c.pairs, c.head, c.tail); !sameValueResult(got, c.want) {
			t.Errorf("ConsTo of %s, %+v, %+v = %d, %+v, %s", short(c.pairs), c.head, c.tail, got.Code, got.Value, short(got.Pairs))
		}
		checkCons(t, c.pairs, c.head, c.tail)
	}
	list := append(smallValues(), rightValues()...)
	for _, pairs := range [][]impl.Pair{nil, chain(1), chain(2)} {
		for _, a := range list {
			for _, b := range list {
				checkCons(t, pairs, a, b)
			}
		}
	}
}

func TestListFrom(t *testing.T) {
	for _, v := range rightValues() {
		got := impl.ListFrom(chain(3), v)
		if got.Code != impl.OK || len(got.Values) != 0 || got.Rest != v {
			t.Errorf("ListFrom of %+v = %+v", v, got)
		}
		pairs, list := listOf(nil, v, v, valNum(1), v)
		got = impl.ListFrom(pairs, list)
		if got.Code != impl.OK || !slices.Equal(got.Values, values(v, valNum(1), v)) || got.Rest != v {
			t.Errorf("ListFrom of %+v = %+v", pairs, got)
		}
	}
	for _, count := range []int{1, 2, 199, 200, 201, 202, 4000} {
		for _, rest := range values(valNil(), valNum(7), valSym("x")) {
			pairs := chain(count)
			pairs[0].Tail = rest
			got := impl.ListFrom(pairs, valPair(count-1))
			if count > 200 {
				if !sameValuesResult(got, impl.ValuesResult{Code: impl.ErrMany}) {
					t.Errorf("a list of %d: %+v", count, got)
				}
			} else if got.Code != impl.OK || len(got.Values) != count || got.Rest != rest || got.Values[0] != pairs[count-1].Head {
				t.Errorf("a list of %d: %+v", count, got)
			}
			checkList(t, pairs, valPair(count-1))
			checkList(t, pairs, valPair(min(count, 200)-1))
		}
	}
	shared := pairsOf(valNum(1), valNum(2), valPair(0), valPair(0), valPair(1), valPair(1))
	want := impl.ValuesResult{Values: values(valPair(1), valPair(0), valNum(1)), Rest: valNum(2)}
	if got := impl.ListFrom(shared, valPair(2)); !sameValuesResult(got, want) {
		t.Errorf("ListFrom of %+v = %+v, not %+v", shared, got, want)
	}
}

func TestPutExamples(t *testing.T) {
	one, none := valNum(1), valNil()
	for _, c := range []struct {
		pairs []impl.Pair
		text  string
		want  impl.ValueResult
	}{
		{nil, "()", impl.ValueResult{Value: none}},
		{nil, "-5", impl.ValueResult{Value: valNum(-5)}},
		{nil, "#t", impl.ValueResult{Value: valBool(1)}},
		{nil, "#f", impl.ValueResult{Value: valBool(0)}},
		{nil, "call/cc", impl.ValueResult{Value: valSym("call/cc")}},
		{nil, "(1)", impl.ValueResult{Pairs: pairsOf(one, none), Value: valPair(0)}},
		{nil, "(())", impl.ValueResult{Pairs: pairsOf(none, none), Value: valPair(0)}},
		{nil, "(a b)", impl.ValueResult{Pairs: pairsOf(valSym("b"), none, valSym("a"), valPair(0)), Value: valPair(1)}},
		{nil, "'a", impl.ValueResult{Pairs: pairsOf(valSym("a"), none, valSym("quote"), valPair(0)), Value: valPair(1)}},
		{nil, "((1) a)", impl.ValueResult{Pairs: pairsOf(valSym("a"), none, one, none, valPair(1), valPair(0)), Value: valPair(2)}},
		{nil, "(a (1))", impl.ValueResult{Pairs: pairsOf(one, none, valPair(0), none, valSym("a"), valPair(1)), Value: valPair(2)}},
		{nil, "(1 (2) x)", impl.ValueResult{Pairs: pairsOf(valSym("x"), none, valNum(2), none, valPair(1), valPair(0), one, valPair(2)), Value: valPair(3)}},
		{nil, "((1 2) (3))", impl.ValueResult{Pairs: pairsOf(valNum(3), none, valPair(0), none, valNum(2), none, one, valPair(2), valPair(3), valPair(1)), Value: valPair(4)}},
		{pairsOf(one, one), "7", impl.ValueResult{Pairs: pairsOf(one, one), Value: valNum(7)}},
		{pairsOf(one, one), "(7)", impl.ValueResult{Pairs: pairsOf(one, one, valNum(7), none), Value: valPair(1)}},
		{pairsOf(one, one), "((7))", impl.ValueResult{Pairs: pairsOf(one, one, valNum(7), none, valPair(1), none), Value: valPair(2)}},
	} {
		if got := impl.PutData(c.pairs, readOf(t, c.text)); !sameValueResult(got, c.want) {
			t.Errorf("PutData of %+v and %s = %+v, not %+v", c.pairs, c.text, got, c.want)
		}
		checkPut(t, c.pairs, readOf(t, c.text))
	}
}

func TestPutMany(t *testing.T) {
	for _, d := range [][]impl.Datum{wideData(80), deepData(12), readOf(t, "(1 (2) x)"), data(datList(-1), datList(0)), data(datNum(-1, 7)), data(datList(-1)), data(datSym(-1, "a"))} {
		for _, less := range []int{-1, 0, 1, 2} {
			pairs := chain(4000 - (len(d) - 1) - less)
			want := int64(impl.OK)
			if less < 0 {
				want = impl.ErrMany
			}
			got := impl.PutData(pairs, d)
			if got.Code != want || want == impl.OK && len(got.Pairs) != 4000-less {
				t.Errorf("%d data behind %d pairs: %d, %d pairs", len(d), len(pairs), got.Code, len(got.Pairs))
			}
			checkPut(t, pairs, d)
		}
	}
	// Data with a fault are told ahead of pairs that would be too many, and behind pairs with a fault.
	for _, w := range wrongData() {
		checkPut(t, nil, data(w.datum))
		checkPut(t, chain(4000), data(datList(-1), datNum(0, 1), w.datum))
		checkPut(t, pairsOf(valSym("A"), valNil()), data(w.datum))
		checkPut(t, pairsOf(valBool(2), valNil()), data(w.datum))
	}
	for _, d := range [][]impl.Datum{nil, wideData(81), deepData(13), data(datList(0)), data(datList(-1), datList(-1))} {
		checkPut(t, nil, d)
		checkPut(t, chain(4000), d)
		checkPut(t, pairsOf(valPair(0), valNil()), d)
	}
	if got := impl.PutData(chain(4000), data(datList(-1), datNum(5, 1))).Code; got != impl.ErrRange {
		t.Errorf("data with a fault behind all pairs: %d", got)
	}
	if got := impl.PutData(pairsOf(valSym("A"), valNil()), nil).Code; got != impl.ErrText {
		t.Errorf("no data behind a pair with a fault: %d", got)
	}
}

func TestSameValues(t *testing.T) {
	list := append(rightValues(), valPair(0), valPair(1), impl.Value{}, impl.Value{Num: 1}, impl.Value{Name: "a"}, impl.Value{Kind: 10}, impl.Value{Kind: impl.ValNil, Num: 1}, valSym("A"), valSym(""))
	for i, a := range list {
		for k, b := range list {
			if got := impl.SameValues(cloneValue(a), cloneValue(b)); got != (i == k) {
				t.Errorf("SameValues(%+v, %+v) = %v", a, b, got)
			}
		}
	}
}

func spoilPairs(pairs []impl.Pair) {
	for i := range pairs {
		pairs[i] = impl.Pair{Head: impl.Value{Kind: -1, Num: -7, Name: "changed"}}
	}
}

// checkNew asks each name of an answer whether it is in new memory.
func checkNew(t *testing.T, pairs []impl.Pair, answer []impl.Pair, list ...impl.Value) {
	t.Helper()
	names := []string{}
	for _, p := range answer {
		names = append(names, p.Head.Name, p.Tail.Name)
	}
	for _, v := range list {
		names = append(names, v.Name)
	}
	for _, p := range pairs {
		for _, name := range names {
			if !apart(p.Head.Name, name) || !apart(p.Tail.Name, name) {
				t.Fatalf("the name %q is handed on", name)
			}
		}
	}
}

// Promise 1: the same again behind other calls, in new memory that can be written into, and no argument is changed.
func TestPromise1Values(t *testing.T) {
	d := readOf(t, "(a (b 1) c)")
	heaps := append(someHeaps(60, 30), pairsOf(valSym("A"), valNil()), pairsOf(valPair(5), valSym("abc")))
	for _, given := range heaps {
		pairs := append(make([]impl.Pair, 0, len(given)+9), clonePairs(given)...)
		kept, keptData := clonePairs(pairs), slices.Clone(d)
		name := strings.Clone("name")
		for _, v := range values(valSym(name), valPair(len(pairs)-1), valPair(0), valNil(), valSym("A"), valPair(99999)) {
			fault, heapFault, show := impl.ValueFault(v), impl.HeapFault(pairs), impl.ShowValue(pairs, v)
			cons, put, list := impl.ConsTo(pairs, v, v), impl.PutData(pairs, d), impl.ListFrom(pairs, v)
			checkNew(t, pairs, cons.Pairs, cons.Value)
			checkNew(t, pairs, put.Pairs, put.Value)
			checkNew(t, pairs, nil, append(slices.Clone(list.Values), list.Rest, valSym(show.Text))...)
			checkNew(t, pairsOf(v, v), cons.Pairs, list.Rest, valSym(show.Text))
			checkNew(t, pairsOf(valSym(d[1].Name), valSym(d[3].Name)), put.Pairs)
			spoilPairs(cons.Pairs)
			spoilPairs(put.Pairs)
			for i := range list.Values {
				list.Values[i] = impl.Value{}
			}
			if !slices.Equal(pairs, kept) || !slices.Equal(d, keptData) || !slices.Equal(pairs[:cap(pairs)][len(pairs):], make([]impl.Pair, cap(pairs)-len(pairs))) {
				t.Fatalf("an argument is changed: %+v", pairs)
			}
			if impl.ValueFault(v) != fault || impl.HeapFault(pairs) != heapFault || impl.ShowValue(pairs, v) != show {
				t.Fatalf("%+v and %+v: not the same again", pairs, v)
			}
			checkCons(t, pairs, v, v)
			checkPut(t, pairs, d)
			checkList(t, pairs, v)
		}
	}
	one := impl.PutData(nil, data(datSym(-1, d[1].Name)))
	if !apart(one.Value.Name, d[1].Name) {
		t.Error("the name of a datum is handed on")
	}
}

// Promise 6: a datum as a value is shown as it is written, and what was there is there as it was.
func TestPromise6Shown(t *testing.T) {
	heaps := someHeaps(20, 50)
	for i, d := range someData(1500) {
		pairs := heaps[i%len(heaps)]
		put := impl.PutData(pairs, d)
		if put.Code != impl.OK || impl.HeapFault(put.Pairs) != impl.OK || len(put.Pairs) != len(pairs)+len(d)-1 || !slices.Equal(put.Pairs[:len(pairs)], pairs) {
			t.Fatalf("PutData of %+v and %+v = %+v", pairs, d, put)
		}
		written := wantText(d, 0)
		if text := impl.WriteData(d); text.Code == impl.OK && text.Text != written {
			t.Fatalf("%+v is written as %q", d, text.Text)
		}
		if got := impl.ShowValue(put.Pairs, put.Value); got != (impl.TextResult{Text: cut(written, 120)}) {
			t.Fatalf("%+v is shown as %q, not %q", d, got.Text, written)
		}
		checkPut(t, pairs, d)
	}
	for _, text := range []string{"()", "1", "-1000000000", "#t", "#f", "a", "(1 (2) x)", "(a (b (c)))", "(((a) b) c)", "(quote (quote a))", "(() (()) ((())))", "(+ - * / < = ? !)"} {
		put := impl.PutData(nil, readOf(t, text))
		if got := impl.ShowValue(put.Pairs, put.Value).Text; got != text {
			t.Errorf("%s is shown as %s", text, got)
		}
	}
}

var bracketed = regexp.MustCompile(`^\(([^ ()]+|\(\))(.*)\)$`)

// Promise 6: what is put in front of a list is its first one.
func TestPromise6InFront(t *testing.T) {
	s := dice(4711)
	leaves := rightValues()
	for _, pairs := range someHeaps(800, 60) {
		list := valNil()
		if len(pairs) > 0 && s.next(5) > 0 {
			list = valPair(s.next(len(pairs)))
		}
		first := leaves[s.next(len(leaves))]
		if len(pairs) > 0 && s.next(2) == 0 {
			first = valPair(s.next(len(pairs)))
		}
		before := impl.ListFrom(pairs, list)
		made := impl.ConsTo(pairs, first, list)
		behind := impl.ListFrom(made.Pairs, made.Value)
		if before.Code != impl.OK || made.Code != impl.OK || behind.Code != impl.OK {
			t.Fatalf("%+v: %d, %d, %d", pairs, before.Code, made.Code, behind.Code)
		}
		if behind.Values[0] != first || !slices.Equal(behind.Values[1:], before.Values) || behind.Rest != before.Rest {
			t.Fatalf("%+v in front of %+v is %+v", first, before, behind)
		}
		if len(made.Pairs) != len(pairs)+1 || !slices.Equal(made.Pairs[:len(pairs)], pairs) || impl.HeapFault(made.Pairs) != impl.OK {
			t.Fatalf("%+v behind %+v", made.Pairs, pairs)
		}
		shown := impl.ShowValue(made.Pairs, made.Value).Text
		if found := bracketed.FindStringSubmatch(shown); found != nil && first.Kind != impl.ValPair && found[1] != impl.ShowValue(nil, first).Text {
			t.Fatalf("%+v in front is shown as %s", first, shown)
		}
	}
	pairs, list := []impl.Pair(nil), valNil()
	for i := range 200 {
		made := impl.ConsTo(pairs, valNum(int64(i)), list)
		pairs, list = made.Pairs, made.Value
		got := impl.ListFrom(pairs, list)
		if made.Code != impl.OK || got.Code != impl.OK || len(got.Values) != i+1 || got.Values[0] != valNum(int64(i)) || got.Values[i] != valNum(0) || got.Rest != valNil() {
			t.Fatalf("%d in front: %+v", i, got)
		}
	}
	if got := impl.ListFrom(pairs, impl.ConsTo(pairs, valNil(), list).Value).Code; got != impl.ErrNone {
		t.Errorf("a pair that is not there yet: %d", got)
	}
}
