package tests

import (
	"math"
	"slices"
	"strings"
	"testing"

	"loop.example/g00349/impl"
)

// primNames: in the order of their numbers.
func primNames() []string {
	return []string{"+", "-", "*", "quo", "rem", "<", "=", "cons", "car", "cdr", "null?", "pair?", "eq?", "not", "list", "call/cc"}
}

func noPrims() []int64 {
	return []int64{-1, 16, -2, 17, 100, -16, 256, 1 << 32, 1<<32 + 8, math.MaxInt64, math.MinInt64}
}

func valTruth(holds bool) impl.Value {
	if holds {
		return valBool(1)
	}
	return valBool(0)
}

func wantBounds(prim int64) (least, most int) {
	switch {
	case prim <= 7, prim == 12:
		return 2, 2
	case prim == 14:
		return 0, 3
	}
	return 1, 1
}

// wantReckoned: the first seven.
func wantReckoned(prim int64, args []impl.Value) (impl.Value, int64) {
	a, b := args[0], args[1]
	switch {
	case a.Kind != impl.ValNum || b.Kind != impl.ValNum:
		return impl.Value{}, impl.ErrType
	case prim == 5:
		return valTruth(a.Num < b.Num), impl.OK
	case prim == 6:
		return valTruth(a.Num == b.Num), impl.OK
	}
	name := []string{"AddNum", "SubNum", "MulNum", "QuoNum", "RemNum"}[prim]
	n := wantNum(name, a.Num, b.Num)
	if n.Code != impl.OK {
		return impl.Value{}, n.Code
	}
	return valNum(n.Value), impl.OK
}

// wantWork: what a primitive does with as many arguments as it takes, and the pairs that it makes.
func wantWork(pairs []impl.Pair, prim int64, args []impl.Value) (value impl.Value, made []impl.Pair, code int64) {
	switch prim {
	default:
		value, code = wantReckoned(prim, args)
	case 7:
		made = pairsOf(args[0], args[1])
		value = valPair(len(pairs))
	case 8, 9:
		if args[0].Kind != impl.ValPair {
			return impl.Value{}, nil, impl.ErrType
		}
		value = pairs[args[0].Num].Head
		if prim == 9 {
			value = pairs[args[0].Num].Tail
		}
	case 10:
		value = valTruth(args[0].Kind == impl.ValNil)
	case 11:
		value = valTruth(args[0].Kind == impl.ValPair)
	case 12:
		value = valTruth(args[0] == args[1])
	case 13:
		value = valTruth(args[0].Kind == impl.ValBool && args[0].Num == 0)
	case 14:
		all, list := listOf(pairs, valNil(), args...)
		made, value = all[len(pairs):], list
	}
	return value, made, code
}

func wantApply(pairs []impl.Pair, prim int64, args []impl.Value) impl.ValueResult {
	fail := func(code int64) impl.ValueResult { return impl.ValueResult{Code: code} }
	if code := wantHeapFault(pairs); code != impl.OK {
		return fail(code)
	}
	if len(args) > 3 {
		return fail(impl.ErrMany)
	}
	if code := wantIn(pairs, args...); code != impl.OK {
		return fail(code)
	}
	if prim < 0 || prim > 15 {
		return fail(impl.ErrRange)
	}
	if prim == 15 {
		return fail(impl.ErrForm)
	}
	if least, most := wantBounds(prim); len(args) < least || len(args) > most {
		return fail(impl.ErrArgs)
	}
	value, made, code := wantWork(pairs, prim, args)
	if code != impl.OK {
		return fail(code)
	}
	if len(pairs)+len(made) > 4000 {
		return fail(impl.ErrMany)
	}
	return impl.ValueResult{Pairs: append(clonePairs(pairs), made...), Value: value}
}

// checkApply holds an answer against what is asked here, and that against what is reckoned by hand.
func checkApply(t *testing.T, pairs []impl.Pair, prim int64, args []impl.Value, want impl.ValueResult) {
	t.Helper()
	got, byHand := impl.ApplyPrim(pairs, prim, args), wantApply(pairs, prim, args)
	if !sameValueResult(got, want) || got.Code != impl.OK && got.Pairs != nil {
		t.Fatalf("ApplyPrim of %s, %d, %+v = %d, %+v, %s, not %d, %+v, %s", short(pairs), prim, args, got.Code, got.Value, short(got.Pairs), want.Code, want.Value, short(want.Pairs))
	}
	if !sameValueResult(byHand, want) {
		t.Fatalf("by hand of %s, %d, %+v: %d, %+v, not %d, %+v", short(pairs), prim, args, byHand.Code, byHand.Value, want.Code, want.Value)
	}
}

func checkApplied(t *testing.T, pairs []impl.Pair, prim int64, args []impl.Value) {
	t.Helper()
	checkApply(t, pairs, prim, args, wantApply(pairs, prim, args))
}

func checkCode(t *testing.T, pairs []impl.Pair, prim int64, args []impl.Value, code int64) {
	t.Helper()
	checkApply(t, pairs, prim, args, impl.ValueResult{Code: code})
}

// checkValue: no pair is made, and all that are there are answered.
func checkValue(t *testing.T, pairs []impl.Pair, prim int64, args []impl.Value, want impl.Value) {
	t.Helper()
	checkApply(t, pairs, prim, args, impl.ValueResult{Pairs: pairs, Value: want})
}

func TestPrimNumbers(t *testing.T) {
	for want, prim := range []int64{impl.PrimAdd, impl.PrimSub, impl.PrimMul, impl.PrimQuo, impl.PrimRem, impl.PrimLess, impl.PrimSame, impl.PrimCons, impl.PrimCar, impl.PrimCdr, impl.PrimNull, impl.PrimPair, impl.PrimEq, impl.PrimNot, impl.PrimList, impl.PrimCall} {
		if prim != int64(want) {
			t.Errorf("the primitive %d is %d", want, prim)
		}
	}
	for prim, name := range primNames() {
		if got := impl.PrimText(int64(prim)); got != (impl.TextResult{Text: name}) {
			t.Errorf("PrimText(%d) = %+v, not %s", prim, got, name)
		}
		if got := impl.PrimOf(name); got != (impl.IntResult{Value: int64(prim)}) {
			t.Errorf("PrimOf(%q) = %+v, not %d", name, got, prim)
		}
	}
	for _, prim := range noPrims() {
		if got := impl.PrimText(prim); got != (impl.TextResult{Code: impl.ErrRange}) {
			t.Errorf("PrimText(%d) = %+v", prim, got)
		}
		if got := impl.ArgsFor(prim); got.Code != impl.ErrRange || got.List != nil {
			t.Errorf("ArgsFor(%d) = %+v", prim, got)
		}
	}
}

func TestPrimOfNone(t *testing.T) {
	names := append(wrongNames(), "/", "<=", ">", "ca", "cad", "cadr", "carr", "call", "callcc", "call/c", "call/ccc", "null", "pair", "eq", "list?", "nots", "quote", "if", "set!", "define",
		"CAR", "Car", " car", "car ", "car\n", "car\x00", "ca r", "#prim", "0", "8", "++", "--", "-+", "==", "quo ", "consconscons", "consconsconsc")
	for _, name := range allKeywords() {
		names = append(names, name)
	}
	for _, name := range primNames() {
		names = append(names, name+" ", " "+name, name+"x", "x"+name, strings.ToUpper(name)+"!", name+name)
	}
	for _, name := range names {
		if got := impl.PrimOf(name); got != (impl.IntResult{Code: impl.ErrNone}) {
			t.Errorf("PrimOf(%.40q) = %+v", name, got)
		}
	}
	// All names of one byte and of two that are symbols.
	const letters = "abcdefghijklmnopqrstuvwxyz+-*/<=?!"
	for _, a := range letters {
		for _, b := range " " + letters {
			name := strings.TrimSpace(string(a) + string(b))
			want := impl.IntResult{Code: impl.ErrNone}
			if prim := slices.Index(primNames(), name); prim >= 0 {
				want = impl.IntResult{Value: int64(prim)}
			}
			if got := impl.PrimOf(name); got != want {
				t.Errorf("PrimOf(%q) = %+v, not %+v", name, got, want)
			}
		}
	}
}

func TestArgsFor(t *testing.T) {
	for name, want := range map[string][]int64{
		"+": {2, 2}, "-": {2, 2}, "*": {2, 2}, "quo": {2, 2}, "rem": {2, 2}, "<": {2, 2}, "=": {2, 2}, "cons": {2, 2}, "eq?": {2, 2},
		"car": {1, 1}, "cdr": {1, 1}, "null?": {1, 1}, "pair?": {1, 1}, "not": {1, 1}, "call/cc": {1, 1}, "list": {0, 3},
	} {
		if got := impl.ArgsFor(int64(slices.Index(primNames(), name))); got.Code != impl.OK || !slices.Equal(got.List, want) {
			t.Errorf("ArgsFor of %s = %+v, not %v", name, got, want)
		}
	}
}

// No, one, two, three and four arguments of each, of good types and of others.
func TestApplyCount(t *testing.T) {
	pairs := pairsOf(valNum(1), valNil())
	for _, v := range values(valNum(3), valPair(0), valNil(), valSym("a"), valBool(0), valNone(), valProc(1), valCont(2), valPrim(15)) {
		for prim := int64(-1); prim <= 16; prim++ {
			for count := range 5 {
				args := slices.Repeat(values(v), count)
				checkApplied(t, pairs, prim, args)
				if prim < 0 || prim > 14 || count > 3 {
					continue
				}
				least, most := wantBounds(prim)
				if got := impl.ApplyPrim(pairs, prim, args).Code; (got == impl.ErrArgs) != (count < least || count > most) {
					t.Errorf("%s of %d arguments: %d", primNames()[prim], count, got)
				}
			}
		}
	}
	for _, prim := range []int64{0, 7, 8, 14, 15, 16, -1} {
		for _, count := range []int{4, 5, 6, 200, 5000} {
			checkCode(t, pairs, prim, slices.Repeat(values(valNum(1)), count), impl.ErrMany)
		}
	}
	// How many there are is asked ahead of their types.
	for prim := int64(impl.PrimAdd); prim <= impl.PrimSame; prim++ {
		for _, args := range [][]impl.Value{nil, values(valNil()), values(valNum(1)), values(valNil(), valNum(1), valNum(2)), values(valNum(1), valNum(2), valNil()), values(valNum(1), valNum(2), valNum(3))} {
			checkCode(t, pairs, prim, args, impl.ErrArgs)
		}
	}
	for _, prim := range []int64{impl.PrimCar, impl.PrimCdr} {
		for _, args := range [][]impl.Value{nil, values(valNil(), valNil()), values(valPair(0), valNum(1)), values(valPair(0), valPair(0)), values(valNum(1), valNum(1), valNum(1))} {
			checkCode(t, pairs, prim, args, impl.ErrArgs)
		}
	}
}

func TestApplyNumbers(t *testing.T) {
	const max = impl.MaxNum
	pairs := pairsOf(valSym("a"), valNil(), valPair(0), valNum(2))
	for _, c := range []struct {
		prim, a, b int64
		want       impl.IntResult
	}{
		{impl.PrimAdd, 2, 3, impl.IntResult{Value: 5}},
		{impl.PrimAdd, max - 1, 1, impl.IntResult{Value: max}},
		{impl.PrimAdd, max, 1, impl.IntResult{Code: impl.ErrValue}},
		{impl.PrimAdd, 1 - max, -1, impl.IntResult{Value: -max}},
		{impl.PrimAdd, -max, -1, impl.IntResult{Code: impl.ErrValue}},
		{impl.PrimAdd, max, -max, impl.IntResult{Value: 0}},
		{impl.PrimSub, 7, 2, impl.IntResult{Value: 5}},
		{impl.PrimSub, 2, 7, impl.IntResult{Value: -5}},
		{impl.PrimSub, max - 1, -1, impl.IntResult{Value: max}},
		{impl.PrimSub, max, -1, impl.IntResult{Code: impl.ErrValue}},
		{impl.PrimSub, -max, 1, impl.IntResult{Code: impl.ErrValue}},
		{impl.PrimSub, 0, max, impl.IntResult{Value: -max}},
		{impl.PrimMul, 3, -4, impl.IntResult{Value: -12}},
		{impl.PrimMul, max / 2, 2, impl.IntResult{Value: max}},
		{impl.PrimMul, max/2 + 1, 2, impl.IntResult{Code: impl.ErrValue}},
		{impl.PrimMul, max, -1, impl.IntResult{Value: -max}},
		{impl.PrimMul, max, max, impl.IntResult{Code: impl.ErrValue}},
		{impl.PrimMul, max, 0, impl.IntResult{Value: 0}},
		// Just one more than the greatest one, and one less than the least.
		{impl.PrimMul, 7, 142857143, impl.IntResult{Code: impl.ErrValue}},
		{impl.PrimMul, -7, 142857143, impl.IntResult{Code: impl.ErrValue}},
		{impl.PrimMul, 7, 142857142, impl.IntResult{Value: 999999994}},
		{impl.PrimQuo, 7, 2, impl.IntResult{Value: 3}},
		{impl.PrimQuo, -7, 2, impl.IntResult{Value: -4}},
		{impl.PrimQuo, 7, -2, impl.IntResult{Value: -4}},
		{impl.PrimQuo, -7, -2, impl.IntResult{Value: 3}},
		{impl.PrimQuo, -max, -1, impl.IntResult{Value: max}},
		{impl.PrimQuo, 7, 0, impl.IntResult{Code: impl.ErrValue}},
		{impl.PrimQuo, 0, 0, impl.IntResult{Code: impl.ErrValue}},
		{impl.PrimRem, 7, 2, impl.IntResult{Value: 1}},
		{impl.PrimRem, -7, 2, impl.IntResult{Value: 1}},
		{impl.PrimRem, 7, -2, impl.IntResult{Value: -1}},
		{impl.PrimRem, -7, -2, impl.IntResult{Value: -1}},
		{impl.PrimRem, max, 2, impl.IntResult{Value: 0}},
		{impl.PrimRem, -1, max, impl.IntResult{Value: max - 1}},
		{impl.PrimRem, 7, 0, impl.IntResult{Code: impl.ErrValue}},
		{impl.PrimRem, 0, 0, impl.IntResult{Code: impl.ErrValue}},
	} {
		args := values(valNum(c.a), valNum(c.b))
		if c.want.Code != impl.OK {
			checkCode(t, pairs, c.prim, args, c.want.Code)
		} else {
			checkValue(t, pairs, c.prim, args, valNum(c.want.Value))
		}
	}
	nums := append(edgeNums(), someNums(40)...)
	for prim := int64(impl.PrimAdd); prim <= impl.PrimSame; prim++ {
		for _, a := range nums {
			for _, b := range nums {
				checkApplied(t, pairs, prim, values(valNum(a), valNum(b)))
			}
		}
	}
}

func TestApplyCompare(t *testing.T) {
	pairs := chain(2)
	nums := []int64{-impl.MaxNum, 1 - impl.MaxNum, -2, -1, 0, 1, 2, impl.MaxNum - 1, impl.MaxNum}
	for i, a := range nums {
		for k, b := range nums {
			checkValue(t, pairs, impl.PrimLess, values(valNum(a), valNum(b)), valTruth(i < k))
			checkValue(t, pairs, impl.PrimSame, values(valNum(a), valNum(b)), valTruth(i == k))
		}
	}
}

// An argument of another type as the first one, as the second one, and as both.
func TestApplyType(t *testing.T) {
	pairs := chain(3)
	for _, v := range append(rightValues(), valPair(0), valPair(2)) {
		if v.Kind == impl.ValNum {
			continue
		}
		for prim := int64(impl.PrimAdd); prim <= impl.PrimSame; prim++ {
			for _, n := range []int64{0, 1, impl.MaxNum} {
				checkCode(t, pairs, prim, values(v, valNum(n)), impl.ErrType)
				checkCode(t, pairs, prim, values(valNum(n), v), impl.ErrType)
			}
			checkCode(t, pairs, prim, values(v, v), impl.ErrType)
		}
	}
	for _, v := range rightValues() {
		checkCode(t, pairs, impl.PrimCar, values(v), impl.ErrType)
		checkCode(t, pairs, impl.PrimCdr, values(v), impl.ErrType)
		checkCode(t, chain(4000), impl.PrimCar, values(v), impl.ErrType)
	}
	// The type is asked ahead of what comes of it: a division by 0 is not seen.
	checkCode(t, pairs, impl.PrimQuo, values(valNil(), valNum(0)), impl.ErrType)
	checkCode(t, pairs, impl.PrimRem, values(valBool(1), valNum(0)), impl.ErrType)
	checkCode(t, pairs, impl.PrimQuo, values(valNum(1), valBool(0)), impl.ErrType)
}

func TestApplyParts(t *testing.T) {
	one, none := valNum(1), valNil()
	shared := pairsOf(valSym("x"), one, valPair(0), valPair(0), valPair(0), valPair(1), valPair(1), none)
	for at, p := range shared {
		checkValue(t, shared, impl.PrimCar, values(valPair(at)), p.Head)
		checkValue(t, shared, impl.PrimCdr, values(valPair(at)), p.Tail)
	}
	for _, v := range append(rightValues(), valPair(0)) {
		pairs := pairsOf(one, none, v, valSym("tail"), valSym("head"), v)
		checkValue(t, pairs, impl.PrimCar, values(valPair(1)), v)
		checkValue(t, pairs, impl.PrimCdr, values(valPair(1)), valSym("tail"))
		checkValue(t, pairs, impl.PrimCar, values(valPair(2)), valSym("head"))
		checkValue(t, pairs, impl.PrimCdr, values(valPair(2)), v)
	}
	full := chain(4000)
	checkValue(t, full, impl.PrimCdr, values(valPair(3999)), valPair(3998))
	checkValue(t, full, impl.PrimCar, values(valPair(3999)), valNum(9))
	checkCode(t, full, impl.PrimCar, values(valPair(4000)), impl.ErrNone)
}

func TestApplyKinds(t *testing.T) {
	pairs := chain(3)
	for _, v := range append(rightValues(), valPair(0), valPair(1), valPair(2)) {
		checkValue(t, pairs, impl.PrimNull, values(v), valTruth(v == valNil()))
		checkValue(t, pairs, impl.PrimPair, values(v), valTruth(v.Kind == impl.ValPair))
		checkValue(t, pairs, impl.PrimNot, values(v), valTruth(v == valBool(0)))
		if got := impl.IsTrue(v); got != (v != valBool(0)) {
			t.Errorf("IsTrue(%+v) = %v", v, got)
		}
	}
	for _, prim := range []int64{impl.PrimNull, impl.PrimPair, impl.PrimNot} {
		checkValue(t, nil, prim, values(valBool(1)), valBool(0))
		checkApplied(t, chain(4000), prim, values(valPair(3999)))
	}
	checkValue(t, nil, impl.PrimNot, values(valBool(0)), valBool(1))
	checkValue(t, nil, impl.PrimNot, values(valNum(0)), valBool(0))
	checkValue(t, nil, impl.PrimNot, values(valNil()), valBool(0))
	checkValue(t, nil, impl.PrimNull, values(valNil()), valBool(1))
	checkValue(t, nil, impl.PrimNull, values(valNone()), valBool(0))
	checkValue(t, pairs, impl.PrimPair, values(valPair(0)), valBool(1))
}

// IsTrue asks nothing: what has a fault is not the bool 0.
func TestIsTrue(t *testing.T) {
	if impl.IsTrue(valBool(0)) || !impl.IsTrue(valBool(1)) || !impl.IsTrue(valNum(0)) || !impl.IsTrue(valNil()) || !impl.IsTrue(impl.Value{}) {
		t.Error("IsTrue")
	}
	for _, w := range wrongValues() {
		if !impl.IsTrue(w.value) {
			t.Errorf("IsTrue of %d, %d, %.40q is false", w.value.Kind, w.value.Num, w.value.Name)
		}
	}
}

func TestApplyEq(t *testing.T) {
	one := valNum(1)
	// Two pairs with the same Head and Tail at two places.
	pairs := pairsOf(one, valNil(), one, valNil(), valPair(0), valPair(1))
	checkValue(t, pairs, impl.PrimEq, values(valPair(0), valPair(1)), valBool(0))
	checkValue(t, pairs, impl.PrimEq, values(valPair(1), valPair(0)), valBool(0))
	checkValue(t, pairs, impl.PrimEq, values(valPair(1), valPair(1)), valBool(1))
	// Two kinds with the same Num.
	for _, n := range []int64{0, 1} {
		list := values(valNum(n), valBool(n), valPair(int(n)), valProc(n), valCont(n), valPrim(n))
		for i, a := range list {
			for k, b := range list {
				checkValue(t, pairs, impl.PrimEq, values(a, b), valTruth(i == k))
			}
		}
	}
	all := append(rightValues(), valPair(0), valPair(1), valPair(2))
	for i, a := range all {
		for k, b := range all {
			checkValue(t, pairs, impl.PrimEq, values(cloneValue(a), cloneValue(b)), valTruth(i == k))
		}
	}
}

func TestApplyCons(t *testing.T) {
	one, none := valNum(1), valNil()
	checkApply(t, nil, impl.PrimCons, values(one, none), impl.ValueResult{Pairs: pairsOf(one, none), Value: valPair(0)})
	checkApply(t, nil, impl.PrimCons, values(none, one), impl.ValueResult{Pairs: pairsOf(none, one), Value: valPair(0)})
	checkApply(t, chain(1), impl.PrimCons, values(valPair(0), valPair(0)), impl.ValueResult{Pairs: append(chain(1), pairsOf(valPair(0), valPair(0))...), Value: valPair(1)})
	checkApply(t, chain(3999), impl.PrimCons, values(one, valPair(3998)), impl.ValueResult{Pairs: append(chain(3999), pairsOf(one, valPair(3998))...), Value: valPair(3999)})
	checkCode(t, chain(4000), impl.PrimCons, values(one, none), impl.ErrMany)
	checkCode(t, chain(4000), impl.PrimCons, values(valPair(3999), valPair(0)), impl.ErrMany)
	checkCode(t, chain(4000), impl.PrimCons, values(one, valPair(4000)), impl.ErrNone)
	checkCode(t, chain(4000), impl.PrimCons, values(one), impl.ErrArgs)
	checkCode(t, chain(4001), impl.PrimCons, values(one), impl.ErrMany)
	all := append(rightValues(), valPair(0), valPair(1))
	for _, a := range all {
		for _, b := range all {
			checkApplied(t, chain(2), impl.PrimCons, values(a, b))
		}
	}
}

func TestApplyList(t *testing.T) {
	a, b, c, none := valSym("a"), valSym("b"), valSym("c"), valNil()
	checkApply(t, nil, impl.PrimList, nil, impl.ValueResult{Value: none})
	checkApply(t, nil, impl.PrimList, []impl.Value{}, impl.ValueResult{Value: none})
	checkApply(t, nil, impl.PrimList, values(a), impl.ValueResult{Pairs: pairsOf(a, none), Value: valPair(0)})
	checkApply(t, nil, impl.PrimList, values(a, b), impl.ValueResult{Pairs: pairsOf(b, none, a, valPair(0)), Value: valPair(1)})
	checkApply(t, nil, impl.PrimList, values(a, b, c), impl.ValueResult{Pairs: pairsOf(c, none, b, valPair(0), a, valPair(1)), Value: valPair(2)})
	checkApply(t, pairsOf(a, b), impl.PrimList, values(valPair(0), c), impl.ValueResult{Pairs: pairsOf(a, b, c, none, valPair(0), valPair(1)), Value: valPair(2)})
	checkValue(t, chain(4000), impl.PrimList, nil, none)
	for count := range 4 {
		args := values(a, b, c)[:count]
		for _, left := range []int{0, 1, 2, 3, 4} {
			pairs := chain(4000 - left)
			got := impl.ApplyPrim(pairs, impl.PrimList, args)
			switch {
			case left < count && got.Code != impl.ErrMany:
				t.Errorf("a list of %d with room for %d: %d", count, left, got.Code)
			case left >= count && (got.Code != impl.OK || len(got.Pairs) != len(pairs)+count):
				t.Errorf("a list of %d with room for %d: %d, %d pairs", count, left, got.Code, len(got.Pairs))
			}
			checkApplied(t, pairs, impl.PrimList, args)
		}
	}
	all := append(rightValues(), valPair(0), valPair(1))
	for i, v := range all {
		w := all[(i*7+3)%len(all)]
		checkApplied(t, chain(2), impl.PrimList, values(v))
		checkApplied(t, chain(2), impl.PrimList, values(v, w))
		checkApplied(t, chain(2), impl.PrimList, values(v, w, v))
	}
}

// With any number of arguments, good ones and others behind which it stands.
func TestApplyCall(t *testing.T) {
	pairs := chain(2)
	for _, v := range append(rightValues(), valPair(1)) {
		for count := range 4 {
			checkCode(t, pairs, impl.PrimCall, slices.Repeat(values(v), count), impl.ErrForm)
			checkCode(t, chain(4000), impl.PrimCall, slices.Repeat(values(v), count), impl.ErrForm)
		}
		checkCode(t, pairs, impl.PrimCall, slices.Repeat(values(v), 4), impl.ErrMany)
	}
	checkCode(t, pairs, impl.PrimCall, values(valPair(2)), impl.ErrNone)
	checkCode(t, pairs, impl.PrimCall, values(valNum(1), valSym("A")), impl.ErrText)
	checkCode(t, pairs, impl.PrimCall, values(valBool(2)), impl.ErrRange)
}

// Each fault in an argument, at each place, of each primitive and of what is none.
func TestApplyArgFaults(t *testing.T) {
	pairs := chain(3)
	for _, w := range append(wrongValues(), wrongValue{valPair(3), impl.ErrNone}, wrongValue{valPair(4000), impl.ErrNone}, wrongValue{valPair(99999), impl.ErrNone}) {
		for prim := int64(-1); prim <= 16; prim++ {
			for count := 1; count <= 3; count++ {
				for at := range count {
					args := slices.Repeat(values(valNum(1)), count)
					args[at] = w.value
					checkCode(t, pairs, prim, args, w.code)
				}
			}
			checkCode(t, pairs, prim, slices.Repeat(values(w.value), 4), impl.ErrMany)
		}
	}
}

// Of several faults the first one is told.
func TestApplyOrder(t *testing.T) {
	one, form, text, span, gone := valNum(1), impl.Value{Kind: 10}, valSym("A"), valBool(2), valPair(9)
	bad := pairsOf(text, valNil())
	for _, prim := range []int64{impl.PrimAdd, impl.PrimCons, impl.PrimCar, impl.PrimEq, impl.PrimList, impl.PrimCall, -1, 16} {
		// Pairs ahead of all arguments, and of how many there are.
		checkCode(t, bad, prim, values(one), impl.ErrText)
		checkCode(t, bad, prim, values(span, form), impl.ErrText)
		checkCode(t, bad, prim, slices.Repeat(values(span), 4), impl.ErrText)
		checkCode(t, pairsOf(valPair(0), valNil()), prim, slices.Repeat(values(span), 4), impl.ErrForm)
		checkCode(t, pairsOf(span, text), prim, values(gone), impl.ErrRange)
		checkCode(t, chain(4001), prim, values(text), impl.ErrMany)
		// How many there are ahead of their faults.
		checkCode(t, nil, prim, values(text, span, gone, one), impl.ErrMany)
		// Each argument all ahead of the next one.
		checkCode(t, nil, prim, values(text, span), impl.ErrText)
		checkCode(t, nil, prim, values(span, text), impl.ErrRange)
		checkCode(t, nil, prim, values(gone, text), impl.ErrNone)
		checkCode(t, nil, prim, values(gone, span, form), impl.ErrNone)
		checkCode(t, nil, prim, values(one, gone, text), impl.ErrNone)
		checkCode(t, nil, prim, values(one, form, gone), impl.ErrForm)
		checkCode(t, nil, prim, values(one, one, gone), impl.ErrNone)
	}
	// A number that is no primitive behind faults of arguments, ahead of their types.
	for _, prim := range noPrims() {
		checkCode(t, nil, prim, nil, impl.ErrRange)
		checkCode(t, nil, prim, values(valNil(), valNil()), impl.ErrRange)
		checkCode(t, nil, prim, values(one, one, one), impl.ErrRange)
		checkCode(t, nil, prim, values(text), impl.ErrText)
		checkCode(t, nil, prim, values(gone), impl.ErrNone)
		checkCode(t, nil, prim, values(one, one, one, one), impl.ErrMany)
		checkCode(t, bad, prim, nil, impl.ErrText)
	}
}

func TestApplySome(t *testing.T) {
	s := dice(60606)
	leaves := rightValues()
	var faults []impl.Value
	for _, w := range wrongValues() {
		faults = append(faults, w.value)
	}
	pick := func(pairs []impl.Pair) impl.Value {
		switch roll := s.next(40); {
		case roll == 0:
			return faults[s.next(len(faults))]
		case roll < 12 && len(pairs) > 0:
			return valPair(s.next(len(pairs)))
		case roll == 12:
			return valPair(len(pairs) + s.next(2))
		case roll < 26:
			return valNum(int64(s.next(9)) - 4)
		}
		return leaves[s.next(len(leaves))]
	}
	for _, pairs := range someHeaps(2500, 24) {
		if len(pairs) > 0 && s.next(12) == 0 {
			pairs = clonePairs(pairs)
			pairs[s.next(len(pairs))].Tail = faults[s.next(len(faults))]
		}
		for range 12 {
			var args []impl.Value
			for range s.next(9) / 2 {
				args = append(args, pick(pairs))
			}
			checkApplied(t, pairs, int64(s.next(18)-1), args)
		}
	}
}

// Promise 1: the same again behind other calls, in new memory that can be written into, and no argument is changed.
func TestPromise1Primitives(t *testing.T) {
	name := strings.Clone("name")
	heaps := append(someHeaps(40, 30), pairsOf(valSym(strings.Clone("head")), valSym(strings.Clone("tail"))), pairsOf(valSym("A"), valNil()))
	for _, given := range heaps {
		pairs := append(make([]impl.Pair, 0, len(given)+9), clonePairs(given)...)
		kept := clonePairs(pairs)
		for prim := int64(-1); prim <= 16; prim++ {
			for _, list := range [][]impl.Value{nil, values(valPair(0)), values(valSym(name)), values(valNum(7), valNum(2)), values(valSym(name), valPair(0)), values(valSym(name), valNil(), valSym(name))} {
				args := append(make([]impl.Value, 0, len(list)+5), list...)
				got := impl.ApplyPrim(pairs, prim, args)
				checkNew(t, pairs, got.Pairs, got.Value)
				for _, arg := range list {
					checkNew(t, pairsOf(arg, arg), got.Pairs, got.Value)
				}
				spoilPairs(got.Pairs)
				if !slices.Equal(pairs, kept) || !slices.Equal(pairs[:cap(pairs)][len(pairs):], make([]impl.Pair, cap(pairs)-len(pairs))) {
					t.Fatalf("the pairs are changed: %+v", pairs)
				}
				if !slices.Equal(args, list) || !slices.Equal(args[:cap(args)][len(args):], make([]impl.Value, cap(args)-len(args))) {
					t.Fatalf("the arguments are changed: %+v", args)
				}
				checkApplied(t, pairs, prim, args)
			}
		}
	}
	for range 2 {
		for prim := int64(-1); prim <= 16; prim++ {
			counts, text := impl.ArgsFor(prim), impl.PrimText(prim)
			for i := range counts.List {
				counts.List[i] = -9
			}
			if again := impl.ArgsFor(prim); len(again.List) != len(counts.List) || slices.Contains(again.List, -9) || impl.PrimText(prim) != text {
				t.Fatalf("of %d: %+v", prim, again)
			}
		}
	}
}

// Promise 7: a primitive is found by its name, and its name alone.
func TestPromise7Found(t *testing.T) {
	seen := map[string]int{}
	for prim := int64(-40); prim <= 40; prim++ {
		text := impl.PrimText(prim)
		if (text.Code == impl.OK) != (prim >= 0 && prim <= 15) {
			t.Fatalf("PrimText(%d) = %+v", prim, text)
		}
		if text.Code != impl.OK {
			continue
		}
		seen[text.Text]++
		if got := impl.PrimOf(text.Text); got != (impl.IntResult{Value: prim}) || impl.SymFault(text.Text) != impl.OK || impl.IsKeyword(text.Text) {
			t.Errorf("%q of %d is found as %+v", text.Text, prim, got)
		}
	}
	if len(seen) != 16 {
		t.Errorf("%d names", len(seen))
	}
}

// goodArgs: so many arguments of a type that a primitive takes.
func goodArgs(prim int64, count int) []impl.Value {
	if prim <= impl.PrimSame {
		return values(valNum(7), valNum(2), valNum(1), valNum(4))[:count]
	}
	return slices.Repeat(values(valPair(0)), count)
}

// Promise 7: a primitive takes as many arguments as it tells, and no others.
func TestPromise7Takes(t *testing.T) {
	for prim := int64(0); prim <= 15; prim++ {
		told := impl.ArgsFor(prim)
		if told.Code != impl.OK || len(told.List) != 2 || told.List[0] < 0 || told.List[0] > told.List[1] || told.List[1] > 3 {
			t.Fatalf("ArgsFor(%d) = %+v", prim, told)
		}
		for count := range 4 {
			want := int64(impl.OK)
			switch {
			case prim == impl.PrimCall:
				want = impl.ErrForm
			case int64(count) < told.List[0] || int64(count) > told.List[1]:
				want = impl.ErrArgs
			}
			if got := impl.ApplyPrim(chain(2), prim, goodArgs(prim, count)).Code; got != want {
				t.Errorf("%s of %d arguments: %d, not %d", primNames()[prim], count, got, want)
			}
		}
	}
}

// Promise 7: a heap that is handed on from primitive to primitive stays without fault, and what was there as it was.
func TestPromise7Heap(t *testing.T) {
	s := dice(777)
	leaves := rightValues()
	for _, start := range append(someHeaps(60, 20), chain(3970)) {
		pairs, last := start, valNil()
		for range 120 {
			var args []impl.Value
			for range s.next(4) {
				v := leaves[s.next(len(leaves))]
				switch s.next(4) {
				case 0:
					v = last
				case 1:
					if len(pairs) > 0 {
						v = valPair(s.next(len(pairs)))
					}
				}
				args = append(args, v)
			}
			got := impl.ApplyPrim(pairs, int64(s.next(16)), args)
			if got.Code != impl.OK {
				continue
			}
			if len(got.Pairs) < len(pairs) || !slices.Equal(got.Pairs[:len(pairs)], pairs) {
				t.Fatalf("%s became %s", short(pairs), short(got.Pairs))
			}
			if impl.HeapFault(got.Pairs) != impl.OK || impl.ShowValue(got.Pairs, got.Value).Code != impl.OK {
				t.Fatalf("a fault in %s or %+v", short(got.Pairs), got.Value)
			}
			pairs, last = got.Pairs, got.Value
		}
	}
}

// Promise 7: what is put together is taken apart again, and a list has its arguments.
func TestPromise7Together(t *testing.T) {
	all := append(rightValues(), valPair(0), valPair(1))
	for i, a := range all {
		for k, b := range all {
			made := impl.ApplyPrim(chain(2), impl.PrimCons, values(a, b))
			head, tail := impl.ApplyPrim(made.Pairs, impl.PrimCar, values(made.Value)), impl.ApplyPrim(made.Pairs, impl.PrimCdr, values(made.Value))
			if made.Code != impl.OK || head.Value != a || tail.Value != b || !slices.Equal(head.Pairs, made.Pairs) || !slices.Equal(tail.Pairs, made.Pairs) {
				t.Fatalf("cons of %+v and %+v: %+v, %+v", a, b, head, tail)
			}
			args := values(a, b, all[(i+k)%len(all)])
			for count := range 4 {
				made := impl.ApplyPrim(chain(2), impl.PrimList, args[:count])
				list := impl.ListFrom(made.Pairs, made.Value)
				if made.Code != impl.OK || list.Code != impl.OK || !slices.Equal(list.Values, args[:count]) || list.Rest != valNil() || len(made.Pairs) != 2+count {
					t.Fatalf("list of %+v: %+v", args[:count], made)
				}
			}
		}
	}
}
