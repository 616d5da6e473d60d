package tests

import (
	"fmt"
	"math"
	"slices"
	"strings"
	"testing"

	"loop.example/g00349/impl"
)

// bitOf: the bit of a table by which two kinds side by side are one; 0, if none has them.
func bitOf(first, second int64) int64 {
	return map[[2]int64]int64{{impl.OpConst, impl.OpReturn}: 1, {impl.OpLocal, impl.OpReturn}: 2, {impl.OpLocal, impl.OpLocal}: 4, {impl.OpLocal, impl.OpIfNot}: 8}[[2]int64{first, second}]
}

func isTwo(o impl.Op) bool { return o.Kind >= impl.OpConstReturn && o.Kind <= impl.OpLocalIfNot }

// fuseByHand makes one pair one at a time, and turns all targets behind it each time.
func fuseByHand(b impl.Block, table int64) impl.Block {
	for at := 0; at+1 < len(b.Ops); at++ {
		if table&bitOf(b.Ops[at].Kind, b.Ops[at+1].Kind) != 0 {
			b = fuseAt(b, int64(at))
		}
	}
	return b
}

// apartByHand: the two operations that one is.
func apartByHand(o impl.Op) (first, second impl.Op) {
	local := opNums(impl.OpLocal, o.A, o.B)
	switch o.Kind {
	case impl.OpConstReturn:
		return opData(impl.OpConst, o.Data...), opReturn()
	case impl.OpLocalReturn:
		return local, opReturn()
	case impl.OpLocalLocal:
		return local, opNums(impl.OpLocal, o.C, o.D)
	}
	return local, opNums(impl.OpIfNot, o.C)
}

// unfuseByHand takes one apart at a time, the last one first, and turns all targets behind it each time.
func unfuseByHand(b impl.Block) impl.Block {
	list := slices.Clone(b.Ops)
	for at := len(list) - 1; at >= 0; at-- {
		if !isTwo(list[at]) {
			continue
		}
		first, second := apartByHand(list[at])
		list[at] = first
		list = slices.Insert(list, at+1, second)
		for i, o := range list {
			if target := targetOf(o); target > int64(at) {
				list[i] = withTarget(o, target+1)
			}
		}
	}
	return block(b.Args, list...)
}

// pastJumps goes on from a place as long as a jump is there, at most so often.
func pastJumps(b impl.Block, at int64, often int) int64 {
	if often == 0 || b.Ops[at].Kind != impl.OpJump {
		return at
	}
	return pastJumps(b, b.Ops[at].A, often-1)
}

func peepByHand(b impl.Block) impl.Block {
	var list []impl.Op
	for _, o := range b.Ops {
		if o.Kind == impl.OpJump || o.Kind == impl.OpIfNot {
			o.A = pastJumps(b, o.A, len(b.Ops))
		}
		if o.Kind == impl.OpJump && b.Ops[o.A].Kind == impl.OpReturn {
			o = opReturn()
		}
		list = append(list, o)
	}
	return block(b.Args, list...)
}

func eachByHand(code []impl.Block, turn func(impl.Block) impl.Block) impl.CodeResult {
	if fault := holdByHand(code).fault; fault != impl.OK {
		return impl.CodeResult{Code: fault}
	}
	var made impl.CodeResult
	for _, b := range code {
		made.Blocks = append(made.Blocks, turn(b))
	}
	return made
}

func wantPeep(code []impl.Block) impl.CodeResult { return eachByHand(code, peepByHand) }

func wantFuse(code []impl.Block, table int64) impl.CodeResult {
	made := eachByHand(code, func(b impl.Block) impl.Block { return fuseByHand(b, table&15) })
	if made.Code == impl.OK && (table < 0 || table > 15) {
		return impl.CodeResult{Code: impl.ErrRange}
	}
	return made
}

func wantUnfuse(code []impl.Block) impl.CodeResult {
	made := eachByHand(code, unfuseByHand)
	if slices.ContainsFunc(made.Blocks, func(b impl.Block) bool { return len(b.Ops) > 200 }) {
		return impl.CodeResult{Code: impl.ErrMany}
	}
	return made
}

func wantFused(code []impl.Block) impl.IntResult {
	want := impl.IntResult{Code: holdByHand(code).fault}
	for _, b := range code {
		for _, o := range b.Ops {
			if want.Code == impl.OK && isTwo(o) {
				want.Value++
			}
		}
	}
	return want
}

func madeText(made impl.CodeResult) string {
	return fmt.Sprintf("code %d:\n%s", made.Code, someText(made.Blocks))
}

func checkMade(t *testing.T, what string, code []impl.Block, got, want impl.CodeResult) {
	t.Helper()
	if got.Code != want.Code || !equalCode(got.Blocks, want.Blocks) || got.Code != impl.OK && got.Blocks != nil {
		t.Fatalf("%s is %s\nnot %s\nof\n%s", what, madeText(got), madeText(want), someText(code))
	}
}

func checkFused(t *testing.T, code []impl.Block) {
	t.Helper()
	if got, want := impl.FusedIn(code), wantFused(code); got != want {
		t.Fatalf("FusedIn = %+v, not %+v, of\n%s", got, want, someText(code))
	}
}

// checkRemade asks all of the chapter, by the tables that are told.
func checkRemade(t *testing.T, code []impl.Block, tables ...int64) {
	t.Helper()
	checkFused(t, code)
	checkMade(t, "peeped", code, impl.PeepCode(code), wantPeep(code))
	checkMade(t, "taken apart", code, impl.UnfuseCode(code), wantUnfuse(code))
	for _, table := range tables {
		checkMade(t, fmt.Sprintf("fused by %d", table), code, impl.FuseCode(code, table), wantFuse(code, table))
	}
}

func allTables() []int64 {
	list := []int64{-1, 16, math.MinInt64, math.MaxInt64, -15, 31, 1 << 40}
	for table := range int64(16) {
		list = append(list, table)
	}
	return list
}

// inCode reads operations as a block of three parameters, in code that holds if they do.
func inCode(ops string) []impl.Block { return codeOf("0: closure 1, return | 3: " + ops) }

type turned struct {
	ops  string
	want string
}

func checkToldPeep(t *testing.T, list []turned) {
	t.Helper()
	for _, c := range list {
		code := inCode(c.ops)
		if got := impl.PeepCode(code); got.Code != impl.OK || !equalCode(got.Blocks, inCode(c.want)) {
			t.Errorf("%s is peeped to %s", c.ops, madeText(got))
		}
		checkRemade(t, code, 0, 15)
	}
}

func checkToldFuse(t *testing.T, table int64, list []turned) {
	t.Helper()
	for _, c := range list {
		code := inCode(c.ops)
		got := impl.FuseCode(code, table)
		if got.Code != impl.OK || !equalCode(got.Blocks, inCode(c.want)) {
			t.Errorf("%s is fused by %d to %s", c.ops, table, madeText(got))
		}
		if apart := impl.UnfuseCode(got.Blocks); !slices.ContainsFunc(code[1].Ops, isTwo) && !equalCode(apart.Blocks, code) {
			t.Errorf("%s is fused by %d and taken apart to %s", c.ops, table, madeText(apart))
		}
		checkRemade(t, code, allTables()...)
		checkRemade(t, got.Blocks, allTables()...)
	}
}

func TestTableFault(t *testing.T) {
	for _, table := range append(allTables(), wrongPlaces(16)...) {
		want := int64(impl.OK)
		if table < 0 || table > 15 {
			want = impl.ErrRange
		}
		if got := impl.TableFault(table); got != want {
			t.Errorf("TableFault(%d) = %d", table, got)
		}
	}
}

// Each of the four pairs, by all tables: those that have it, and those that have it not.
func TestFusePairs(t *testing.T) {
	for _, c := range []struct {
		bit  int64
		ops  string
		want string
	}{
		{1, "const (a 5), return", "constret (a 5)"},
		{2, "local 0 2, return", "localret 0 2"},
		{4, "local 0 2, local 0 1, tail 1", "locals 0 2 0 1, tail 1"},
		{8, "local 0 1, ifnot 4, global a, return, global b, return", "localifnot 0 1 3, global a, return, global b, return"},
	} {
		for table := range int64(16) {
			want := inCode(c.ops)
			if table&c.bit != 0 {
				want = inCode(c.want)
			}
			got := impl.FuseCode(inCode(c.ops), table)
			if got.Code != impl.OK || !equalCode(got.Blocks, want) {
				t.Errorf("%s by %d: %s", c.ops, table, madeText(got))
			}
			if fused := impl.FusedIn(got.Blocks); fused.Code != impl.OK || fused.Value != min(table&c.bit, 1) {
				t.Errorf("%s by %d: FusedIn = %+v", c.ops, table, fused)
			}
		}
		checkRemade(t, inCode(c.ops), allTables()...)
		checkRemade(t, inCode(c.want), allTables()...)
	}
}

// All kinds side by side, where nobody comes to them: no other two are one.
func TestFuseKinds(t *testing.T) {
	told := map[int64]int{}
	kinds := []string{"const 1", "local 0 1", "global a", "closure 2", "jump 0", "ifnot 0", "pop", "set x", "call 0", "tail 0", "return",
		"constret 2", "localret 0 1", "locals 0 1 0 2", "localifnot 0 1 0"}
	for _, first := range kinds {
		for _, second := range kinds {
			code := inCode("constret 1, jump 1, " + first + ", " + second + ", pop")
			if first == "closure 2" || second == "closure 2" {
				code = append(code, codeOf("3: localret 1 2")...)
			}
			if held := holdByHand(code); held.fault != impl.OK && first != second {
				t.Fatalf("%s, %s: %s", first, second, held.wrong)
			}
			checkRemade(t, code, allTables()...)
			bit := bitOf(opOf(first).Kind, opOf(second).Kind)
			told[bit]++
			for table := range int64(16) {
				if got := impl.FuseCode(code, table); got.Code == impl.OK && int64(len(got.Blocks[1].Ops)) != 5-min(table&bit, 1) {
					t.Errorf("%s, %s by %d: %s", first, second, table, madeText(got))
				}
			}
		}
	}
	if len(told) != 5 || told[0] != len(kinds)*len(kinds)-4 {
		t.Errorf("so many pairs: %v", told)
	}
}

// What is compiled of each kind of core.
func TestFuseCompiled(t *testing.T) {
	for _, c := range []struct {
		form  string
		want  string
		fused int64
	}{
		{"5", "0: constret 5", 1},
		{"x", "0: global x, return", 0},
		{"(lambda () #f)", "0: closure 1, return | 0: constret #f", 1},
		{"(lambda (x) x)", "0: closure 1, return | 1: localret 0 0", 1},
		{"(lambda (x) (lambda (y) x))", "0: closure 1, return | 1: closure 2, return | 1: localret 1 0", 1},
		{"(set! x 1)", "0: const 1, set x, return", 0},
		{"(define x 1)", "0: const 1, def x, return", 0},
		{"(f 1 x 3)", "0: global f, const 1, global x, const 3, tail 3", 0},
		{"(if a 1 2)", "0: global a, ifnot 3, constret 1, constret 2", 2},
		{"(begin 5 1)", "0: const 5, pop, constret 1", 1},
		{"(begin (if a 1 2) 3)", "0: global a, ifnot 4, const 1, jump 5, const 2, pop, constret 3", 1},
		{"(lambda (x) (if x x 2))", "0: closure 1, return | 1: localifnot 0 0 2, localret 0 0, constret 2", 3},
		{"(lambda (f x y) (f x y))", "0: closure 1, return | 3: locals 0 0 0 1, local 0 2, tail 2", 1},
		{"(lambda (f x y) (f x y x))", "0: closure 1, return | 3: locals 0 0 0 1, locals 0 2 0 1, tail 3", 2},
		{"(lambda (x y) (+ x y))", "0: closure 1, return | 2: global +, locals 0 0 0 1, tail 2", 1},
		{"(lambda (x y) (x (if y x y)))", "0: closure 1, return | 2: locals 0 0 0 1, ifnot 4, local 0 0, jump 5, local 0 1, tail 1", 1},
		{"(lambda (x) (f (if x x 1) x))", "0: closure 1, return | 1: global f, localifnot 0 0 4, local 0 0, jump 5, const 1, local 0 0, tail 2", 1},
		{"(lambda (x y) (begin (if x x y) y))", "0: closure 1, return | 2: localifnot 0 0 3, local 0 0, jump 4, local 0 1, pop, localret 0 1", 2},
		{"(let ((x 1) (y 2)) (if x (if y x 3) (f y)))", "0: closure 1, const 1, const 2, tail 2 | 2: localifnot 0 0 4, localifnot 0 1 3, localret 0 0, constret 3, global f, local 0 1, tail 1", 4},
	} {
		code := impl.PlainCode(c.form).Blocks
		got := impl.FuseCode(code, 15)
		if got.Code != impl.OK || !equalCode(got.Blocks, codeOf(c.want)) {
			t.Errorf("%s: %s", c.form, madeText(got))
		}
		if fused := impl.FusedIn(got.Blocks); fused != (impl.IntResult{Value: c.fused}) {
			t.Errorf("%s: FusedIn = %+v", c.form, fused)
		}
		if impl.FusedIn(code) != (impl.IntResult{}) {
			t.Errorf("%s: FusedIn of the plain code = %+v", c.form, impl.FusedIn(code))
		}
		checkRemade(t, code, allTables()...)
		checkRemade(t, got.Blocks, allTables()...)
		checkRemade(t, impl.PeepCode(code).Blocks, allTables()...)
	}
}

// The first pair that is met, then on behind it.
func TestFuseInOrder(t *testing.T) {
	checkToldFuse(t, 15, []turned{
		{"local 0 0, return", "localret 0 0"},
		{"local 0 0, local 0 1, tail 1", "locals 0 0 0 1, tail 1"},
		{"local 0 0, local 0 1, local 0 2, tail 2", "locals 0 0 0 1, local 0 2, tail 2"},
		{"local 0 0, local 0 1, local 0 2, local 0 0, tail 3", "locals 0 0 0 1, locals 0 2 0 0, tail 3"},
		{"local 0 0, local 0 1, local 0 2, local 0 0, local 0 1, call 3, tail 1", "locals 0 0 0 1, locals 0 2 0 0, local 0 1, call 3, tail 1"},
		{"local 0 0, local 0 1, pop, return", "locals 0 0 0 1, pop, return"},
		// A local goes with the one ahead of it, and not with what is behind.
		{"local 0 0, local 0 1, ifnot 3, return", "locals 0 0 0 1, ifnot 2, return"},
		{"local 0 0, local 0 1, local 0 2, ifnot 4, tail 1", "locals 0 0 0 1, localifnot 0 2 2, tail 1"},
		{"const 1, return, local 0 0, local 0 1, return", "constret 1, locals 0 0 0 1, return"},
		{"const 1, return, local 0 0, local 0 1, local 0 2, return", "constret 1, locals 0 0 0 1, localret 0 2"},
		// What does not stand side by side.
		{"const 1, pop, const 2, return", "const 1, pop, constret 2"},
		{"local 0 0, const 1, local 0 1, tail 2", "local 0 0, const 1, local 0 1, tail 2"},
		{"local 0 0, const 1, pop, return", "local 0 0, const 1, pop, return"},
		{"global a, return", "global a, return"},
		{"const 1, ifnot 4, const 1, return, const 2, return", "const 1, ifnot 3, constret 1, constret 2"},
		{"const 1, local 0 0, tail 1", "const 1, local 0 0, tail 1"},
		// Nobody comes to them.
		{"const 1, return, const 2, return", "constret 1, constret 2"},
		{"constret 1, local 0 0, local 0 1", "constret 1, locals 0 0 0 1"},
		{"constret 1, local 0 0, return", "constret 1, localret 0 0"},
		{"constret 1, return, return", "constret 1, return, return"},
		{"constret 1, local 0 0, ifnot 0", "constret 1, localifnot 0 0 0"},
		{"constret 1, local 0 0", "constret 1, local 0 0"},
		{"constret 1, const 1", "constret 1, const 1"},
	})
	checkToldFuse(t, 4, []turned{
		{"local 0 0, local 0 1, local 0 2, tail 2", "locals 0 0 0 1, local 0 2, tail 2"},
		{"local 0 0, pop, local 0 1, return", "local 0 0, pop, local 0 1, return"},
		{"local 0 0, local 0 1, local 0 2, ifnot 4, tail 1", "locals 0 0 0 1, local 0 2, ifnot 3, tail 1"},
	})
	checkToldFuse(t, 8, []turned{
		{"local 0 0, local 0 1, ifnot 3, return", "local 0 0, localifnot 0 1 2, return"},
		{"local 0 0, local 0 1, local 0 2, ifnot 4, tail 1", "local 0 0, local 0 1, localifnot 0 2 3, tail 1"},
	})
	checkToldFuse(t, 11, []turned{
		{"constret 1, local 0 0, local 0 1, return", "constret 1, local 0 0, localret 0 1"},
		{"constret 1, local 0 0, local 0 1, local 0 2, return", "constret 1, local 0 0, local 0 1, localret 0 2"},
	})
	checkToldFuse(t, 0, []turned{
		{"const 1, return, local 0 0, local 0 1, return", "const 1, return, local 0 0, local 0 1, return"},
		{"constret 1, locals 0 0 0 1, localret 0 0", "constret 1, locals 0 0 0 1, localret 0 0"},
	})
}

// Two side by side of which the second one is a target: of what is ahead of them, of what is behind them, of itself.
func TestFuseSecondLedTo(t *testing.T) {
	var list []turned
	for _, ops := range []string{
		"global a, ifnot 4, const 1, jump 5, const 2, return",
		"global a, ifnot 4, local 0 0, jump 5, local 0 1, return",
		"const 1, jump 3, const 2, return",
		"local 0 0, jump 3, local 0 1, return",
		"global a, jump 3, local 0 0, local 0 1, tail 1",
		"global a, jump 3, local 0 0, ifnot 4, global b, return",
		"const 1, return, jump 1",
		"local 0 0, return, jump 1",
		"const 1, return, ifnot 1",
		"local 0 0, return, localifnot 0 0 1",
		"constret 1, local 0 0, local 0 1, jump 2",
		"constret 1, local 0 0, ifnot 0, jump 2",
		"constret 1, local 0 0, local 0 1, localifnot 0 0 2",
		"constret 1, const 1, return, ifnot 2",
		"constret 1, local 0 0, ifnot 2",
	} {
		list = append(list, turned{ops, ops})
	}
	checkToldFuse(t, 15, list)
}

// Two side by side of which the first one is a target, of themselves as well.
func TestFuseFirstLedTo(t *testing.T) {
	checkToldFuse(t, 15, []turned{
		{"jump 1, const 1, return", "jump 1, constret 1"},
		{"jump 1, local 0 0, return", "jump 1, localret 0 0"},
		{"jump 1, local 0 0, local 0 1, tail 1", "jump 1, locals 0 0 0 1, tail 1"},
		{"jump 1, local 0 0, ifnot 4, constret 1, constret 2", "jump 1, localifnot 0 0 3, constret 1, constret 2"},
		{"global a, ifnot 4, const 1, return, const 2, return", "global a, ifnot 3, constret 1, constret 2"},
		{"global a, ifnot 5, local 0 0, local 0 1, tail 1, local 0 1, local 0 2, tail 1", "global a, ifnot 4, locals 0 0 0 1, tail 1, locals 0 1 0 2, tail 1"},
		{"localifnot 0 0 3, const 1, return, local 0 0, return", "localifnot 0 0 2, constret 1, localret 0 0"},
		{"local 0 0, ifnot 0, constret 1", "localifnot 0 0 0, constret 1"},
		{"const 1, pop, local 0 0, ifnot 2, constret 1", "const 1, pop, localifnot 0 0 2, constret 1"},
		{"const 1, return, jump 0", "constret 1, jump 0"},
		{"local 0 0, return, local 0 1, return, jump 2", "localret 0 0, localret 0 1, jump 1"},
		// The second one of two, and the first one of two others.
		{"constret 1, local 0 0, local 0 1, ifnot 2", "constret 1, local 0 0, localifnot 0 1 2"},
		{"global a, jump 3, local 0 0, local 0 1, local 0 2, tail 2", "global a, jump 3, local 0 0, locals 0 1 0 2, tail 2"},
		{"constret 1, local 0 0, local 0 1, local 0 2, jump 3", "constret 1, locals 0 0 0 1, local 0 2, jump 2"},
		{"constret 1, local 0 0, local 0 1, local 0 2, jump 2", "constret 1, local 0 0, locals 0 1 0 2, jump 2"},
	})
}

// Targets ahead of what becomes one and behind it, of operations ahead of it and behind it.
func TestFuseTargets(t *testing.T) {
	checkToldFuse(t, 15, []turned{
		{"jump 3, const 1, return, const 2, return", "jump 2, constret 1, constret 2"},
		{"local 0 0, local 0 1, jump 4, pop, tail 1", "locals 0 0 0 1, jump 3, pop, tail 1"},
		{"const 9, pop, local 0 0, local 0 1, pop, pop, jump 0", "const 9, pop, locals 0 0 0 1, pop, pop, jump 0"},
		{"local 0 0, local 0 1, const 1, pop, jump 2", "locals 0 0 0 1, const 1, pop, jump 1"},
		{"const 1, return, jump 2", "constret 1, jump 1"},
		{"const 1, ifnot 4, const 1, return, global a, return", "const 1, ifnot 3, constret 1, global a, return"},
		{"local 0 0, local 0 1, const 1, ifnot 2, tail 1", "locals 0 0 0 1, const 1, ifnot 1, tail 1"},
		{"const 5, pop, const 1, return, const 1, ifnot 0", "const 5, pop, constret 1, const 1, ifnot 0"},
		{"const 5, pop, const 1, return, const 1, ifnot 5", "const 5, pop, constret 1, const 1, ifnot 4"},
		{"localifnot 0 0 3, const 1, return, constret 2", "localifnot 0 0 2, constret 1, constret 2"},
		{"local 0 0, local 0 1, localifnot 0 0 2, tail 1", "locals 0 0 0 1, localifnot 0 0 1, tail 1"},
		{"const 1, pop, const 1, return, localifnot 0 0 0", "const 1, pop, constret 1, localifnot 0 0 0"},
		{"const 1, return, const 1, return, localifnot 0 0 4", "constret 1, constret 1, localifnot 0 0 2"},
		{"local 0 0, ifnot 6, local 0 1, ifnot 8, const 1, return, const 2, return, const 3, return", "localifnot 0 0 3, localifnot 0 1 4, constret 1, constret 2, constret 3"},
		{"const 1, pop, local 0 0, ifnot 0, const 1, return", "const 1, pop, localifnot 0 0 0, constret 1"},
		{"local 0 0, ifnot 0, local 0 1, ifnot 2, local 0 2, ifnot 0, constret 1", "localifnot 0 0 0, localifnot 0 1 1, localifnot 0 2 0, constret 1"},
	})
	// By tables that have not all of them.
	checkToldFuse(t, 1, []turned{
		{"local 0 0, ifnot 6, local 0 1, ifnot 8, const 1, return, const 2, return, const 3, return", "local 0 0, ifnot 5, local 0 1, ifnot 6, constret 1, constret 2, constret 3"},
	})
	checkToldFuse(t, 8, []turned{
		{"local 0 0, ifnot 6, local 0 1, ifnot 8, const 1, return, const 2, return, const 3, return", "localifnot 0 0 4, localifnot 0 1 6, const 1, return, const 2, return, const 3, return"},
	})
}

// Each block has places of its own.
func TestFuseBlocks(t *testing.T) {
	code := codeOf("0: const 1, pop, global a, ifnot 6, const 2, return, closure 1, closure 2, tail 1 | 1: local 0 0, ifnot 4, const 1, return, closure 3, return | 2: local 0 1, local 0 0, local 0 1, tail 2 | 0: local 1 0, return")
	want := codeOf("0: const 1, pop, global a, ifnot 5, constret 2, closure 1, closure 2, tail 1 | 1: localifnot 0 0 2, constret 1, closure 3, return | 2: locals 0 1 0 0, local 0 1, tail 2 | 0: localret 1 0")
	if got := impl.FuseCode(code, 15); got.Code != impl.OK || !equalCode(got.Blocks, want) || impl.FusedIn(got.Blocks) != (impl.IntResult{Value: 5}) {
		t.Errorf("fused: %s", madeText(got))
	}
	if got := impl.UnfuseCode(want); got.Code != impl.OK || !equalCode(got.Blocks, code) {
		t.Errorf("taken apart: %s", madeText(got))
	}
	checkRemade(t, code, allTables()...)
	checkRemade(t, want, allTables()...)
}

// Code that is fused already: what is two at once stays so, whatever is beside it.
func TestFuseAgain(t *testing.T) {
	checkToldFuse(t, 15, []turned{
		{"constret 1", "constret 1"},
		{"localifnot 0 0 2, constret 1, localret 0 0", "localifnot 0 0 2, constret 1, localret 0 0"},
		{"locals 0 0 0 1, local 0 2, tail 2", "locals 0 0 0 1, local 0 2, tail 2"},
		{"local 0 0, locals 0 1 0 2, tail 2", "local 0 0, locals 0 1 0 2, tail 2"},
		{"locals 0 0 0 1, local 0 2, local 0 0, tail 3", "locals 0 0 0 1, locals 0 2 0 0, tail 3"},
		{"local 0 0, localifnot 0 1 2, return", "local 0 0, localifnot 0 1 2, return"},
		{"localifnot 0 0 3, const 1, return, const 2, return", "localifnot 0 0 2, constret 1, constret 2"},
		{"constret 1, const 2, localret 0 0, return", "constret 1, const 2, localret 0 0, return"},
		{"constret 1, locals 0 0 0 1, return", "constret 1, locals 0 0 0 1, return"},
		{"constret 1, locals 0 0 0 1, ifnot 0", "constret 1, locals 0 0 0 1, ifnot 0"},
	})
	for _, c := range someHeld(300) {
		for table := range int64(16) {
			once := impl.FuseCode(c, table).Blocks
			checkMade(t, fmt.Sprintf("fused again by %d", table), once, impl.FuseCode(once, table), impl.CodeResult{Blocks: once})
		}
		checkRemade(t, impl.FuseCode(c, 6).Blocks, allTables()...)
	}
	// A jump to what is two at once stays one.
	checkToldPeep(t, []turned{
		{"jump 1, constret 1", "jump 1, constret 1"},
		{"jump 1, localret 0 0", "jump 1, localret 0 0"},
		{"jump 1, localifnot 0 0 2, constret 1", "jump 1, localifnot 0 0 2, constret 1"},
		{"jump 1, locals 0 0 0 1, tail 1", "jump 1, locals 0 0 0 1, tail 1"},
		{"jump 2, constret 1, jump 1", "jump 1, constret 1, jump 1"},
		// A test that is two at once leads where it did.
		{"localifnot 0 0 2, constret 1, jump 3, constret 2", "localifnot 0 0 2, constret 1, jump 3, constret 2"},
		{"const 1, localifnot 0 0 3, return, jump 2", "const 1, localifnot 0 0 3, return, return"},
		{"constret 1, localifnot 0 2 2, jump 3, jump 0", "constret 1, localifnot 0 2 2, jump 0, jump 0"},
	})
}

func TestUnfuse(t *testing.T) {
	for _, c := range []turned{
		{"constret (a 1)", "const (a 1), return"},
		{"localret 0 2", "local 0 2, return"},
		{"locals 0 2 0 1, tail 1", "local 0 2, local 0 1, tail 1"},
		{"localifnot 0 1 2, constret 1, constret 2", "local 0 1, ifnot 4, const 1, return, const 2, return"},
		{"localifnot 0 1 0, constret 1", "local 0 1, ifnot 0, const 1, return"},
		{"localifnot 0 1 1, constret 1", "local 0 1, ifnot 2, const 1, return"},
		{"jump 1, constret 1", "jump 1, const 1, return"},
		{"jump 2, constret 1, constret 2", "jump 3, const 1, return, const 2, return"},
		{"constret 1, jump 0, jump 1, jump 2", "const 1, return, jump 0, jump 2, jump 3"},
		{"locals 0 0 0 1, jump 1", "local 0 0, local 0 1, jump 2"},
		{"locals 0 0 0 1, const 1, ifnot 1, tail 1", "local 0 0, local 0 1, const 1, ifnot 2, tail 1"},
		{"const 1, ifnot 3, constret 1, localret 0 0", "const 1, ifnot 4, const 1, return, local 0 0, return"},
		{"const 1, return", "const 1, return"},
		{"jump 0", "jump 0"},
		{"global a, ifnot 0, global b, return", "global a, ifnot 0, global b, return"},
	} {
		code := inCode(c.ops)
		if got := impl.UnfuseCode(code); got.Code != impl.OK || !equalCode(got.Blocks, inCode(c.want)) {
			t.Errorf("%s is taken apart to %s", c.ops, madeText(got))
		}
		checkRemade(t, code, allTables()...)
	}
}

// fullBlock: operations that are so many when they are taken apart, the first ones of them two at once.
func fullBlock(args int64, two string, apart int, twos int) impl.Block {
	ops := append([]impl.Op{opNums(impl.OpJump, 1), opData(impl.OpConstReturn, datNum(-1, 1))}, slices.Repeat([]impl.Op{opOf(two)}, twos-1)...)
	for len(ops)+twos < apart {
		ops = append(ops, opNums(impl.OpJump, int64(len(ops))))
	}
	return block(args, ops...)
}

// A block of just MaxOps operations when it is taken apart, and of one more.
func TestUnfuseMany(t *testing.T) {
	for _, two := range []string{"constret 5", "localret 0 0", "locals 0 0 0 0", "localifnot 0 0 0"} {
		for _, twos := range []int{1, 2, 50, 99} {
			for _, apart := range []int{199, 200, 201, 202} {
				full, small := fullBlock(1, two, apart, twos), codeOf("1: constret 7")[0]
				if len(full.Ops)+twos != apart {
					t.Fatalf("%d operations, %d of them two at once", len(full.Ops), twos)
				}
				want := int64(impl.OK)
				if apart > 200 {
					want = impl.ErrMany
				}
				for _, code := range [][]impl.Block{
					append(codeOf("0: closure 1, return"), full),
					append(codeOf("0: closure 1, closure 2, tail 1"), small, full),
					append(codeOf("0: closure 1, closure 2, tail 1"), full, small),
					append(codeOf("0: closure 1, closure 2, tail 1"), full, full),
				} {
					got := impl.UnfuseCode(code)
					if got.Code != want || want == impl.OK && len(got.Blocks) != len(code) {
						t.Errorf("%d of %s taken apart to %d: %d", twos, two, apart, got.Code)
					}
					checkRemade(t, code, 0, 15, 16)
				}
			}
		}
	}
	// The form itself, and all blocks as full as they can be.
	for _, c := range []struct {
		apart int
		want  int64
	}{{200, impl.OK}, {201, impl.ErrMany}} {
		code := blocks(fullBlock(0, "constret 5", c.apart, 60))
		if got := impl.UnfuseCode(code); got.Code != c.want {
			t.Errorf("the form itself taken apart to %d: %d", c.apart, got.Code)
		}
		checkRemade(t, code, 0, 15)
	}
	all := chainCode(60, 1)
	for i := range all {
		all[i].Ops = append(all[i].Ops, fullBlock(1, "constret 5", 200-len(all[i].Ops), 70).Ops[2:]...)
		for k, o := range all[i].Ops {
			if o.Kind == impl.OpJump {
				all[i].Ops[k].A = int64(k)
			}
		}
	}
	if got := impl.UnfuseCode(all); got.Code != impl.OK || impl.FusedIn(all).Value < 60*60 {
		t.Errorf("all blocks: %d, %+v", got.Code, impl.FusedIn(all))
	}
	checkRemade(t, all, 0, 15)
	// As many as can be made one, and back.
	ops := slices.Repeat([]impl.Op{opNums(impl.OpLocal, 0, 0)}, 199)
	locals := append(codeOf("0: closure 1, return"), block(1, append(ops, opNums(impl.OpJump, 199))...))
	fused := impl.FuseCode(locals, 4)
	if fused.Code != impl.OK || impl.FusedIn(fused.Blocks).Value != 99 || !equalCode(impl.UnfuseCode(fused.Blocks).Blocks, locals) {
		t.Errorf("locals: %d, %+v", fused.Code, impl.FusedIn(fused.Blocks))
	}
	checkRemade(t, locals, 4, 11)
}

func TestPeepJumps(t *testing.T) {
	checkToldPeep(t, []turned{
		{"const 1, return", "const 1, return"},
		{"jump 1, const 1, return", "jump 1, const 1, return"},
		// A jump to a jump, to a jump to a jump, ahead and back.
		{"jump 1, jump 2, global a, return", "jump 2, jump 2, global a, return"},
		{"jump 1, jump 2, jump 3, global a, return", "jump 3, jump 3, jump 3, global a, return"},
		{"jump 4, constret 1, jump 1, jump 2, jump 3", "jump 1, constret 1, jump 1, jump 1, jump 1"},
		{"jump 3, constret 1, jump 4, jump 2, jump 1", "jump 1, constret 1, jump 1, jump 1, jump 1"},
		{"global a, pop, jump 4, constret 1, jump 0", "global a, pop, jump 0, constret 1, jump 0"},
		{"constret 1, jump 2, jump 3, jump 0", "constret 1, jump 0, jump 0, jump 0"},
		// A test that leads to a jump.
		{"const 1, ifnot 3, constret 1, jump 4, constret 2", "const 1, ifnot 4, constret 1, jump 4, constret 2"},
		{"const 1, ifnot 3, constret 1, jump 5, constret 3, jump 4", "const 1, ifnot 4, constret 1, jump 4, constret 3, jump 4"},
		{"const 1, ifnot 3, constret 1, jump 0", "const 1, ifnot 0, constret 1, jump 0"},
		{"const 1, ifnot 3, constret 1, constret 2", "const 1, ifnot 3, constret 1, constret 2"},
		{"constret 1, ifnot 2, jump 0", "constret 1, ifnot 0, jump 0"},
		// A jump to what is no jump.
		{"global f, jump 2, tail 0", "global f, jump 2, tail 0"},
		{"global f, jump 2, ifnot 3, constret 1", "global f, jump 2, ifnot 3, constret 1"},
		{"global f, jump 2, set x, return", "global f, jump 2, set x, return"},
	})
}

// Jumps that lead round: as many steps as the block has operations.
func TestPeepRound(t *testing.T) {
	checkToldPeep(t, []turned{
		{"jump 0", "jump 0"},
		{"const 1, jump 1", "const 1, jump 1"},
		{"jump 1, jump 1", "jump 1, jump 1"},
		{"jump 2, constret 1, jump 2", "jump 2, constret 1, jump 2"},
		{"const 1, ifnot 3, constret 1, jump 3", "const 1, ifnot 3, constret 1, jump 3"},
		{"constret 1, jump 2, jump 1, jump 3", "constret 1, jump 2, jump 1, jump 3"},
		{"jump 1, jump 0", "jump 1, jump 0"},
		{"jump 1, jump 0, constret 1", "jump 0, jump 1, constret 1"},
		{"jump 1, jump 0, constret 1, constret 2", "jump 1, jump 0, constret 1, constret 2"},
		{"const 1, jump 2, jump 1", "const 1, jump 1, jump 2"},
		{"const 1, ifnot 3, constret 1, jump 4, jump 3", "const 1, ifnot 4, constret 1, jump 3, jump 4"},
		{"jump 1, jump 2, jump 0", "jump 1, jump 2, jump 0"},
		{"jump 1, jump 2, jump 0, constret 1", "jump 2, jump 0, jump 1, constret 1"},
		{"jump 1, jump 2, jump 3, jump 2", "jump 3, jump 2, jump 3, jump 2"},
	})
}

func TestPeepReturns(t *testing.T) {
	checkToldPeep(t, []turned{
		// A jump that leads to a return, at once and by other jumps.
		{"const 1, jump 2, return", "const 1, return, return"},
		{"const 1, jump 3, return, jump 2", "const 1, return, return, return"},
		{"const 1, jump 2, jump 3, jump 4, return", "const 1, return, return, return, return"},
		{"const 1, jump 4, return, jump 2, jump 3", "const 1, return, return, return, return"},
		{"global a, ifnot 4, const 1, jump 5, const 2, return", "global a, ifnot 4, const 1, return, const 2, return"},
		{"const 1, return, jump 1", "const 1, return, return"},
		{"constret 1, return, jump 3, jump 1", "constret 1, return, return, return"},
		// A test that does.
		{"const 1, const 2, ifnot 4, return, return", "const 1, const 2, ifnot 4, return, return"},
		{"const 1, const 2, ifnot 4, return, jump 3", "const 1, const 2, ifnot 3, return, return"},
		{"const 1, const 2, ifnot 5, return, jump 3, jump 4", "const 1, const 2, ifnot 3, return, return, return"},
		{"const 1, localifnot 0 0 3, return, return", "const 1, localifnot 0 0 3, return, return"},
	})
	// So it can be that more is one then.
	code := inCode("global a, ifnot 4, const 1, jump 5, const 2, return")
	if got := impl.FusedIn(impl.FuseCode(impl.PeepCode(code).Blocks, 15).Blocks); got != (impl.IntResult{Value: 2}) || impl.FusedIn(impl.FuseCode(code, 15).Blocks) != (impl.IntResult{}) {
		t.Errorf("peeped and fused: %+v", got)
	}
}

// What is compiled of forms in forms.
func TestPeepCompiled(t *testing.T) {
	for _, c := range []turned{
		{"(+ (if a (if b 1 2) 3) 4)", "0: global +, global a, ifnot 9, global b, ifnot 7, const 1, jump 10, const 2, jump 10, const 3, const 4, tail 2"},
		{"(f (if a b (if c d e)))", "0: global f, global a, ifnot 5, global b, jump 10, global c, ifnot 9, global d, jump 10, global e, tail 1"},
		{"(set! x (if a (if b 1 2) 3))", "0: global a, ifnot 8, global b, ifnot 6, const 1, jump 9, const 2, jump 9, const 3, set x, return"},
		{"(if (if a (if b c d) e) 1 2)", "0: global a, ifnot 8, global b, ifnot 6, global c, jump 9, global d, jump 9, global e, ifnot 12, const 1, return, const 2, return"},
		{"(f (begin (if a 1 2) 3))", "0: global f, global a, ifnot 5, const 1, jump 6, const 2, pop, const 3, tail 1"},
		{"(lambda (x) (f (if x (if x (if x 1 2) 3) 4)))", "0: closure 1, return | 1: global f, local 0 0, ifnot 13, local 0 0, ifnot 11, local 0 0, ifnot 9, const 1, jump 14, const 2, jump 14, const 3, jump 14, const 4, tail 1"},
	} {
		code := impl.PlainCode(c.ops).Blocks
		if got := impl.PeepCode(code); got.Code != impl.OK || !equalCode(got.Blocks, codeOf(c.want)) {
			t.Errorf("%s is peeped to %s", c.ops, madeText(got))
		}
		checkRemade(t, code, allTables()...)
		checkRemade(t, codeOf(c.want), allTables()...)
	}
}

// Code with a fault, beside tables with one and without.
func TestTurnWrong(t *testing.T) {
	for _, c := range []heldTold{
		{"0:", impl.ErrForm},
		{"0: global A, return", impl.ErrText},
		{"0: constret 1, call 4", impl.ErrRange},
		{"0: constret 1, jump 1000", impl.ErrRange},
		{"4: constret 1", impl.ErrRange},
		{"0: constret 1, const A", impl.ErrMany},
		{"1: constret 1", impl.ErrForm},
		{"0: const 1", impl.ErrForm},
		{"0: return", impl.ErrForm},
		{"0: jump 1", impl.ErrForm},
		{"0: constret 1, ifnot 2", impl.ErrForm},
		{"0: constret 1, localifnot 0 0 2", impl.ErrForm},
		{"0: closure 0, return", impl.ErrForm},
		{"0: closure 1, return", impl.ErrForm},
		{"0: constret 1 | 0: constret 1", impl.ErrForm},
		{"0: local 0 0, return", impl.ErrRange},
		{"0: local 0 0, ifnot 0, constret 1", impl.ErrRange},
		{"0: closure 1, return | 1: local 0 0, local 0 1, tail 1", impl.ErrRange},
		{"0: closure 1, return | 1: locals 0 0 1 0, tail 1", impl.ErrRange},
		{"0: closure 1, return | 0: const 1, def x, return", impl.ErrForm},
	} {
		code := codeOf(c.code)
		if impl.CodeFault(code) != c.want {
			t.Errorf("CodeFault of %s: %d", c.code, impl.CodeFault(code))
		}
		for _, table := range allTables() {
			if got := impl.FuseCode(code, table); got.Code != impl.CodeFault(code) {
				t.Errorf("%s by %d: %d", c.code, table, got.Code)
			}
		}
		checkRemade(t, code, allTables()...)
	}
}

func TestTurnWrongOps(t *testing.T) {
	for _, w := range wrongOps() {
		for _, code := range [][]impl.Block{blocks(block(0, w.op)), append(inCode("constret 1"), block(0, opNums(impl.OpPop), w.op)), blocks(block(0, opData(impl.OpConstReturn, datNum(-1, 1)), w.op))} {
			checkRemade(t, code, 0, 15, -1, 16)
			if got := impl.FuseCode(code, 16); got.Code != w.code {
				t.Errorf("%d, not %d, of\n%s", got.Code, w.code, someText(code))
			}
		}
	}
	many := slices.Repeat(inCode("constret 1")[1:], 61)
	full := fullBlock(0, "constret 1", 201, 60)
	for _, c := range []struct {
		code []impl.Block
		want [3]int64 // of peeping, of fusing by 16, of taking apart
	}{
		{nil, [3]int64{impl.ErrForm, impl.ErrForm, impl.ErrForm}},
		{blocks(), [3]int64{impl.ErrForm, impl.ErrForm, impl.ErrForm}},
		{many, [3]int64{impl.ErrMany, impl.ErrMany, impl.ErrMany}},
		{many[:60], [3]int64{impl.ErrForm, impl.ErrForm, impl.ErrForm}},
		{make([]impl.Block, 100000), [3]int64{impl.ErrMany, impl.ErrMany, impl.ErrMany}},
		{blocks(block(0, make([]impl.Op, 201)...)), [3]int64{impl.ErrMany, impl.ErrMany, impl.ErrMany}},
		{blocks(block(0, make([]impl.Op, 200)...)), [3]int64{impl.ErrForm, impl.ErrForm, impl.ErrForm}},
		{blocks(block(0, opData(impl.OpConstReturn, datNum(-1, 1)))), [3]int64{impl.OK, impl.ErrRange, impl.OK}},
		// Too many when it is taken apart, beside another fault.
		{blocks(full), [3]int64{impl.OK, impl.ErrRange, impl.ErrMany}},
		{blocks(block(1, full.Ops...)), [3]int64{impl.ErrForm, impl.ErrForm, impl.ErrForm}},
		{blocks(block(0, slices.Concat(full.Ops, codeOf("0: local 0 0")[0].Ops)...)), [3]int64{impl.ErrRange, impl.ErrRange, impl.ErrRange}},
		{blocks(block(0, slices.Concat(full.Ops, codeOf("0: global A")[0].Ops)...)), [3]int64{impl.ErrText, impl.ErrText, impl.ErrText}},
		{blocks(block(math.MaxInt64, impl.Op{Kind: math.MinInt64, A: math.MaxInt64})), [3]int64{impl.ErrRange, impl.ErrRange, impl.ErrRange}},
		{blocks(block(0, opNums(impl.OpJump, math.MinInt64))), [3]int64{impl.ErrRange, impl.ErrRange, impl.ErrRange}},
	} {
		got := [3]int64{impl.PeepCode(c.code).Code, impl.FuseCode(c.code, 16).Code, impl.UnfuseCode(c.code).Code}
		if got != c.want {
			t.Errorf("%v, not %v, of\n%.300s", got, c.want, someText(c.code))
		}
		checkRemade(t, c.code, allTables()...)
	}
}

// smallBlocks tells all blocks of up to so many operations, each of them one of those that are told, that hold as the second block of code.
func smallBlocks(most int, ops []string, tell func(code []impl.Block)) {
	var kinds []impl.Op
	for _, text := range ops {
		kinds = append(kinds, opOf(text))
	}
	first := codeOf("0: closure 1, return")[0]
	var grow func(ops []impl.Op)
	grow = func(ops []impl.Op) {
		b := block(1, ops...)
		if _, wrong := heightsByHand(b); wrong == "" {
			tell(blocks(first, b))
		}
		if len(ops) < most {
			for _, o := range kinds {
				grow(append(ops[:len(ops):len(ops)], o))
			}
		}
	}
	grow(nil)
}

func TestFuseSmall(t *testing.T) {
	held := 0
	smallBlocks(4, []string{"const 1", "local 0 0", "pop", "return", "tail 1", "constret 1", "localret 0 0", "locals 0 0 0 0",
		"jump 0", "jump 1", "jump 2", "jump 3", "ifnot 0", "ifnot 1", "ifnot 2", "ifnot 3", "localifnot 0 0 0", "localifnot 0 0 2", "localifnot 0 0 3"}, func(code []impl.Block) {
		held++
		checkRemade(t, code, 15, int64(held%16))
	})
	if held < 5000 {
		t.Errorf("only %d hold", held)
	}
}

func TestPeepSmall(t *testing.T) {
	held := 0
	smallBlocks(5, []string{"const 1", "return", "constret 1", "jump 0", "jump 1", "jump 2", "jump 3", "jump 4", "ifnot 3"}, func(code []impl.Block) {
		held++
		checkMade(t, "peeped", code, impl.PeepCode(code), wantPeep(code))
	})
	if held < 5000 {
		t.Errorf("only %d hold", held)
	}
}

// someTurned: code that holds, stretched again and again, so that jumps lead to jumps and two at once are in it or are not.
func someTurned(count int) [][]impl.Block {
	s := dice(1212)
	list := someHeld(count)
	for i, code := range list {
		if i%3 == 0 {
			code = wantUnfuse(code).Blocks
		}
		for range s.next(4) * s.next(12) {
			k := s.next(len(code))
			if code[k] = s.stretch(code[k]); i%3 == 0 {
				code[k] = unfuseByHand(code[k])
			}
		}
		if holdByHand(code).fault == impl.OK {
			list[i] = code
		}
	}
	return list
}

func TestFuseSome(t *testing.T) {
	s := dice(1113)
	told := map[string]int{}
	for _, code := range someTurned(1500) {
		checkRemade(t, code, 15, int64(s.next(16)), int64(s.next(20))-2)
		if len(code) > 0 && !equalCode(wantPeep(code).Blocks, code) {
			told["peeped"]++
		}
		if fused := wantFuse(code, 15).Blocks; !equalCode(fused, code) {
			told["fused"]++
			checkRemade(t, fused, 15, int64(s.next(16)))
		}
		if !equalCode(wantUnfuse(code).Blocks, code) {
			told["taken apart"]++
		}
		loose := s.loosen(code)
		checkRemade(t, loose, 15, 16)
		told[fmt.Sprint(holdByHand(loose).fault)]++
	}
	for _, what := range []string{"peeped", "fused", "taken apart", "0", "1", "3"} {
		if told[what] < 10 {
			t.Errorf("%s: %d times", what, told[what])
		}
	}
}

func TestFuseLines(t *testing.T) {
	s := dice(1114)
	for _, lines := range scripts()[:80] {
		for _, line := range lines {
			if made := impl.PlainCode(line); made.Code == impl.OK {
				checkRemade(t, made.Blocks, 15, int64(s.next(16)))
				checkRemade(t, impl.PeepCode(made.Blocks).Blocks, 15, int64(s.next(16)))
			}
		}
	}
}

// doneIn tells what is done in a block, one by one, if tests come out as the dice tell, up to so many: two at once one behind the other, and jumps as nothing.
func doneIn(b impl.Block, s dice, most int) []string {
	var done []string
	do := func(o impl.Op) {
		if targetOf(o) >= 0 {
			o.A = 0
		}
		done = append(done, wantCodeText(blocks(block(0, o))))
	}
	at := int64(0)
	for still := 0; len(done) < most && still <= len(b.Ops); still++ {
		o := b.Ops[at]
		if o.Kind == impl.OpJump {
			at = o.A
			continue
		}
		still = 0
		if isTwo(o) {
			first, second := apartByHand(o)
			do(first)
			do(second)
		} else {
			do(o)
		}
		if ending(o) >= 0 {
			return done
		}
		if at++; targetOf(o) >= 0 && s.next(2) > 0 {
			at = targetOf(o)
		}
	}
	return append(done[:min(len(done), most)], "and so on")
}

// checkSameDone: all blocks do the same, whatever tests come to.
func checkSameDone(t *testing.T, what string, a, b []impl.Block) {
	t.Helper()
	if len(a) != len(b) {
		t.Fatalf("%s: %d blocks, not %d", what, len(b), len(a))
	}
	for i := range a {
		if a[i].Args != b[i].Args {
			t.Fatalf("%s: another number of Args:\n%s", what, someText(b))
		}
		for seed := range dice(3) {
			if x, y := doneIn(a[i], seed+5, 40), doneIn(b[i], seed+5, 40); !slices.Equal(x, y) {
				t.Fatalf("%s: %v, not %v, of\n%s\nand\n%s", what, y, x, someText(a), someText(b))
			}
		}
	}
}

// checkPromise12 is for code without fault.
func checkPromise12(t *testing.T, code []impl.Block) {
	t.Helper()
	holds := func(what string, made impl.CodeResult) []impl.Block {
		if held := holdByHand(made.Blocks); made.Code != impl.OK || held.fault != impl.OK || impl.CodeFault(made.Blocks) != impl.OK {
			t.Fatalf("%s does not hold (%s): %s\nof\n%s", what, held.wrong, madeText(made), someText(code))
		}
		checkSameDone(t, what, code, made.Blocks)
		return made.Blocks
	}
	if peeped := holds("peeped", impl.PeepCode(code)); impl.CountOps(peeped) != impl.CountOps(code) || impl.FusedIn(peeped) != impl.FusedIn(code) {
		t.Fatalf("peeped: %+v of\n%s", impl.CountOps(peeped), someText(code))
	}
	apart := impl.UnfuseCode(code)
	if apart.Code == impl.OK {
		holds("taken apart", apart)
	}
	if impl.FusedIn(code).Value == 0 && !equalCode(apart.Blocks, code) {
		t.Fatalf("taken apart without two at once: %s\nof\n%s", madeText(apart), someText(code))
	}
	for table := range int64(16) {
		fused := holds(fmt.Sprintf("fused by %d", table), impl.FuseCode(code, table))
		less := impl.CountOps(code).Value - impl.CountOps(fused).Value
		if less != impl.FusedIn(fused).Value-impl.FusedIn(code).Value {
			t.Fatalf("fused by %d: %d less of\n%s", table, less, someText(code))
		}
		again := impl.UnfuseCode(fused)
		if again.Code != apart.Code || !equalCode(again.Blocks, apart.Blocks) || !impl.SameCode(again.Blocks, apart.Blocks) {
			t.Fatalf("fused by %d and taken apart: %s\nof\n%s", table, madeText(again), someText(code))
		}
	}
}

// Promise 12: code that is peeped holds, and has as many operations; code that is fused holds, and is as it was when it is taken apart.
func TestPromise12(t *testing.T) {
	for _, code := range someTurned(600) {
		checkPromise12(t, code)
	}
	for _, c := range someCores(400, 50, 8) {
		if made := impl.CompileCore(c); made.Code == impl.OK {
			checkPromise12(t, made.Blocks)
			checkPromise12(t, impl.PeepCode(made.Blocks).Blocks)
		}
	}
	for _, lines := range scripts()[:30] {
		for _, line := range lines {
			if made := impl.PlainCode(line); made.Code == impl.OK {
				checkPromise12(t, made.Blocks)
			}
		}
	}
	s := dice(1112)
	held := 0
	for _, code := range someTurned(800) {
		if loose := s.loosen(code); len(loose) > 0 && impl.CodeFault(loose) == impl.OK {
			held++
			checkPromise12(t, loose)
		}
	}
	if held < 100 {
		t.Errorf("only %d still hold", held)
	}
}

func TestPromise12Small(t *testing.T) {
	count := 0
	smallBlocks(4, []string{"const 1", "local 0 0", "return", "constret 1", "locals 0 0 0 0", "jump 0", "jump 1", "jump 2", "jump 3", "ifnot 1", "ifnot 3", "localifnot 0 0 2"}, func(code []impl.Block) {
		if count++; count%4 == 0 {
			checkPromise12(t, code)
		}
	})
	if count < 2000 {
		t.Errorf("only %d hold", count)
	}
}

// Promise 1: the same again behind other calls, in new memory that can be written into, and no argument is changed.
func TestPromise1Fuse(t *testing.T) {
	s := dice(1111)
	list := append(someTurned(150), nil, make([]impl.Block, 61), blocks(block(4)), blocks(block(0)), blocks(impl.Block{Ops: []impl.Op{}}))
	for _, code := range list[:150] {
		list = append(list, s.loosen(code))
	}
	ways := []func(code []impl.Block) impl.CodeResult{impl.PeepCode, impl.UnfuseCode}
	for _, table := range []int64{0, 1, 2, 4, 8, 15, 16} {
		ways = append(ways, func(code []impl.Block) impl.CodeResult { return impl.FuseCode(code, table) })
	}
	for _, code := range list {
		kept, fused := cloneCode(code), impl.FusedIn(code)
		for i, way := range ways {
			first := way(code)
			other, told := way(code), cloneCode(first.Blocks)
			for _, name := range namesIn(first.Blocks) {
				for _, given := range append(namesIn(code), namesIn(other.Blocks)...) {
					if !apart(name, given) {
						t.Fatalf("way %d hands a name on, of\n%s", i, someText(code))
					}
				}
			}
			spoilCode(first.Blocks)
			if again := way(code); again.Code != first.Code || !equalCode(again.Blocks, told) || !equalCode(other.Blocks, told) {
				t.Fatalf("way %d: %s, then %s, of\n%s", i, someText(told), madeText(again), someText(kept))
			}
			if !equalCode(code, kept) {
				t.Fatalf("way %d changes\n%s", i, someText(kept))
			}
		}
		if impl.FusedIn(code) != fused {
			t.Fatalf("FusedIn = %+v, then %+v, of\n%s", fused, impl.FusedIn(code), someText(code))
		}
	}
}

// Promise 1: what is two at once and what is in a greater list is written into, and the argument stays.
func TestPromise1FuseShared(t *testing.T) {
	code := codeOf("0: const (a b), pop, closure 1, return | 1: const (a b), return, constret (c d), jump 1")
	for i := range code {
		code[i].Ops = append(make([]impl.Op, 0, 400), code[i].Ops...)
		for k := range code[i].Ops {
			code[i].Ops[k].Data = append(make([]impl.Datum, 0, 200), code[i].Ops[k].Data...)
		}
	}
	code = append(make([]impl.Block, 0, 100), code...)
	kept := someText(code)
	for _, made := range []impl.CodeResult{impl.PeepCode(code), impl.FuseCode(code, 0), impl.FuseCode(code, 15), impl.UnfuseCode(code)} {
		if made.Code != impl.OK {
			t.Fatalf("code %d", made.Code)
		}
		spoilCode(made.Blocks)
		spoilCode(append(made.Blocks, impl.Block{Args: -1}))
		if someText(code) != kept || strings.Contains(someText(code[:3]), "-1") {
			t.Fatalf("%s is changed to %s", kept, someText(code[:3]))
		}
	}
}
