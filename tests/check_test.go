package tests

import (
	"fmt"
	"math"
	"slices"
	"strconv"
	"strings"
	"testing"

	"loop.example/g00349/impl"
)

// opOf reads an operation, told as CodeText tells it.
func opOf(text string) impl.Op {
	word, rest, _ := strings.Cut(text, " ")
	kind := int64(slices.IndexFunc(opWords(), func(has string) bool { return has == word || strings.HasPrefix(has, word+" ") }))
	has := strings.Fields(opWords()[kind])[1:]
	switch {
	case len(has) > 0 && has[0] == "name":
		return opName(kind, rest)
	case len(has) > 0 && has[0] == "data":
		return opData(kind, impl.ReadData(rest).Data...)
	}
	var nums []int64
	for _, n := range strings.Fields(rest) {
		nums = append(nums, intOf(n))
	}
	return opNums(kind, nums...)
}

func intOf(text string) int64 {
	n, err := strconv.ParseInt(text, 10, 64)
	if err != nil {
		panic(err)
	}
	return n
}

// codeOf reads code: blocks with a bar between, each of them its Args, a colon, and its operations with a comma between.
func codeOf(text string) []impl.Block {
	var list []impl.Block
	for _, part := range strings.Split(text, " | ") {
		args, ops, _ := strings.Cut(part, ":")
		b := block(intOf(args))
		for _, o := range strings.Split(ops, ",") {
			if o = strings.TrimSpace(o); o != "" {
				b.Ops = append(b.Ops, opOf(o))
			}
		}
		list = append(list, b)
	}
	return list
}

// oneBlock reads operations as a block of two parameters.
func oneBlock(ops string) impl.Block { return codeOf("2: " + ops)[0] }

// change: how many items an operation takes from a stack, and how many it puts.
func change(o impl.Op) (takes, puts int64) {
	switch o.Kind {
	case impl.OpConst, impl.OpLocal, impl.OpGlobal, impl.OpClosure:
		return 0, 1
	case impl.OpIfNot, impl.OpPop:
		return 1, 0
	case impl.OpSet, impl.OpDef:
		return 1, 1
	case impl.OpCall:
		return o.A + 1, 1
	case impl.OpLocalLocal:
		return 0, 2
	}
	return 0, 0
}

// ending: how high the stack has to be at an operation behind which the block does not go on; -1, if it does.
func ending(o impl.Op) int64 {
	switch o.Kind {
	case impl.OpReturn:
		return 1
	case impl.OpTail:
		return o.A + 1
	case impl.OpConstReturn, impl.OpLocalReturn:
		return 0
	}
	return -1
}

// leadsTo: the places that an operation leads to, there or not.
func leadsTo(b impl.Block, at int64) []int64 {
	var list []int64
	o := b.Ops[at]
	if target := targetOf(o); target >= 0 {
		list = append(list, target)
	}
	if o.Kind != impl.OpJump && ending(o) < 0 {
		list = append(list, at+1)
	}
	return list
}

// heightsByHand goes along all ways through a block, one behind the other: how high the stack is ahead of each operation, and what is wrong with it; "", if nothing is.
func heightsByHand(b impl.Block) (heights []int64, wrong string) {
	if len(b.Ops) == 0 {
		return nil, "no operations"
	}
	if slices.ContainsFunc(b.Ops, func(o impl.Op) bool { return targetOf(o) >= int64(len(b.Ops)) }) {
		return nil, "a target that is none"
	}
	heights = slices.Repeat([]int64{-1}, len(b.Ops))
	var walk func(at, height int64)
	walk = func(at, height int64) {
		if at >= int64(len(b.Ops)) {
			wrong = "it ends without leaving"
			return
		}
		if heights[at] >= 0 {
			if heights[at] != height {
				wrong = "two heights"
			}
			return
		}
		heights[at] = height
		takes, puts := change(b.Ops[at])
		if ends := ending(b.Ops[at]); ends >= 0 && height != ends {
			wrong = "it leaves with another height"
		} else if takes > height {
			wrong = "it takes too many"
		}
		for _, next := range leadsTo(b, at) {
			if wrong == "" {
				walk(next, height-takes+puts)
			}
		}
	}
	walk(0, 0)
	return heights, wrong
}

func wantHeights(b impl.Block) impl.IntsResult {
	if code := wantBlockFault(b); code != impl.OK {
		return impl.IntsResult{Code: code}
	}
	heights, wrong := heightsByHand(b)
	if wrong != "" {
		return impl.IntsResult{Code: impl.ErrForm}
	}
	return impl.IntsResult{List: heights}
}

// localsIn: the places of parameters that an operation fetches, each how many out and which one.
func localsIn(o impl.Op) [][2]int64 {
	switch o.Kind {
	case impl.OpLocal, impl.OpLocalReturn, impl.OpLocalIfNot:
		return [][2]int64{{o.A, o.B}}
	case impl.OpLocalLocal:
		return [][2]int64{{o.A, o.B}, {o.C, o.D}}
	}
	return nil
}

// holdersOf: the blocks that have a closure of one, each as often as it has it.
func holdersOf(code []impl.Block, of int64) []int64 {
	var list []int64
	for i, b := range code {
		for _, o := range b.Ops {
			if o.Kind == impl.OpClosure && o.A == of {
				list = append(list, int64(i))
			}
		}
	}
	return list
}

type heldByHand struct {
	fault  int64
	wrong  string
	around []int64
}

// holdByHand tells whether code holds, and what keeps it from that.
func holdByHand(code []impl.Block) heldByHand {
	if fault := wantBlocksFault(code); fault != impl.OK {
		return heldByHand{fault: fault, wrong: "chapter 9"}
	}
	not := func(fault int64, wrong string) heldByHand { return heldByHand{fault: fault, wrong: wrong} }
	if len(code) == 0 {
		return not(impl.ErrForm, "no blocks")
	}
	if code[0].Args != 0 {
		return not(impl.ErrForm, "Args of the first block")
	}
	for i, b := range code {
		if _, wrong := heightsByHand(b); wrong != "" {
			return not(impl.ErrForm, wrong)
		}
		for _, o := range b.Ops {
			if o.Kind == impl.OpClosure && (o.A <= int64(i) || o.A >= int64(len(code))) {
				return not(impl.ErrForm, "a closure of a block that is not behind")
			}
		}
	}
	around := []int64{-1}
	for i := range code[1:] {
		holders := holdersOf(code, int64(i+1))
		if len(holders) != 1 {
			return not(impl.ErrForm, []string{"a block of no closure", "a block of two closures"}[min(len(holders), 1)])
		}
		around = append(around, holders[0])
	}
	for i, b := range code {
		for _, o := range b.Ops {
			if wrong := placeByHand(code, around, int64(i), o); wrong != "" {
				return not(impl.ErrRange, wrong)
			}
			if o.Kind == impl.OpDef && i > 0 {
				return not(impl.ErrForm, "a definition")
			}
		}
	}
	return heldByHand{around: around}
}

// placeByHand goes out from a block as often as each local of an operation tells.
func placeByHand(code []impl.Block, around []int64, block int64, o impl.Op) string {
	for _, local := range localsIn(o) {
		at := block
		for range local[0] {
			at = around[max(at, 0)]
		}
		if at <= 0 {
			return "a local too many out"
		}
		if local[1] >= code[at].Args {
			return "a local of no parameter"
		}
	}
	return ""
}

func wantDeepest(code []impl.Block) int64 {
	var most int64
	for _, b := range code {
		heights, _ := heightsByHand(b)
		for i, height := range heights {
			if takes, puts := change(b.Ops[i]); height >= 0 {
				most = max(most, height, height-takes+puts)
			}
		}
	}
	return most
}

// someText is code as a text, also where it has a fault.
func someText(code []impl.Block) string {
	if wantBlocksFault(code) == impl.OK {
		return wantCodeText(code)
	}
	return fmt.Sprintf("%.900s", fmt.Sprintf("%+v", code))
}

func checkHeights(t *testing.T, b impl.Block) impl.IntsResult {
	t.Helper()
	got, want := impl.HeightsOf(b), wantHeights(b)
	if got.Code != want.Code || !slices.Equal(got.List, want.List) || got.Code != impl.OK && got.List != nil {
		t.Fatalf("HeightsOf = %+v, not %+v, of\n%s", got, want, someText(blocks(b)))
	}
	return got
}

// checkHeld asks all of the chapter; of blocks around those at the places that are told, and the edges.
func checkHeld(t *testing.T, code []impl.Block, places ...int64) heldByHand {
	t.Helper()
	want := holdByHand(code)
	if got := impl.CodeFault(code); got != want.fault {
		t.Fatalf("CodeFault = %d, not %d (%s), of\n%s", got, want.fault, want.wrong, someText(code))
	}
	deepest := impl.IntResult{Code: want.fault}
	if want.fault == impl.OK {
		deepest.Value = wantDeepest(code)
	}
	if got := impl.DeepestOf(code); got != deepest {
		t.Fatalf("DeepestOf = %+v, not %+v, of\n%s", got, deepest, someText(code))
	}
	for _, at := range append([]int64{0, int64(len(code)) - 1, int64(len(code)), -1}, places...) {
		around := impl.IntResult{Code: want.fault}
		switch {
		case want.fault != impl.OK:
		case at < 0 || at >= int64(len(code)):
			around.Code = impl.ErrRange
		case at == 0:
			around.Code = impl.ErrNone
		default:
			around.Value = want.around[at]
		}
		if got := impl.BlockAround(code, at); got != around {
			t.Fatalf("BlockAround of %d = %+v, not %+v, of\n%s", at, got, around, someText(code))
		}
	}
	for _, b := range code {
		checkHeights(t, b)
	}
	return want
}

func numsOf(text string) []int64 {
	var list []int64
	for _, n := range strings.Fields(text) {
		list = append(list, intOf(n))
	}
	return list
}

type heightsTold struct {
	ops  string
	want string
}

func checkToldHeights(t *testing.T, list []heightsTold) {
	t.Helper()
	for _, c := range list {
		if got := checkHeights(t, oneBlock(c.ops)); got.Code != impl.OK || !slices.Equal(got.List, numsOf(c.want)) {
			t.Errorf("HeightsOf %s: %+v, not %s", c.ops, got, c.want)
		}
	}
}

// Each kind of operation, with what it takes and puts.
func TestHeightsKinds(t *testing.T) {
	checkToldHeights(t, []heightsTold{
		{"const 1, return", "0 1"},
		{"local 0 0, return", "0 1"},
		{"global x, return", "0 1"},
		{"closure 1, return", "0 1"},
		{"const 1, const 2, pop, return", "0 1 2 1"},
		{"const 1, set x, return", "0 1 1"},
		{"const 1, def x, return", "0 1 1"},
		{"const 1, const 2, set x, pop, return", "0 1 2 2 1"},
		{"const 1, const 2, def x, pop, return", "0 1 2 2 1"},
		{"global f, call 0, return", "0 1 1"},
		{"global f, const 1, call 1, return", "0 1 2 1"},
		{"global f, const 1, const 2, call 2, return", "0 1 2 3 1"},
		{"global f, const 1, const 2, const 3, call 3, return", "0 1 2 3 4 1"},
		{"const 1, const 2, const 3, call 1, call 1, return", "0 1 2 3 2 1"},
		{"const 1, const 2, call 0, pop, return", "0 1 2 2 1"},
		{"global f, tail 0", "0 1"},
		{"global f, const 1, tail 1", "0 1 2"},
		{"global f, const 1, const 2, tail 2", "0 1 2 3"},
		{"global f, const 1, const 2, const 3, tail 3", "0 1 2 3 4"},
		{"constret 1", "0"},
		{"localret 0 0", "0"},
		{"const 1, pop, constret 1", "0 1 0"},
		{"const 1, pop, localret 0 0", "0 1 0"},
		{"locals 0 0 0 1, tail 1", "0 2"},
		{"const 1, locals 0 0 0 1, tail 2", "0 1 3"},
		{"locals 0 0 0 1, locals 0 0 0 0, call 3, return", "0 2 4 1"},
		{"jump 1, constret 1", "0 0"},
		{"const 1, jump 2, return", "0 1 1"},
		{"const 1, ifnot 3, constret 1, constret 2", "0 1 0 0"},
		{"const 1, const 2, ifnot 4, return, return", "0 1 2 1 1"},
		{"localifnot 0 0 2, constret 1, constret 2", "0 0 0"},
		{"const 1, localifnot 0 0 3, return, return", "0 1 1 1"},
		{"const 1, ifnot 2, constret 1", "0 1 0"},
		{"localifnot 0 0 1, constret 1", "0 0"},
	})
}

// Operations that nobody comes to: whatever they would do to the stack.
func TestHeightsUnreached(t *testing.T) {
	checkToldHeights(t, []heightsTold{
		{"constret 1, const 2, return", "0 -1 -1"},
		{"localret 0 0, pop", "0 -1"},
		{"const 1, return, pop, return", "0 1 -1 -1"},
		{"global f, tail 0, call 3, call 3", "0 1 -1 -1"},
		{"global f, const 1, tail 1, tail 0, return, constret 1", "0 1 2 -1 -1 -1"},
		{"constret 1, const 2", "0 -1"},
		{"constret 1, const 2, const 2, const 2, constret 1, localret 0 0", "0 -1 -1 -1 -1 -1"},
		{"jump 2, pop, constret 1", "0 -1 0"},
		{"jump 3, const 1, const 1, constret 1", "0 -1 -1 0"},
		{"jump 1, constret 1, jump 1", "0 0 -1"},
		{"constret 1, jump 1", "0 -1"},
		{"constret 1, jump 0", "0 -1"},
		{"constret 1, ifnot 0, ifnot 1, localifnot 0 0 0", "0 -1 -1 -1"},
		{"constret 1, jump 3, pop, jump 2", "0 -1 -1 -1"},
		{"jump 0, pop", "0 -1"},
		{"const 1, jump 3, set x, return, def x", "0 1 -1 1 -1"},
		{"localifnot 0 0 3, constret 1, pop, constret 2, locals 0 0 0 0, return", "0 0 -1 0 -1 -1"},
	})
	// It has another height there than one would have who comes from what nobody comes to.
	checkToldHeights(t, []heightsTold{
		{"jump 2, const 1, constret 1", "0 -1 0"},
		{"const 1, return, jump 1", "0 1 -1"},
		{"const 1, return, const 1, const 1, jump 0", "0 1 -1 -1 -1"},
	})
}

func TestHeightsJumps(t *testing.T) {
	checkToldHeights(t, []heightsTold{
		{"jump 0", "0"},
		{"const 1, jump 1", "0 1"},
		{"const 1, pop, jump 0", "0 1 0"},
		{"const 1, ifnot 0, constret 1", "0 1 0"},
		{"const 1, const 1, ifnot 1, return", "0 1 2 1"},
		{"localifnot 0 0 0, constret 1", "0 0"},
		{"const 1, localifnot 0 0 1, return", "0 1 1"},
		{"jump 2, constret 1, jump 1", "0 0 0"},
		{"jump 3, const 1, return, jump 1", "0 0 1 0"},
		{"jump 4, const 1, return, jump 1, jump 3", "0 0 1 0 0"},
		{"const 1, jump 5, return, jump 2, jump 3, jump 4", "0 1 1 1 1 1"},
		{"jump 5, locals 0 0 0 0, tail 1, const 1, ifnot 1, jump 3", "0 0 2 0 1 0"},
		{"jump 4, const 1, const 1, jump 6, const 1, jump 2, call 1, return", "0 -1 1 2 0 1 2 1"},
		{"global a, ifnot 4, global b, jump 5, global c, pop, constret 1", "0 1 0 1 0 1 0"},
	})
	// Each one is found by a jump back from the one behind it.
	ops := []impl.Op{opNums(impl.OpJump, 199), opData(impl.OpConstReturn, datNum(-1, 1))}
	for len(ops) < 200 {
		ops = append(ops, opNums(impl.OpJump, int64(len(ops))-1))
	}
	if got := checkHeights(t, block(0, ops...)); !slices.Equal(got.List, make([]int64, 200)) {
		t.Errorf("jumps back: %+v", got)
	}
	ops[1] = opReturn()
	if got := checkHeights(t, block(0, ops...)); got.Code != impl.ErrForm {
		t.Errorf("jumps back to a return: %+v", got)
	}
	// As high as a stack can be.
	ops = slices.Repeat([]impl.Op{opNums(impl.OpLocalLocal)}, 199)
	ops = append(ops, opNums(impl.OpJump, 199))
	if got := checkHeights(t, block(1, ops...)); got.Code != impl.OK || got.List[199] != 398 {
		t.Errorf("many: %+v", got)
	}
}

func TestHeightsWrong(t *testing.T) {
	for _, ops := range []string{
		"",
		// It ends without leaving.
		"const 1", "local 0 0", "closure 1", "locals 0 0 0 1", "const 1, pop", "const 1, set x", "const 1, def x", "global f, call 0", "const 1, ifnot 0", "localifnot 0 0 0",
		"jump 2, constret 1, const 1", "localifnot 0 0 2, constret 1, const 1",
		// A target that is none, whether one comes to it or not.
		"jump 1", "jump 999", "jump 2, constret 1", "localifnot 0 0 2, constret 1", "localifnot 0 0 999, constret 1", "const 1, ifnot 3, constret 1", "const 1, ifnot 999, constret 1",
		"constret 1, jump 2", "constret 1, ifnot 2", "constret 1, localifnot 0 0 2", "constret 1, jump 999, constret 1", "const 1, return, ifnot 3",
		// One less than it takes.
		"pop, constret 1", "ifnot 1, constret 1", "set x, return", "def x, return", "call 0, return", "const 1, call 1, return", "const 1, const 2, call 2, return",
		"const 1, const 2, const 3, call 3, return", "const 1, pop, pop, constret 1", "const 1, ifnot 2, pop, constret 1", "jump 2, constret 1, pop, constret 1",
		// It leaves with another height.
		"return", "const 1, const 2, return", "tail 0", "const 1, const 2, tail 0", "const 1, tail 1", "const 1, const 2, const 3, tail 1", "const 1, const 2, const 3, tail 3",
		"const 1, constret 1", "const 1, localret 0 0", "locals 0 0 0 1, return", "localifnot 0 0 2, constret 1, return",
		// Two ways to one operation, with other heights.
		"localifnot 0 0 2, const 1, constret 1", "const 1, ifnot 3, const 1, constret 1", "const 1, jump 0", "const 1, const 1, jump 1", "const 1, const 2, ifnot 0, return",
		"global a, ifnot 4, global b, jump 5, locals 0 0 0 0, pop, constret 1", "locals 0 0 0 0, pop, jump 0",
		"const 1, ifnot 3, jump 4, const 1, jump 4", "jump 3, const 1, return, const 1, jump 1", "localifnot 0 0 3, const 1, jump 4, jump 4, jump 4",
	} {
		if got := checkHeights(t, oneBlock(ops)); got.Code != impl.ErrForm {
			t.Errorf("HeightsOf %s: %+v", ops, got)
		}
	}
	// A fault of chapter 9 is told ahead of these.
	for _, w := range wrongOps() {
		for _, b := range blocks(block(0, w.op), block(3, opNums(impl.OpPop), opNums(impl.OpJump, 999), w.op)) {
			if got := checkHeights(t, b); got.Code != w.code {
				t.Fatalf("HeightsOf = %+v, not %d, of %s", got, w.code, someText(blocks(b)))
			}
		}
	}
	pops := slices.Repeat([]impl.Op{opNums(impl.OpPop)}, 201)
	for _, c := range []struct {
		b    impl.Block
		want int64
	}{
		{block(4), impl.ErrRange},
		{block(-1, opData(impl.OpConstReturn, datNum(-1, 1))), impl.ErrRange},
		{block(4, pops...), impl.ErrRange},
		{block(3, pops...), impl.ErrMany},
		{block(3, pops[:200]...), impl.ErrForm},
		{block(math.MinInt64), impl.ErrRange},
		{block(0, make([]impl.Op, 100000)...), impl.ErrMany},
		{impl.Block{}, impl.ErrForm},
		{impl.Block{Ops: []impl.Op{}}, impl.ErrForm},
	} {
		if got := checkHeights(t, c.b); got.Code != c.want {
			t.Errorf("HeightsOf = %+v, not %d", got, c.want)
		}
	}
}

// What is compiled of each kind of core, at the end and not at the end: the heights of its blocks.
func TestHeightsCompiled(t *testing.T) {
	for _, c := range []struct {
		form    string
		heights string
		deepest int64
	}{
		{"5", "0 1", 1},
		{"x", "0 1", 1},
		{"(lambda () #f)", "0 1 | 0 1", 1},
		{"(lambda (x) x)", "0 1 | 0 1", 1},
		{"(set! x 1)", "0 1 1", 1},
		{"(define x 1)", "0 1 1", 1},
		{"(f)", "0 1", 1},
		{"(f 1 x 3)", "0 1 2 3 4", 4},
		{"(if a b c)", "0 1 0 1 0 1", 1},
		{"(begin a)", "0 1", 1},
		{"(begin a b c)", "0 1 0 1 0 1", 1},
		{"(begin 5 1)", "0 1 0 1", 1},
		{"(begin x 1)", "0 1 0 1", 1},
		{"(lambda (x) (begin x 1))", "0 1 | 0 1 0 1", 1},
		{"(begin (lambda (x) x) 1)", "0 1 0 1 | 0 1", 1},
		{"(begin (set! x 2) 1)", "0 1 1 0 1", 1},
		{"(begin (f x) 1)", "0 1 2 1 0 1", 2},
		{"(begin (if a b c) 1)", "0 1 0 1 0 1 0 1", 1},
		{"(begin (begin a b) 1)", "0 1 0 1 0 1", 1},
		{"(begin (+ 1 (if a 2 3)) (lambda (x) x))", "0 1 2 3 2 3 2 3 1 0 1 | 0 1", 3},
		{"(f (if (if a b c) d e))", "0 1 2 1 2 1 2 1 2 1 2", 2},
		{"(f (g (h x) y) z)", "0 1 2 3 4 3 4 2 3", 4},
		{"(lambda (x) (lambda (y) (f x y x)))", "0 1 | 0 1 | 0 1 2 3 4", 4},
		{"(f (lambda () (lambda (x) (+ x x))) (lambda (x y) 2))", "0 1 2 3 | 0 1 | 0 1 2 3 | 0 1", 3},
		{"(let ((x 1) (y 2)) (if x (begin y (f)) (g y)))", "0 1 2 3 | 0 1 0 1 0 1 0 1 2", 3},
	} {
		code := impl.PlainCode(c.form).Blocks
		told := strings.Split(c.heights, " | ")
		if held := checkHeld(t, code); held.fault != impl.OK || len(code) != len(told) {
			t.Errorf("%s: %d (%s), %d blocks", c.form, held.fault, held.wrong, len(code))
			continue
		}
		for i, b := range code {
			if got := impl.HeightsOf(b); !slices.Equal(got.List, numsOf(told[i])) {
				t.Errorf("%s: block %d: %+v, not %s", c.form, i, got, told[i])
			}
		}
		if got := impl.DeepestOf(code); got != (impl.IntResult{Value: c.deepest}) {
			t.Errorf("%s: DeepestOf = %+v, not %d", c.form, got, c.deepest)
		}
	}
}

type heldTold struct {
	code string
	want int64
}

func checkToldHeld(t *testing.T, list []heldTold) {
	t.Helper()
	for _, c := range list {
		code := codeOf(c.code)
		if held := checkHeld(t, code); held.fault != c.want || impl.CodeFault(code) != c.want {
			t.Errorf("CodeFault of %s: %d (%s by hand: %d), not %d", c.code, impl.CodeFault(code), held.wrong, held.fault, c.want)
		}
	}
}

func TestCodeFaultExamples(t *testing.T) {
	checkToldHeld(t, []heldTold{
		{"0: constret 1", impl.OK},
		{"0: const 1, return", impl.OK},
		{"0: jump 0", impl.OK},
		{"0:", impl.ErrForm},
		{"1: constret 1", impl.ErrForm},
		{"3: constret 1", impl.ErrForm},
		{"1: localret 0 0", impl.ErrForm},
		{"0: return", impl.ErrForm},
		{"0: const 1", impl.ErrForm},
		{"0: constret 1, jump 2", impl.ErrForm},
		{"0: constret 1, pop", impl.OK},
		// Closures.
		{"0: closure 1, return | 0: constret 1", impl.OK},
		{"0: closure 1, return | 3: constret 1", impl.OK},
		{"0: closure 0, return", impl.ErrForm},
		{"0: closure 1, return", impl.ErrForm},
		{"0: closure 999, return", impl.ErrForm},
		{"0: closure 2, return | 0: constret 1", impl.ErrForm},
		{"0: closure 1, return | 0: closure 1, return", impl.ErrForm},
		{"0: closure 1, return | 0: closure 0, return", impl.ErrForm},
		{"0: constret 1 | 0: constret 1", impl.ErrForm},
		{"0: closure 1, return | 0: constret 1 | 0: constret 1", impl.ErrForm},
		{"0: closure 2, return | 0: constret 1 | 0: constret 1", impl.ErrForm},
		{"0: closure 1, return | 0: closure 2, return | 0: constret 1", impl.OK},
		{"0: closure 1, return | 0: closure 2, return | 0: closure 1, return", impl.ErrForm},
		{"0: closure 2, return | 0: constret 1 | 0: closure 1, return", impl.ErrForm},
		{"0: closure 1, closure 2, tail 1 | 0: constret 1 | 0: constret 2", impl.OK},
		{"0: closure 2, closure 1, tail 1 | 0: constret 1 | 0: constret 2", impl.OK},
		{"0: closure 1, closure 1, tail 1 | 0: constret 1", impl.ErrForm},
		{"0: closure 1, closure 1, tail 1 | 0: constret 1 | 0: constret 1", impl.ErrForm},
		{"0: closure 1, closure 2, tail 1 | 0: closure 2, return | 0: constret 2", impl.ErrForm},
		{"0: closure 2, closure 1, tail 1 | 0: closure 2, return | 0: constret 2", impl.ErrForm},
		{"0: closure 1, return | 0: closure 3, closure 2, tail 1 | 0: constret 1 | 0: constret 1", impl.OK},
		// Closures that nobody comes to are asked too, and count.
		{"0: constret 1, closure 1 | 0: constret 1", impl.OK},
		{"0: constret 1, closure 1", impl.ErrForm},
		{"0: constret 1, closure 0", impl.ErrForm},
		{"0: closure 1, return, closure 1 | 0: constret 1", impl.ErrForm},
		{"0: closure 1, return | 0: constret 1, closure 1", impl.ErrForm},
		// Definitions.
		{"0: const 1, def x, return", impl.OK},
		{"0: constret 1, def x", impl.OK},
		{"0: const 1, def x, pop, const 1, def y, return", impl.OK},
		{"0: closure 1, def x, return | 0: const 1, set x, return", impl.OK},
		{"0: closure 1, return | 0: const 1, def x, return", impl.ErrForm},
		{"0: closure 1, return | 0: constret 1, def x", impl.ErrForm},
		{"0: closure 1, return | 0: closure 2, return | 0: const 1, def x, return", impl.ErrForm},
		// The stack in another block than the first one.
		{"0: closure 1, return | 0:", impl.ErrForm},
		{"0: closure 1, return | 0: return", impl.ErrForm},
		{"0: closure 1, return | 1: const 1, const 2, return", impl.ErrForm},
		{"0: closure 1, return | 1: constret 1, jump 2", impl.ErrForm},
	})
	for _, none := range [][]impl.Block{nil, blocks()} {
		if got := impl.CodeFault(none); got != impl.ErrForm {
			t.Errorf("CodeFault of no blocks = %d", got)
		}
		checkHeld(t, none)
	}
}

func TestCodeFaultLocals(t *testing.T) {
	checkToldHeld(t, []heldTold{
		{"0: local 0 0, return", impl.ErrRange},
		{"0: localret 0 0", impl.ErrRange},
		{"0: localifnot 0 0 1, constret 1", impl.ErrRange},
		{"0: locals 0 0 0 0, tail 1", impl.ErrRange},
		{"0: closure 1, return | 0: localret 0 0", impl.ErrRange},
		{"0: closure 1, return | 1: localret 0 0", impl.OK},
		{"0: closure 1, return | 1: localret 0 1", impl.ErrRange},
		{"0: closure 1, return | 1: localret 1 0", impl.ErrRange},
		{"0: closure 1, return | 3: localret 0 2", impl.OK},
		{"0: closure 1, return | 3: localret 0 3", impl.ErrRange},
		{"0: closure 1, return | 3: localret 999 0", impl.ErrRange},
		{"0: closure 1, return | 3: localret 0 999", impl.ErrRange},
		{"0: closure 1, return | 3: local 0 2, return", impl.OK},
		{"0: closure 1, return | 3: local 0 3, return", impl.ErrRange},
		{"0: closure 1, return | 3: local 1 0, return", impl.ErrRange},
		{"0: closure 1, return | 3: localifnot 0 2 1, constret 1", impl.OK},
		{"0: closure 1, return | 3: localifnot 0 3 1, constret 1", impl.ErrRange},
		{"0: closure 1, return | 3: localifnot 1 0 1, constret 1", impl.ErrRange},
		{"0: closure 1, return | 3: locals 0 2 0 1, tail 1", impl.OK},
		{"0: closure 1, return | 3: locals 0 3 0 0, tail 1", impl.ErrRange},
		{"0: closure 1, return | 3: locals 0 0 0 3, tail 1", impl.ErrRange},
		{"0: closure 1, return | 3: locals 1 0 0 0, tail 1", impl.ErrRange},
		{"0: closure 1, return | 3: locals 0 0 1 0, tail 1", impl.ErrRange},
		// The target of a localifnot is no local.
		{"0: closure 1, return | 1: localifnot 0 0 3, constret 1, constret 2, constret 3", impl.OK},
		// One around: its own number of parameters.
		{"0: closure 1, return | 3: closure 2, return | 1: localret 1 2", impl.OK},
		{"0: closure 1, return | 1: closure 2, return | 3: localret 1 1", impl.ErrRange},
		{"0: closure 1, return | 3: closure 2, return | 1: localret 0 1", impl.ErrRange},
		{"0: closure 1, return | 3: closure 2, return | 1: localret 2 0", impl.ErrRange},
		{"0: closure 1, return | 0: closure 2, return | 3: localret 1 0", impl.ErrRange},
		{"0: closure 1, return | 3: closure 2, return | 0: locals 1 0 1 2, tail 1", impl.OK},
		{"0: closure 1, return | 3: closure 2, return | 1: locals 0 0 1 2, tail 1", impl.OK},
		{"0: closure 1, return | 3: closure 2, return | 1: locals 1 2 0 1, tail 1", impl.ErrRange},
		// Several out.
		{"0: closure 1, return | 1: closure 2, return | 2: closure 3, return | 3: localret 2 0", impl.OK},
		{"0: closure 1, return | 1: closure 2, return | 2: closure 3, return | 3: localret 2 1", impl.ErrRange},
		{"0: closure 1, return | 1: closure 2, return | 2: closure 3, return | 3: localret 1 1", impl.OK},
		{"0: closure 1, return | 1: closure 2, return | 2: closure 3, return | 3: localret 1 2", impl.ErrRange},
		{"0: closure 1, return | 1: closure 2, return | 2: closure 3, return | 3: localret 3 0", impl.ErrRange},
		// Blocks beside one another are not around one another.
		{"0: closure 1, closure 2, tail 1 | 3: constret 1 | 1: localret 1 0", impl.ErrRange},
		{"0: closure 1, closure 2, tail 1 | 3: constret 1 | 0: localret 0 0", impl.ErrRange},
		{"0: closure 1, closure 2, tail 1 | 0: constret 1 | 3: localret 0 2", impl.OK},
		{"0: closure 1, return | 1: closure 2, closure 3, tail 1 | 3: constret 1 | 2: localret 1 1", impl.ErrRange},
		{"0: closure 1, return | 1: closure 2, closure 3, tail 1 | 3: constret 1 | 2: localret 1 0", impl.OK},
		{"0: closure 1, return | 1: closure 2, closure 3, tail 1 | 3: constret 1 | 2: localret 2 0", impl.ErrRange},
		{"0: closure 1, closure 3, tail 1 | 1: closure 2, return | 2: localret 1 0 | 3: localret 0 2", impl.OK},
		{"0: closure 1, closure 3, tail 1 | 1: closure 2, return | 2: localret 1 0 | 3: localret 1 0", impl.ErrRange},
		{"0: closure 2, closure 1, tail 1 | 2: closure 3, return | 3: constret 1 | 1: localret 1 1", impl.OK},
		{"0: closure 2, closure 1, tail 1 | 2: closure 3, return | 3: constret 1 | 1: localret 1 2", impl.ErrRange},
		{"0: closure 2, closure 1, tail 1 | 2: constret 1 | 3: closure 3, return | 1: localret 1 2", impl.OK},
		// Nobody comes to it, and it is asked all the same.
		{"0: constret 1, local 0 0", impl.ErrRange},
		{"0: constret 1, localret 0 0", impl.ErrRange},
		{"0: closure 1, return | 1: constret 1, local 0 0", impl.OK},
		{"0: closure 1, return | 1: constret 1, local 0 1", impl.ErrRange},
		{"0: closure 1, return | 1: constret 1, locals 0 0 1 0", impl.ErrRange},
		{"0: closure 1, return | 1: constret 1, localifnot 0 1 0", impl.ErrRange},
		// Around by a closure that nobody comes to.
		{"0: constret 1, closure 1 | 1: constret 1, closure 2 | 0: localret 1 0", impl.OK},
	})
}

// All numbers of a local, in all blocks of a chain.
func TestCodeFaultLocalsAll(t *testing.T) {
	for mix := range 4 * 4 * 4 {
		args := []int64{int64(mix % 4), int64(mix / 4 % 4), int64(mix / 16)}
		for within := range int64(4) {
			for a := range int64(5) {
				for b := range int64(5) {
					code := codeOf(fmt.Sprintf("0: closure 1, return | %d: closure 2, return | %d: closure 3, return | %d: constret 1", args[0], args[1], args[2]))
					code[within].Ops = append(code[within].Ops, opNums(impl.OpLocal, a, b))
					want := int64(impl.ErrRange)
					if a < within && b < args[within-1-a] {
						want = impl.OK
					}
					if held := checkHeld(t, code); held.fault != want {
						t.Fatalf("a local %d %d in block %d of %v: %d, not %d", a, b, within, args, held.fault, want)
					}
				}
			}
		}
	}
}

// Several faults: the first one by the rules.
func TestCodeFaultSeveral(t *testing.T) {
	checkToldHeld(t, []heldTold{
		// Chapter 9 of all blocks ahead of all else.
		{"1: return | 0: global A, return", impl.ErrText},
		{"0: return | 4: constret 1", impl.ErrRange},
		{"0: local 0 0, return | 0: global A", impl.ErrText},
		{"0: closure 0, return | 0: set A", impl.ErrText},
		{"0: | 0: jump 1000", impl.ErrRange},
		{"0: | 0: call 4", impl.ErrRange},
		// What is ErrForm ahead of locals, in blocks behind as well.
		{"2: localret 0 0", impl.ErrForm},
		{"0: localret 0 0 | 0: return", impl.ErrForm},
		{"0: localret 0 0, jump 2", impl.ErrForm},
		{"0: localret 0 0, closure 0", impl.ErrForm},
		{"0: localret 0 0 | 0: constret 1", impl.ErrForm},
		{"0: closure 1, return | 0: localret 0 0 | 0: constret 1", impl.ErrForm},
		{"0: closure 1, return | 0: localret 0 0, closure 2 | 0:", impl.ErrForm},
		{"0: closure 1, return | 0: localret 0 0, closure 2, closure 2 | 0: constret 1", impl.ErrForm},
		{"0: closure 1, return | 0: localret 0 0, closure 2 | 0: const 1", impl.ErrForm},
		// Locals and definitions, operation by operation.
		{"0: closure 1, return | 0: constret 1, local 0 0, def x", impl.ErrRange},
		{"0: closure 1, return | 0: constret 1, def x, local 0 0", impl.ErrForm},
		{"0: closure 1, closure 2, tail 1 | 0: constret 1, local 0 0 | 0: constret 1, def x", impl.ErrRange},
		{"0: closure 1, closure 2, tail 1 | 0: constret 1, def x | 0: constret 1, local 0 0", impl.ErrForm},
		{"0: closure 2, closure 1, tail 1 | 0: constret 1, def x | 0: constret 1, local 0 0", impl.ErrForm},
		{"0: closure 1, return, local 0 0 | 0: constret 1, def x", impl.ErrRange},
		{"0: closure 1, return, def x | 0: constret 1, local 0 0", impl.ErrRange},
		{"0: closure 1, return | 1: constret 1, local 0 0, def x, local 0 1", impl.ErrForm},
	})
	const1 := opData(impl.OpConstReturn, datNum(-1, 1))
	many := slices.Repeat(blocks(block(0, const1)), 61)
	if held := checkHeld(t, many); held.fault != impl.ErrMany {
		t.Errorf("too many blocks: %+v", held)
	}
	if held := checkHeld(t, many[:60]); held.fault != impl.ErrForm {
		t.Errorf("60 blocks of no closure: %+v", held)
	}
	for _, w := range wrongOps() {
		for _, code := range [][]impl.Block{
			blocks(block(0, w.op)),
			blocks(block(1, opReturn()), block(0), block(3, const1, w.op)),
			blocks(block(0, opNums(impl.OpLocalReturn), opNums(impl.OpClosure), w.op)),
		} {
			if held := checkHeld(t, code); held.fault != w.code {
				t.Fatalf("CodeFault of %s: %d, not %d", someText(code), held.fault, w.code)
			}
		}
	}
}

// chainCode: so many blocks, each within the one ahead of it.
func chainCode(count int, args int64) []impl.Block {
	var code []impl.Block
	for i := range count {
		code = append(code, block(args, opNums(impl.OpClosure, int64(i)+1), opReturn()))
	}
	code[0].Args = 0
	code[count-1].Ops = []impl.Op{opData(impl.OpConstReturn, datNum(-1, 1))}
	return code
}

func TestBlockAround(t *testing.T) {
	check := func(code []impl.Block, want ...int64) {
		t.Helper()
		if held := checkHeld(t, code, wrongPlaces(len(code))...); held.fault != impl.OK || len(code) != len(want)+1 {
			t.Fatalf("%d (%s), %d blocks", held.fault, held.wrong, len(code))
		}
		if got := impl.BlockAround(code, 0); got != (impl.IntResult{Code: impl.ErrNone}) {
			t.Errorf("BlockAround of the first one = %+v", got)
		}
		for i, around := range want {
			if got := impl.BlockAround(code, int64(i+1)); got != (impl.IntResult{Value: around}) {
				t.Errorf("BlockAround of %d = %+v, not %d", i+1, got, around)
			}
		}
		for _, at := range []int64{-1, int64(len(code)), int64(len(code)) + 1, 60, 999, 1 << 32, math.MaxInt64, math.MinInt64} {
			if got := impl.BlockAround(code, at); got != (impl.IntResult{Code: impl.ErrRange}) {
				t.Errorf("BlockAround of %d = %+v", at, got)
			}
		}
	}
	check(codeOf("0: constret 1"))
	check(codeOf("0: closure 1, return | 0: constret 1"), 0)
	check(codeOf("0: closure 1, return | 0: closure 2, return | 0: constret 1"), 0, 1)
	check(codeOf("0: closure 1, closure 2, tail 1 | 0: constret 1 | 0: constret 1"), 0, 0)
	check(codeOf("0: closure 1, closure 3, tail 1 | 0: closure 2, return | 0: constret 1 | 0: closure 4, return | 0: constret 1"), 0, 1, 0, 3)
	check(codeOf("0: closure 4, closure 1, tail 1 | 0: closure 3, closure 2, tail 1 | 0: constret 1 | 0: constret 1 | 0: constret 1"), 0, 1, 1, 0)
	check(codeOf("0: constret 1, closure 1 | 0: constret 1, closure 2 | 0: constret 1"), 0, 1)
	check(impl.PlainCode("(begin (lambda () ((lambda (x) x) (lambda (x y) x))) (f (lambda (x y z) z)))").Blocks, 0, 1, 1, 0)
	check(impl.PlainCode("(let ((x (lambda (y) y))) (lambda () x))").Blocks, 0, 1, 0)
	var before []int64
	for i := range int64(59) {
		before = append(before, i)
	}
	check(chainCode(60, 0), before...)
	all := chainCode(60, 0)
	all[0].Ops = slices.Clone(all[59].Ops)
	for i := range int64(59) {
		all[0].Ops = append(all[0].Ops, opNums(impl.OpClosure, i+1))
		all[i+1].Ops = all[59].Ops
	}
	check(all, make([]int64, 59)...)
	// A fault is told ahead of the place.
	for _, text := range []string{"0:", "0: global A", "0: closure 1, return", "0: local 0 0, return", "0: constret 1 | 0: constret 1"} {
		code := codeOf(text)
		for _, at := range []int64{-1, 0, 1, 99} {
			if got := impl.BlockAround(code, at); got != (impl.IntResult{Code: impl.CodeFault(code)}) || got.Code == impl.OK {
				t.Errorf("BlockAround of %d of %s = %+v", at, text, got)
			}
		}
	}
}

// The last block of a chain has a local of each of the others, and of none beside these.
func TestLocalsFarOut(t *testing.T) {
	for _, count := range []int{2, 3, 59, 60} {
		for a := range int64(62) {
			code := chainCode(count, 1)
			code[count-1].Ops = append(code[count-1].Ops, opNums(impl.OpLocal, a, 0))
			want := int64(impl.OK)
			if a >= int64(count)-1 {
				want = impl.ErrRange
			}
			if held := checkHeld(t, code); held.fault != want {
				t.Errorf("%d out of %d blocks: %d", a, count, held.fault)
			}
		}
	}
}

func TestDeepestOf(t *testing.T) {
	for _, c := range []struct {
		code string
		want int64
	}{
		{"0: constret 1", 0},
		{"0: jump 0", 0},
		{"0: const 1, return", 1},
		{"0: const 1, jump 1", 1},
		{"0: const 1, const 2, pop, return", 2},
		{"0: global f, const 1, const 2, const 3, call 3, return", 4},
		{"0: global f, const 1, const 2, const 3, tail 3", 4},
		{"0: global f, const 1, const 2, call 1, call 1, return", 3},
		{"0: constret 1, const 1, const 2, const 3", 0},
		{"0: const 1, return, const 1, const 2, const 3", 1},
		{"0: closure 1, return | 2: locals 0 0 0 1, tail 1", 2},
		{"0: closure 1, return | 2: localret 0 0", 1},
		{"0: constret 1, closure 1 | 2: localret 0 0", 0},
		{"0: constret 1, closure 1 | 2: localifnot 0 0 1, localret 0 1", 0},
		{"0: constret 1, closure 1 | 2: localret 0 0, locals 0 0 0 1", 0},
		{"0: constret 1, closure 1 | 2: locals 0 0 0 1, pop, return", 2},
		{"0: closure 1, const 2, const 3, call 2, return | 0: const 1, return", 3},
		{"0: closure 1, closure 2, tail 1 | 0: const 1, const 1, const 1, const 1, call 3, return | 0: constret 1", 4},
		{"0: closure 1, closure 2, tail 1 | 0: constret 1 | 0: const 1, const 1, const 1, const 1, call 3, return", 4},
	} {
		code := codeOf(c.code)
		if got := impl.DeepestOf(code); got != (impl.IntResult{Value: c.want}) {
			t.Errorf("DeepestOf %s = %+v, not %d", c.code, got, c.want)
		}
		checkHeld(t, code)
	}
	high := slices.Repeat([]impl.Op{opNums(impl.OpLocalLocal)}, 199)
	code := blocks(codeOf("0: closure 1, return")[0], block(1, append(high, opNums(impl.OpJump, 199))...))
	if got := impl.DeepestOf(code); got != (impl.IntResult{Value: 398}) {
		t.Errorf("DeepestOf the highest one = %+v", got)
	}
	for _, text := range []string{"0:", "0: const A", "0: return", "0: closure 0, return", "0: localret 0 0", "0: closure 1, return | 0: const 1, def x, return"} {
		code := codeOf(text)
		if got := impl.DeepestOf(code); got != (impl.IntResult{Code: impl.CodeFault(code)}) || got.Code == impl.OK {
			t.Errorf("DeepestOf %s = %+v", text, got)
		}
	}
	if got := impl.DeepestOf(nil); got != (impl.IntResult{Code: impl.ErrForm}) {
		t.Errorf("DeepestOf no blocks = %+v", got)
	}
}

// All blocks of up to four operations.
func TestHeightsSmall(t *testing.T) {
	var kinds []impl.Op
	for _, text := range []string{"const 1", "pop", "set x", "call 0", "call 1", "tail 0", "tail 1", "return", "constret 1", "localret 0 0", "locals 0 0 0 0",
		"jump 0", "jump 1", "jump 2", "jump 3", "ifnot 0", "ifnot 1", "ifnot 2", "ifnot 3", "localifnot 0 0 0", "localifnot 0 0 2", "localifnot 0 0 3"} {
		kinds = append(kinds, opOf(text))
	}
	held := 0
	var grow func(ops []impl.Op, more int)
	grow = func(ops []impl.Op, more int) {
		if got := checkHeights(t, block(1, ops...)); got.Code == impl.OK {
			held++
		}
		if more > 0 {
			for _, o := range kinds {
				grow(append(ops[:len(ops):len(ops)], o), more-1)
			}
		}
	}
	grow(nil, 4)
	if held < 5000 {
		t.Errorf("only %d hold", held)
	}
}

// All ways to put closures into four blocks, up to two of them into each one.
func TestClosuresSmall(t *testing.T) {
	var ways []impl.Block
	for a := range int64(5) {
		ways = append(ways, block(1, opNums(impl.OpClosure, a), opReturn()))
		for b := range int64(5) {
			ways = append(ways, block(1, opNums(impl.OpClosure, a), opReturn(), opNums(impl.OpClosure, b)))
		}
	}
	ways = append(ways, block(1, opData(impl.OpConstReturn, datNum(-1, 1))))
	told := map[int64]int{}
	for mix := range len(ways) * len(ways) * len(ways) {
		first := impl.Block{Ops: ways[mix%len(ways)].Ops}
		code := blocks(first, ways[mix/len(ways)%len(ways)], ways[mix/len(ways)/len(ways)], ways[len(ways)-1])
		if mix%5 == 0 {
			checkHeld(t, code, 1, 2)
		}
		want := holdByHand(code).fault
		if told[want]++; impl.CodeFault(code) != want {
			t.Fatalf("CodeFault = %d, not %d, of\n%s", impl.CodeFault(code), want, someText(code))
		}
	}
	// A chain, and four trees with two closures in one block, in both orders.
	if told[impl.OK] != 9 || len(told) != 2 {
		t.Errorf("so many hold: %v", told)
	}
}

func withTarget(o impl.Op, target int64) impl.Op {
	if o.Kind == impl.OpLocalIfNot {
		o.C = target
	} else {
		o.A = target
	}
	return o
}

// insertOps puts operations ahead of the one at a place. Who led there leads to the first one of these, or, with past, there still.
func insertOps(b impl.Block, at int64, past bool, ops ...impl.Op) impl.Block {
	list := slices.Clone(b.Ops)
	for i, o := range list {
		if target := targetOf(o); target > at || past && target == at {
			list[i] = withTarget(o, target+int64(len(ops)))
		}
	}
	return block(b.Args, slices.Insert(list, int(at), ops...)...)
}

// fuseAt makes the operation at a place and the next one two at once, where that can be.
func fuseAt(b impl.Block, at int64) impl.Block {
	if at+1 >= int64(len(b.Ops)) || slices.Contains(wantTargets(b), at+1) {
		return b
	}
	o, next := b.Ops[at], b.Ops[at+1]
	both := map[[2]int64]int64{{impl.OpConst, impl.OpReturn}: impl.OpConstReturn, {impl.OpLocal, impl.OpReturn}: impl.OpLocalReturn,
		{impl.OpLocal, impl.OpLocal}: impl.OpLocalLocal, {impl.OpLocal, impl.OpIfNot}: impl.OpLocalIfNot}[[2]int64{o.Kind, next.Kind}]
	if both == 0 {
		return b
	}
	list := slices.Delete(slices.Clone(b.Ops), int(at)+1, int(at)+2)
	list[at] = impl.Op{Kind: both, A: o.A, B: o.B, C: next.A, D: next.B, Data: o.Data}
	for i, x := range list {
		if target := targetOf(x); target > at {
			list[i] = withTarget(x, target-1)
		}
	}
	return block(b.Args, list...)
}

// alike: a place that one comes to with the same height as to another one.
func (s *dice) alike(heights []int64, at int64) int64 {
	for {
		if other := s.next(len(heights)); heights[other] == heights[at] {
			return int64(other)
		}
	}
}

// stretch turns a block that holds into another one that does: ways ahead and back, operations that nobody comes to, two at once.
func (s *dice) stretch(b impl.Block) impl.Block {
	heights, _ := heightsByHand(b)
	at := int64(s.next(len(b.Ops)))
	if heights[at] < 0 || len(b.Ops) > 190 {
		return b
	}
	moved := func(place, by int64) int64 {
		if place >= at {
			return place + by
		}
		return place
	}
	to, past, one := s.alike(heights, at), s.next(2) > 0, opData(impl.OpConst, datNum(-1, 1))
	switch s.next(6) {
	case 0:
		return insertOps(b, at, past, one, opNums(impl.OpIfNot, moved(to, 2)))
	case 1:
		if b.Args > 0 {
			return insertOps(b, at, past, opNums(impl.OpLocalIfNot, 0, b.Args-1, moved(to, 1)))
		}
		return insertOps(b, at, past, one, opNums(impl.OpPop))
	case 2:
		var idle []impl.Op
		for range 1 + s.next(3) {
			idle = append(idle, s.idleOp(b))
		}
		return insertOps(b, at, past, append([]impl.Op{opNums(impl.OpJump, at+1+int64(len(idle)))}, idle...)...)
	case 3:
		return insertOps(b, at, past, opNums(impl.OpJump, moved(to, 1)))
	default:
		return fuseAt(b, at)
	}
}

// idleOp: an operation for a place that nobody comes to.
func (s *dice) idleOp(b impl.Block) impl.Op {
	list := []string{"pop", "call 3", "return", "tail 2", "const 5", "set x", "constret 1", "global g", "ifnot 0", "jump 0"}
	if b.Args > 0 {
		list = append(list, "local 0 0", "localret 0 0", "locals 0 0 0 0", "localifnot 0 0 0")
	}
	return opOf(list[s.next(len(list))])
}

// someHeld: code that holds, compiled and stretched.
func someHeld(count int) [][]impl.Block {
	s := dice(0x9E3779B97F4A7C15)
	var list [][]impl.Block
	for _, c := range someCores(2*count, 50, 8) {
		code := impl.CompileCore(c).Blocks
		if len(code) == 0 || len(list) == count {
			continue
		}
		for range s.next(3 * len(code)) {
			i := s.next(len(code))
			code[i] = s.stretch(code[i])
		}
		list = append(list, code)
	}
	return list
}

// loosen turns something of code that holds, mostly so that it does not any more.
func (s *dice) loosen(code []impl.Block) []impl.Block {
	code = cloneCode(code)
	i := s.next(len(code))
	b := &code[i]
	if len(b.Ops) == 0 {
		return code
	}
	at := int64(s.next(len(b.Ops)))
	n := func(n int) int64 { return int64(s.next(n)) }
	one, pop := opData(impl.OpConst, datNum(-1, 1)), opNums(impl.OpPop)
	insert := func(ops ...impl.Op) { *b = insertOps(*b, at, s.next(2) > 0, ops...) }
	switch s.next(14) {
	case 0:
		b.Ops[at] = opNums([]int64{impl.OpJump, impl.OpIfNot}[s.next(2)], n(len(b.Ops)+2))
	case 1:
		for k, o := range b.Ops {
			if target := targetOf(o); target >= 0 {
				b.Ops[k] = withTarget(o, min(max(target+n(5)-2, 0), 999))
			}
		}
	case 2:
		insert(opNums(impl.OpLocal, n(4), n(4)), pop)
	case 3:
		insert(opNums(impl.OpLocalLocal, n(3), n(3), n(4), n(4)), pop, pop)
	case 4:
		insert(opNums(impl.OpClosure, n(len(code)+2)), pop)
	case 5:
		insert(one, opName(impl.OpDef, "x"), pop)
	case 6:
		b.Ops = slices.Delete(b.Ops, int(at), int(at)+1)
	case 7:
		b.Ops = slices.Insert(b.Ops, int(at), s.idleOp(*b))
	case 8:
		b.Args = n(4)
	case 9:
		code = append(code, block(n(4), opData(impl.OpConstReturn, datNum(-1, 1))))
	case 10:
		code = slices.Delete(code, i, i+1)
	case 11:
		j := s.next(len(code))
		code[i], code[j] = code[j], code[i]
	case 12:
		b.Ops[at] = s.op()
	default:
		return s.turn(code)
	}
	return code
}

func TestHeldSome(t *testing.T) {
	s := dice(10101)
	told := map[string]int{}
	for _, code := range someHeld(3000) {
		if held := checkHeld(t, code, int64(s.next(len(code)))); held.fault != impl.OK {
			t.Fatalf("%s:\n%s", held.wrong, someText(code))
		}
		for range 8 {
			loose := code
			for range 1 + s.next(3) {
				if len(loose) > 0 {
					loose = s.loosen(loose)
				}
			}
			told[checkHeld(t, loose, int64(s.next(70))).wrong]++
		}
	}
	for _, wrong := range []string{"", "chapter 9", "no blocks", "Args of the first block", "no operations", "a target that is none", "it ends without leaving", "two heights", "it leaves with another height", "it takes too many",
		"a closure of a block that is not behind", "a block of no closure", "a block of two closures", "a local too many out", "a local of no parameter", "a definition"} {
		if told[wrong] < 5 {
			t.Errorf("%q was met %d times", wrong, told[wrong])
		}
	}
	for range 3000 {
		checkHeld(t, s.code(3, 5))
	}
}

// stackByHand is a stack on which each operation does what it is, item by item.
type stackByHand struct {
	t     *testing.T
	block impl.Block
	items []int64
}

func (x *stackByHand) put() { x.items = append(x.items, 1) }

func (x *stackByHand) take() {
	if len(x.items) == 0 {
		x.t.Fatalf("nothing is left to take in\n%s", someText(blocks(x.block)))
	}
	x.items = x.items[:len(x.items)-1]
}

func (x *stackByHand) leave() {
	if len(x.items) > 0 {
		x.t.Fatalf("%d items are left in\n%s", len(x.items), someText(blocks(x.block)))
	}
}

// do does one operation, and tells where it goes on, -1 if it leaves the block; a test answers as is told.
func (x *stackByHand) do(at int64, isFalse bool) int64 {
	o := x.block.Ops[at]
	switch o.Kind {
	case impl.OpConst, impl.OpLocal, impl.OpGlobal, impl.OpClosure:
		x.put()
	case impl.OpLocalLocal:
		x.put()
		x.put()
	case impl.OpPop:
		x.take()
	case impl.OpSet, impl.OpDef:
		x.take()
		x.put()
	case impl.OpCall, impl.OpTail:
		for range o.A {
			x.take()
		}
		x.take()
		if o.Kind == impl.OpTail {
			x.leave()
			return -1
		}
		x.put()
	case impl.OpReturn:
		x.take()
		x.leave()
		return -1
	case impl.OpConstReturn, impl.OpLocalReturn:
		x.put()
		x.take()
		x.leave()
		return -1
	case impl.OpJump:
		return o.A
	case impl.OpIfNot, impl.OpLocalIfNot:
		if o.Kind == impl.OpLocalIfNot {
			x.put()
		}
		if x.take(); isFalse {
			return targetOf(o)
		}
	}
	return at + 1
}

// cameTo: whether one can come to each operation, by going on from those that one came to.
func cameTo(b impl.Block) []bool {
	came := make([]bool, len(b.Ops))
	for todo := []int64{0}; len(todo) > 0; {
		at := todo[0]
		if todo = todo[1:]; !came[at] {
			came[at] = true
			todo = append(todo, leadsTo(b, at)...)
		}
	}
	return came
}

// checkWays goes through a block some times, each time by other ways.
func checkWays(t *testing.T, b impl.Block, s *dice, deepest int64) {
	t.Helper()
	heights := impl.HeightsOf(b)
	if heights.Code != impl.OK || len(heights.List) != len(b.Ops) {
		t.Fatalf("HeightsOf = %+v, of\n%s", heights, someText(blocks(b)))
	}
	for at, came := range cameTo(b) {
		if came != (heights.List[at] >= 0) || heights.List[at] < -1 {
			t.Fatalf("one comes to %d: %t, but its height is %d, in\n%s", at, came, heights.List[at], someText(blocks(b)))
		}
	}
	for range 8 {
		x := stackByHand{t: t, block: b}
		at := int64(0)
		for steps := 0; at >= 0 && steps < 100; steps++ {
			if at >= int64(len(b.Ops)) {
				t.Fatalf("one leaves the block at its end:\n%s", someText(blocks(b)))
			}
			if high := int64(len(x.items)); high != heights.List[at] || high > deepest {
				t.Fatalf("%d high at %d, not %d, at most %d, in\n%s", high, at, heights.List[at], deepest, someText(blocks(b)))
			}
			at = x.do(at, s.next(2) == 0)
		}
	}
}

// checkPromise11 is for code without fault.
func checkPromise11(t *testing.T, code []impl.Block, s *dice) {
	t.Helper()
	deepest := impl.DeepestOf(code)
	if deepest.Code != impl.OK {
		t.Fatalf("DeepestOf = %+v, of\n%s", deepest, someText(code))
	}
	reached := false
	for _, b := range code {
		checkWays(t, b, s, deepest.Value)
		reached = reached || slices.Contains(impl.HeightsOf(b).List, deepest.Value)
	}
	if !reached {
		t.Fatalf("nowhere is the stack %d high:\n%s", deepest.Value, someText(code))
	}
	for i := range code {
		around := impl.BlockAround(code, int64(i))
		holders := holdersOf(code, int64(i))
		if i == 0 {
			if around.Code != impl.ErrNone || len(holders) > 0 {
				t.Fatalf("the first block: %+v, %v, of\n%s", around, holders, someText(code))
			}
		} else if around.Code != impl.OK || around.Value >= int64(i) || !slices.Equal(holders, []int64{around.Value}) {
			t.Fatalf("block %d: %+v, %v, of\n%s", i, around, holders, someText(code))
		}
	}
}

// Promise 11: wherever one comes to, the stack is as high as it has to be; each block but the first one is around just in one other ahead of it.
func TestPromise11(t *testing.T) {
	s := dice(1111)
	held := 0
	for _, code := range someHeld(1200) {
		checkPromise11(t, code, &s)
		for range 6 {
			loose := s.loosen(code)
			if len(loose) > 0 && impl.CodeFault(loose) == impl.OK {
				held++
				checkPromise11(t, loose, &s)
			}
		}
	}
	if held < 300 {
		t.Errorf("only %d still hold", held)
	}
	for _, lines := range scripts()[:60] {
		for _, line := range lines {
			if made := impl.PlainCode(line); made.Code == impl.OK {
				checkPromise11(t, made.Blocks, &s)
			}
		}
	}
}

// Promise 1: the same again behind other calls, in new memory that can be written into, and no argument is changed.
func TestPromise1Held(t *testing.T) {
	s := dice(31)
	list := append(someHeld(200), nil, make([]impl.Block, 61), blocks(block(4)), blocks(block(0)), blocks(impl.Block{Ops: []impl.Op{}}))
	for _, code := range list[:200] {
		list = append(list, s.loosen(code))
	}
	type told struct {
		fault   int64
		deepest impl.IntResult
		around  [4]impl.IntResult
	}
	tell := func(code []impl.Block) told {
		x := told{fault: impl.CodeFault(code), deepest: impl.DeepestOf(code)}
		for i := range x.around {
			x.around[i] = impl.BlockAround(code, int64(i)-1)
		}
		return x
	}
	for _, code := range list {
		kept := cloneCode(code)
		first := tell(code)
		for i, b := range code {
			heights := impl.HeightsOf(b)
			list := slices.Clone(heights.List)
			other := impl.HeightsOf(b)
			written := append(heights.List, -9)
			for k := range written {
				written[k] = -9
			}
			for k := range heights.List {
				heights.List[k] = -9
			}
			if again := impl.HeightsOf(b); again.Code != heights.Code || !slices.Equal(again.List, list) || !slices.Equal(other.List, list) {
				t.Fatalf("HeightsOf of block %d = %v, then %+v, of\n%s", i, list, again, someText(code))
			}
		}
		if again := tell(code); again != first || !equalCode(code, kept) {
			t.Fatalf("%+v, then %+v, of\n%s", first, again, someText(kept))
		}
	}
	// The greatest code of all, and numbers beyond all bounds.
	full := chainCode(60, 3)
	ops := slices.Repeat([]impl.Op{opNums(impl.OpJump, 199)}, 200)
	for i := range full {
		closure := full[i].Ops[0]
		full[i].Ops = slices.Clone(ops)
		for k := range full[i].Ops[2:] {
			full[i].Ops[k+2].A = int64(k) + 1
		}
		full[i].Ops[1] = opData(impl.OpConstReturn, wideData(80)...)
		if i < 59 {
			full[i].Ops[2] = opNums(impl.OpIfNot, 1)
			full[i].Ops[3] = closure
			full[i].Ops[4] = opNums(impl.OpJump, 2)
			full[i].Ops[5] = opNums(impl.OpJump, 3)
		}
	}
	if held := checkHeld(t, full, 30); held.fault != impl.OK {
		t.Errorf("the greatest code: %s", held.wrong)
	}
	odd := blocks(block(math.MaxInt64, impl.Op{Kind: math.MinInt64, A: math.MaxInt64, B: math.MinInt64}), block(0, opNums(impl.OpClosure, math.MinInt64)))
	checkHeld(t, odd, wrongPlaces(2)...)
}
