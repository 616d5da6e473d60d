package tests

import (
	"fmt"
	"math"
	"slices"
	"strconv"
	"strings"
	"testing"

	"loop.example/g00349/impl"
)

func opNums(kind int64, list ...int64) impl.Op {
	o := impl.Op{Kind: kind}
	for i, n := range list {
		*[]*int64{&o.A, &o.B, &o.C, &o.D}[i] = n
	}
	return o
}
func opName(kind int64, name string) impl.Op { return impl.Op{Kind: kind, Name: name} }
func opData(kind int64, list ...impl.Datum) impl.Op {
	return impl.Op{Kind: kind, Data: list}
}
func opReturn() impl.Op { return opNums(impl.OpReturn) }

func block(args int64, ops ...impl.Op) impl.Block { return impl.Block{Args: args, Ops: ops} }

func blocks(list ...impl.Block) []impl.Block { return list }

func cloneCode(code []impl.Block) []impl.Block {
	list := slices.Clone(code)
	for i := range list {
		list[i].Ops = slices.Clone(list[i].Ops)
		for k := range list[i].Ops {
			list[i].Ops[k].Data = slices.Clone(list[i].Ops[k].Data)
		}
	}
	return list
}

func equalOps(a, b impl.Op) bool {
	return a.Kind == b.Kind && a.A == b.A && a.B == b.B && a.C == b.C && a.D == b.D && a.Name == b.Name && slices.Equal(a.Data, b.Data)
}

func equalCode(a, b []impl.Block) bool {
	return slices.EqualFunc(a, b, func(x, y impl.Block) bool {
		return x.Args == y.Args && slices.EqualFunc(x.Ops, y.Ops, equalOps)
	})
}

// What the operations of each kind have, by the word of the kind.
func opWords() []string {
	return []string{"", "const data", "local a b", "global name", "closure a", "jump a", "ifnot a", "pop", "set name", "def name", "call a", "tail a",
		"return", "constret data", "localret a b", "locals a b c d", "localifnot a b c"}
}

func wantOpFault(o impl.Op) int64 {
	if o.Kind < 1 || o.Kind > 16 {
		return impl.ErrForm
	}
	has := strings.Fields(opWords()[o.Kind])[1:]
	nums := map[string]int64{"a": o.A, "b": o.B, "c": o.C, "d": o.D}
	hasName, hasData := slices.Contains(has, "name"), slices.Contains(has, "data")
	for word, n := range nums {
		if n != 0 && !slices.Contains(has, word) {
			return impl.ErrForm
		}
	}
	if !hasName && o.Name != "" || !hasData && len(o.Data) > 0 {
		return impl.ErrForm
	}
	for _, n := range nums {
		if n < 0 || n > 999 {
			return impl.ErrRange
		}
	}
	if (o.Kind == impl.OpCall || o.Kind == impl.OpTail) && o.A > 3 {
		return impl.ErrRange
	}
	if hasName && !symbol.MatchString(o.Name) {
		return impl.ErrText
	}
	if hasData {
		return wantDataFault(o.Data)
	}
	return impl.OK
}

func wantBlockFault(b impl.Block) int64 {
	if b.Args < 0 || b.Args > 3 {
		return impl.ErrRange
	}
	if len(b.Ops) > 200 {
		return impl.ErrMany
	}
	for _, o := range b.Ops {
		if code := wantOpFault(o); code != impl.OK {
			return code
		}
	}
	return impl.OK
}

func wantBlocksFault(code []impl.Block) int64 {
	if len(code) > 60 {
		return impl.ErrMany
	}
	for _, b := range code {
		if fault := wantBlockFault(b); fault != impl.OK {
			return fault
		}
	}
	return impl.OK
}

// wantCodeText writes code without its bound of bytes.
func wantCodeText(code []impl.Block) string {
	text := ""
	for i, b := range code {
		text += fmt.Sprintf("block %d %d\n", i, b.Args)
		for k, o := range b.Ops {
			has := strings.Fields(opWords()[o.Kind])
			text += fmt.Sprintf("%d: %s", k, has[0])
			for _, word := range has[1:] {
				switch word {
				case "name":
					text += " " + o.Name
				case "data":
					text += " " + wantText(o.Data, 0)
				default:
					text += fmt.Sprintf(" %d", map[string]int64{"a": o.A, "b": o.B, "c": o.C, "d": o.D}[word])
				}
			}
			text += "\n"
		}
	}
	return text
}

// targetOf tells where an operation leads to; -1, if it leads nowhere.
func targetOf(o impl.Op) int64 {
	switch o.Kind {
	case impl.OpJump, impl.OpIfNot:
		return o.A
	case impl.OpLocalIfNot:
		return o.C
	}
	return -1
}

// wantTargets asks each number whether something leads to it.
func wantTargets(b impl.Block) []int64 {
	var list []int64
	for n := range int64(1000) {
		if slices.ContainsFunc(b.Ops, func(o impl.Op) bool { return targetOf(o) == n }) {
			list = append(list, n)
		}
	}
	return list
}

// checkAsked: all that ask code tell its first fault, and nothing beside it.
func checkAsked(t *testing.T, code []impl.Block) {
	t.Helper()
	want := wantBlocksFault(code)
	count, text := impl.CountOps(code), impl.CodeText(code)
	if want != impl.OK {
		if count != (impl.IntResult{Code: want}) || text != (impl.TextResult{Code: want}) {
			t.Fatalf("of the fault %d of %.600s: %+v, %.100s", want, fmt.Sprintf("%+v", code), count, fmt.Sprintf("%+v", text))
		}
		return
	}
	all := 0
	for _, b := range code {
		all += len(b.Ops)
	}
	written := impl.TextResult{Text: wantCodeText(code)}
	if len(written.Text) > 6000 {
		written = impl.TextResult{Code: impl.ErrMany}
	}
	if count != (impl.IntResult{Value: int64(all)}) || text != written {
		t.Fatalf("of %+v: %+v, not %d; %+v, not %+v", code, count, all, text, written)
	}
}

func checkTargets(t *testing.T, b impl.Block) {
	t.Helper()
	got, want := impl.TargetsIn(b), impl.IntsResult{Code: wantBlockFault(b)}
	if want.Code == impl.OK {
		want.List = wantTargets(b)
	}
	if got.Code != want.Code || !slices.Equal(got.List, want.List) || got.Code != impl.OK && got.List != nil {
		t.Fatalf("TargetsIn(%.600s) = %+v, not %+v", fmt.Sprintf("%+v", b), got, want)
	}
}

func checkBlocks(t *testing.T, code []impl.Block) {
	t.Helper()
	checkAsked(t, code)
	for _, b := range code {
		checkTargets(t, b)
		for _, o := range b.Ops {
			if got, want := impl.OpFault(o), wantOpFault(o); got != want {
				t.Fatalf("OpFault(%.600s) = %d, not %d", fmt.Sprintf("%+v", o), got, want)
			}
		}
	}
}

// codeByHand tells of each core how many operations it is ahead of what they are, so that targets are known when they are put.
type codeByHand struct {
	cores []impl.Core
}

func (x codeByHand) size(at int, end bool) int64 {
	kids := kidsByHand(x.cores, at)
	var all int64
	switch x.cores[at].Kind {
	case impl.CoreIf:
		all = x.size(kids[0], false) + 1 + x.size(kids[1], end) + x.size(kids[2], end)
		if !end {
			all++
		}
		return all
	case impl.CoreSeq:
		last := len(kids) - 1
		for _, kid := range kids[:last] {
			all += x.size(kid, false) + 1
		}
		return all + x.size(kids[last], end)
	case impl.CoreApp:
		for _, kid := range kids {
			all += x.size(kid, false)
		}
		return all + 1
	case impl.CoreSet, impl.CoreDef:
		all = x.size(kids[0], false)
	}
	if end {
		all++
	}
	return all + 1
}

// blockOf counts the lambdas up to one: the form itself is a block too.
func (x codeByHand) blockOf(at int) int64 {
	var count int64
	for _, c := range x.cores[:at+1] {
		if c.Kind == impl.CoreLambda {
			count++
		}
	}
	return count
}

// ops are those of a core whose first one has the number from.
func (x codeByHand) ops(at int, end bool, from int64) []impl.Op {
	c, kids := x.cores[at], kidsByHand(x.cores, at)
	var list []impl.Op
	kid := func(i int, end bool) { list = append(list, x.ops(kids[i], end, from+int64(len(list)))...) }
	put := func(o impl.Op) { list = append(list, o) }
	switch c.Kind {
	case impl.CoreConst:
		put(opData(impl.OpConst, c.Data...))
	case impl.CoreLocal:
		put(opNums(impl.OpLocal, c.A, c.B))
	case impl.CoreGlobal:
		put(opName(impl.OpGlobal, c.Name))
	case impl.CoreLambda:
		put(opNums(impl.OpClosure, x.blockOf(at)))
	case impl.CoreSet:
		kid(0, false)
		put(opName(impl.OpSet, c.Name))
	case impl.CoreDef:
		kid(0, false)
		put(opName(impl.OpDef, c.Name))
	case impl.CoreIf:
		first, second, third := x.size(kids[0], false), x.size(kids[1], end), x.size(kids[2], end)
		over := from + first + 1 + second
		if !end {
			over++
		}
		kid(0, false)
		put(opNums(impl.OpIfNot, over))
		kid(1, end)
		if !end {
			put(opNums(impl.OpJump, over+third))
		}
		kid(2, end)
		return list
	case impl.CoreSeq:
		for i := range kids {
			if i > 0 {
				put(opNums(impl.OpPop))
			}
			kid(i, end && i == len(kids)-1)
		}
		return list
	case impl.CoreApp:
		for i := range kids {
			kid(i, false)
		}
		kind := map[bool]int64{false: impl.OpCall, true: impl.OpTail}[end]
		put(opNums(kind, int64(len(kids)-1)))
		return list
	}
	if end {
		put(opReturn())
	}
	return list
}

func wantCompile(c []impl.Core) impl.CodeResult {
	if code := wantCoreFault(c); code != impl.OK {
		return impl.CodeResult{Code: code}
	}
	x := codeByHand{cores: c}
	code := blocks(block(0, x.ops(0, true, 0)...))
	for at := range c {
		if c[at].Kind == impl.CoreLambda {
			code = append(code, block(c[at].A, x.ops(at+1, true, 0)...))
		}
	}
	if len(code) > 60 || slices.ContainsFunc(code, func(b impl.Block) bool { return len(b.Ops) > 200 }) {
		return impl.CodeResult{Code: impl.ErrMany}
	}
	return impl.CodeResult{Blocks: code}
}

// checkCompile holds what cores are compiled to against what is wanted, and asks for promise 10 beside it.
func checkCompile(t *testing.T, c []impl.Core, want impl.CodeResult) {
	t.Helper()
	got := impl.CompileCore(c)
	if got.Code != want.Code || !equalCode(got.Blocks, want.Blocks) || got.Code != impl.OK && got.Blocks != nil {
		t.Fatalf("CompileCore(%.1000s) = %+v, not %+v", fmt.Sprintf("%+v", c), got, want)
	}
	if got.Code == impl.OK {
		checkHolds(t, c, got.Blocks)
		checkBlocks(t, got.Blocks)
	}
}

// checkHolds: what cores were compiled to has no fault, asked by hand as well.
func checkHolds(t *testing.T, c []impl.Core, code []impl.Block) {
	t.Helper()
	if want, got := holdByHand(code), impl.CodeFault(code); want.fault != impl.OK || got != impl.OK {
		t.Fatalf("%s is compiled to what does not hold: %s, fault %d:\n%s", wantCoreText(c, 0), want.wrong, got, wantCodeText(code))
	}
}

// checkListing compiles a form; the lines of its code are told without line feeds, a bar between.
func checkListing(t *testing.T, form, want string) {
	t.Helper()
	c := impl.ExpandData(readOf(t, form))
	code := impl.CompileCore(c.Cores)
	want = strings.ReplaceAll(want, " | ", "\n") + "\n"
	if got := impl.CodeText(code.Blocks); code.Code != impl.OK || got != (impl.TextResult{Text: want}) {
		t.Errorf("%s is compiled to %d:\n%v, not\n%s", form, code.Code, got, want)
	}
	checkCompile(t, c.Cores, wantCompile(c.Cores))
}

// Each kind of core: first at the end, then within a begin, where it is not at the end.
func TestCompileKinds(t *testing.T) {
	checkListing(t, "5", "block 0 0 | 0: const 5 | 1: return")
	checkListing(t, "'(a #t (-2))", "block 0 0 | 0: const (a #t (-2)) | 1: return")
	checkListing(t, "x", "block 0 0 | 0: global x | 1: return")
	checkListing(t, "(lambda () #f)", "block 0 0 | 0: closure 1 | 1: return | block 1 0 | 0: const #f | 1: return")
	checkListing(t, "(lambda (x y z) y)", "block 0 0 | 0: closure 1 | 1: return | block 1 3 | 0: local 0 1 | 1: return")
	checkListing(t, "(set! x 1)", "block 0 0 | 0: const 1 | 1: set x | 2: return")
	checkListing(t, "(define x y)", "block 0 0 | 0: global y | 1: def x | 2: return")
	checkListing(t, "(f)", "block 0 0 | 0: global f | 1: tail 0")
	checkListing(t, "(f 1 x 3)", "block 0 0 | 0: global f | 1: const 1 | 2: global x | 3: const 3 | 4: tail 3")
	checkListing(t, "(if a b c)", "block 0 0 | 0: global a | 1: ifnot 4 | 2: global b | 3: return | 4: global c | 5: return")
	checkListing(t, "(begin a)", "block 0 0 | 0: global a | 1: return")
	checkListing(t, "(begin a b c)", "block 0 0 | 0: global a | 1: pop | 2: global b | 3: pop | 4: global c | 5: return")

	checkListing(t, "(begin 5 1)", "block 0 0 | 0: const 5 | 1: pop | 2: const 1 | 3: return")
	checkListing(t, "(begin x 1)", "block 0 0 | 0: global x | 1: pop | 2: const 1 | 3: return")
	checkListing(t, "(lambda (x) (begin x 1))", "block 0 0 | 0: closure 1 | 1: return | block 1 1 | 0: local 0 0 | 1: pop | 2: const 1 | 3: return")
	checkListing(t, "(begin (lambda (x) x) 1)", "block 0 0 | 0: closure 1 | 1: pop | 2: const 1 | 3: return | block 1 1 | 0: local 0 0 | 1: return")
	checkListing(t, "(begin (set! x 2) 1)", "block 0 0 | 0: const 2 | 1: set x | 2: pop | 3: const 1 | 4: return")
	checkListing(t, "(begin (f x) 1)", "block 0 0 | 0: global f | 1: global x | 2: call 1 | 3: pop | 4: const 1 | 5: return")
	checkListing(t, "(begin (if a b c) 1)", "block 0 0 | 0: global a | 1: ifnot 4 | 2: global b | 3: jump 5 | 4: global c | 5: pop | 6: const 1 | 7: return")
	checkListing(t, "(begin (begin a) 1)", "block 0 0 | 0: global a | 1: pop | 2: const 1 | 3: return")
	checkListing(t, "(begin (begin a b) 1)", "block 0 0 | 0: global a | 1: pop | 2: global b | 3: pop | 4: const 1 | 5: return")
}

// What is within other forms, at the end or not.
func TestCompileWithin(t *testing.T) {
	checkListing(t, "(if (if a b c) d e)", "block 0 0 | 0: global a | 1: ifnot 4 | 2: global b | 3: jump 5 | 4: global c | 5: ifnot 8 | 6: global d | 7: return | 8: global e | 9: return")
	checkListing(t, "(if a (if b c d) e)", "block 0 0 | 0: global a | 1: ifnot 8 | 2: global b | 3: ifnot 6 | 4: global c | 5: return | 6: global d | 7: return | 8: global e | 9: return")
	checkListing(t, "(if a b (if c d e))", "block 0 0 | 0: global a | 1: ifnot 4 | 2: global b | 3: return | 4: global c | 5: ifnot 8 | 6: global d | 7: return | 8: global e | 9: return")
	checkListing(t, "(f (if (if a b c) d e))", "block 0 0 | 0: global f | 1: global a | 2: ifnot 5 | 3: global b | 4: jump 6 | 5: global c | 6: ifnot 9 | 7: global d | 8: jump 10 | 9: global e | 10: tail 1")
	checkListing(t, "(f (if a (if b c d) e))", "block 0 0 | 0: global f | 1: global a | 2: ifnot 9 | 3: global b | 4: ifnot 7 | 5: global c | 6: jump 8 | 7: global d | 8: jump 10 | 9: global e | 10: tail 1")
	checkListing(t, "(f (if a b (if c d e)))", "block 0 0 | 0: global f | 1: global a | 2: ifnot 5 | 3: global b | 4: jump 10 | 5: global c | 6: ifnot 9 | 7: global d | 8: jump 10 | 9: global e | 10: tail 1")
	checkListing(t, "(if (f) (g 1) (h))", "block 0 0 | 0: global f | 1: call 0 | 2: ifnot 6 | 3: global g | 4: const 1 | 5: tail 1 | 6: global h | 7: tail 0")
	checkListing(t, "(f (g (h x) y) z)", "block 0 0 | 0: global f | 1: global g | 2: global h | 3: global x | 4: call 1 | 5: global y | 6: call 2 | 7: global z | 8: tail 2")
	checkListing(t, "((f x) y)", "block 0 0 | 0: global f | 1: global x | 2: call 1 | 3: global y | 4: tail 1")
	checkListing(t, "(((f)))", "block 0 0 | 0: global f | 1: call 0 | 2: call 0 | 3: tail 0")
	checkListing(t, "(define x (f))", "block 0 0 | 0: global f | 1: call 0 | 2: def x | 3: return")
	checkListing(t, "(set! x (set! y (f)))", "block 0 0 | 0: global f | 1: call 0 | 2: set y | 3: set x | 4: return")
	checkListing(t, "(begin (f) (begin (g) (h)))", "block 0 0 | 0: global f | 1: call 0 | 2: pop | 3: global g | 4: call 0 | 5: pop | 6: global h | 7: tail 0")
	checkListing(t, "(if a (begin b (f)) (begin (g) c))", "block 0 0 | 0: global a | 1: ifnot 6 | 2: global b | 3: pop | 4: global f | 5: tail 0 | 6: global g | 7: call 0 | 8: pop | 9: global c | 10: return")
	checkListing(t, "(begin (if a b c))", "block 0 0 | 0: global a | 1: ifnot 4 | 2: global b | 3: return | 4: global c | 5: return")
}

// Blocks are numbered as their lambdas are met: one within another one ahead of one beside it.
func TestCompileBlocks(t *testing.T) {
	checkListing(t, "(lambda (x) (lambda (y z) (x y)))", "block 0 0 | 0: closure 1 | 1: return | block 1 1 | 0: closure 2 | 1: return | block 2 2 | 0: local 1 0 | 1: local 0 0 | 2: tail 1")
	checkListing(t, "(f (lambda () 1) (lambda (x) 2))", "block 0 0 | 0: global f | 1: closure 1 | 2: closure 2 | 3: tail 2 | block 1 0 | 0: const 1 | 1: return | block 2 1 | 0: const 2 | 1: return")
	checkListing(t, "(f (lambda () (lambda (x) 1)) (lambda (x y) 2))",
		"block 0 0 | 0: global f | 1: closure 1 | 2: closure 3 | 3: tail 2 | block 1 0 | 0: closure 2 | 1: return | block 2 1 | 0: const 1 | 1: return | block 3 2 | 0: const 2 | 1: return")
	checkListing(t, "(if (lambda () a) (lambda (x) x) (lambda (x y) y))",
		"block 0 0 | 0: closure 1 | 1: ifnot 4 | 2: closure 2 | 3: return | 4: closure 3 | 5: return | block 1 0 | 0: global a | 1: return | block 2 1 | 0: local 0 0 | 1: return | block 3 2 | 0: local 0 1 | 1: return")
	checkListing(t, "(begin (lambda () ((lambda (x) x) (lambda (x y) x))) (define-x (lambda (x y z) z)))",
		"block 0 0 | 0: closure 1 | 1: pop | 2: global define-x | 3: closure 4 | 4: tail 1 | block 1 0 | 0: closure 2 | 1: closure 3 | 2: tail 1 | block 2 1 | 0: local 0 0 | 1: return | block 3 2 | 0: local 0 0 | 1: return | block 4 3 | 0: local 0 2 | 1: return")
	checkListing(t, "(let ((x (lambda (y) y))) (lambda () x))",
		"block 0 0 | 0: closure 1 | 1: closure 3 | 2: tail 1 | block 1 1 | 0: closure 2 | 1: return | block 2 0 | 0: local 1 0 | 1: return | block 3 1 | 0: local 0 0 | 1: return")
	checkListing(t, "(define f (lambda (n) (if n (f (- n 1)) 'end)))",
		"block 0 0 | 0: closure 1 | 1: def f | 2: return | block 1 1 | 0: local 0 0 | 1: ifnot 8 | 2: global f | 3: global - | 4: local 0 0 | 5: const 1 | 6: call 2 | 7: tail 1 | 8: const end | 9: return")
	checkListing(t, "(lambda () (set! x (lambda () (begin (f) x))))",
		"block 0 0 | 0: closure 1 | 1: return | block 1 0 | 0: closure 2 | 1: set x | 2: return | block 2 0 | 0: global f | 1: call 0 | 2: pop | 3: global x | 4: return")
}

// Cores that no form means: a seq of one in all places, an app of a const, a const of what is not written in MaxText.
func TestCompileCores(t *testing.T) {
	long := append(data(datList(-1)), slices.Repeat(data(datSym(0, "abcdefghijkl")), 79)...)
	for _, c := range [][]impl.Core{
		cores(coreSeq(-1), coreSeq(0), coreSeq(1), coreConst(2, datNum(-1, 1))),
		cores(coreApp(-1), coreConst(0, datNum(-1, 1))),
		cores(coreApp(-1), coreSeq(0), coreGlobal(1, "f"), coreIf(0), coreSeq(3), coreGlobal(4, "a"), coreSeq(3), coreGlobal(6, "b"), coreSeq(3), coreGlobal(8, "c")),
		cores(coreConst(-1, long...)),
		cores(coreSeq(-1), coreConst(0, long...), coreConst(0, long...)),
		cores(coreName(impl.CoreDef, -1, "x"), coreLambda(0, 3), coreLambda(1, 0), coreLambda(2, 2), coreApp(3), coreLocal(4, 2, 2), coreLocal(4, 0, 1)),
	} {
		checkCompile(t, c, wantCompile(c))
	}
	for _, form := range []string{"x", "(if a b c)", "(lambda (x) x)", "(f (lambda () (g)))"} {
		c := impl.ExpandData(readOf(t, form)).Cores
		for _, name := range []string{"x", "car", "abcdefghijkl"} {
			for _, kind := range []int64{impl.CoreDef, impl.CoreSet} {
				turned := append(cores(coreName(kind, -1, name)), cloneCores(c)...)
				for i := range turned[1:] {
					turned[i+1].Parent++
				}
				checkCompile(t, turned, wantCompile(turned))
			}
		}
	}
}

// joined: a CoreSeq of as many of the cores as there is room for; lambdas are left out, so that its own block is long.
func joined(list [][]impl.Core) []impl.Core {
	all := cores(coreSeq(-1), coreGlobal(0, "x"))
	for _, c := range list {
		place := int64(len(all))
		if len(all)+len(c) > impl.MaxCores || c[0].Kind == impl.CoreDef || c[0].Kind == impl.CoreLambda {
			continue
		}
		for i, x := range c {
			if x.Parent += place; i == 0 {
				x.Parent = 0
			}
			all = append(all, x)
		}
	}
	return all
}

func TestCompileSome(t *testing.T) {
	told := map[int64]int{}
	list := append(someCores(6000, 150, 10), someCores(2000, 300, 30)...)
	small := someCores(30000, 6, 4)
	for i := range 300 {
		list = append(list, joined(small[i*100:][:100]), joined(small[i*100:][:2+i%20]))
	}
	for _, c := range list {
		want := wantCompile(c)
		told[want.Code]++
		checkCompile(t, c, want)
	}
	for _, d := range someForms(6000, 0) {
		if means := impl.ExpandData(d); means.Code == impl.OK {
			checkCompile(t, means.Cores, wantCompile(means.Cores))
		}
	}
	if told[impl.OK] < 1000 || told[impl.ErrMany] < 5 {
		t.Errorf("not all was tried: %v", told)
	}
}

// lambdaRow: a CoreSeq of so many lambdas beside one another.
func lambdaRow(count int) []impl.Core {
	c := cores(coreSeq(-1))
	for range count {
		c = append(c, coreLambda(0, 1), coreLocal(int64(len(c)), 0, 0))
	}
	return c
}

// opRow: a CoreSeq whose block has just so many operations.
func opRow(count int) []impl.Core {
	c := cores(coreSeq(-1))
	if count%2 > 0 { // an app of a global has one operation more than a global
		c, count = append(c, coreApp(0), coreGlobal(1, "f")), count-3
	}
	for range count / 2 {
		c = append(c, coreGlobal(0, "x"))
	}
	return c
}

func inLambda(c []impl.Core) []impl.Core {
	list := append(cores(coreLambda(-1, 0)), cloneCores(c)...)
	for i := range list[1:] {
		list[i+1].Parent++
	}
	return list
}

func TestCompileMany(t *testing.T) {
	check := func(c []impl.Core, blocks, ops int) {
		t.Helper()
		if code := wantCoreFault(c); code != impl.OK {
			t.Fatalf("a fault %d", code)
		}
		checkCompile(t, c, wantCompile(c))
		got := impl.CompileCore(c)
		if blocks > 60 || ops > 200 {
			if got.Code != impl.ErrMany || got.Blocks != nil {
				t.Errorf("%d blocks, %d operations: %+v", blocks, ops, got)
			}
			return
		}
		most := 0
		for _, b := range got.Blocks {
			most = max(most, len(b.Ops))
		}
		if got.Code != impl.OK || len(got.Blocks) != blocks || most != ops {
			t.Errorf("%d blocks, %d operations: %d, %d, %d", blocks, ops, got.Code, len(got.Blocks), most)
		}
	}
	for _, blocks := range []int{1, 2, 59, 60, 61, 62, 100, 160} {
		check(chainOf(blocks, impl.CoreLambda), blocks, 2)
	}
	for _, blocks := range []int{2, 59, 60, 61, 62, 80} {
		check(lambdaRow(blocks-1), blocks, 2*(blocks-1))
	}
	for _, ops := range []int{4, 5, 198, 199, 200, 201, 202, 203, 300, 301} {
		check(opRow(ops), 1, ops)
		check(inLambda(opRow(ops)), 2, ops)
	}
	// Blocks that are too many together, each of them with few operations, and the other way about.
	check(rowOf(101), 1, 200)
	check(rowOf(102), 1, 202)
	check(chainOf(160, impl.CoreSeq), 1, 2)
	check(chainOf(160, impl.CoreApp), 1, 160)
}

func TestCompileWrong(t *testing.T) {
	check := func(c []impl.Core, want int64) {
		t.Helper()
		if wantCoreFault(c) != want {
			t.Fatalf("%+v has the fault %d, not %d", c, wantCoreFault(c), want)
		}
		checkCompile(t, c, impl.CodeResult{Code: want})
	}
	check(nil, impl.ErrMany)
	check(cores(), impl.ErrMany)
	check(rowOf(161), impl.ErrMany)
	check(make([]impl.Core, 160), impl.ErrForm)
	check(make([]impl.Core, 100000), impl.ErrMany)
	check(cores(coreIf(-1), coreGlobal(0, "a"), coreGlobal(0, "b")), impl.ErrForm)
	check(cores(coreSeq(-1)), impl.ErrForm)
	check(cores(coreApp(-1)), impl.ErrForm)
	check(cores(coreLambda(-1, 0)), impl.ErrForm)
	check(append(cores(coreApp(-1)), slices.Repeat(cores(coreGlobal(0, "a")), 5)...), impl.ErrForm)
	check(cores(coreSeq(-1), coreName(impl.CoreDef, 0, "x"), coreGlobal(1, "y")), impl.ErrForm)
	check(cores(coreLambda(-1, 4), coreGlobal(0, "x")), impl.ErrRange)
	check(cores(coreLambda(-1, 1), coreLocal(0, 1, 0)), impl.ErrRange)
	check(cores(coreLocal(-1, 0, 0)), impl.ErrRange)
	check(cores(coreGlobal(0, "x")), impl.ErrRange)
	check(cores(coreGlobal(-1, "A")), impl.ErrText)
	check(cores(coreGlobal(-1, "if")), impl.ErrText)
	check(cores(coreConst(-1)), impl.ErrMany)
	check(cores(coreConst(-1, datNum(-1, impl.MaxNum+1))), impl.ErrRange)
	check(cores(coreConst(-1, deepData(13)...)), impl.ErrMany)
	// A fault is told ahead of what is too many.
	for _, c := range [][]impl.Core{opRow(240), lambdaRow(70)} {
		check(append(cloneCores(c), coreGlobal(0, "A")), impl.ErrText)
		check(append(cloneCores(c), coreGlobal(-1, "a")), impl.ErrRange)
		check(append(cloneCores(c), coreLambda(0, 2)), impl.ErrForm)
	}
	s := dice(815)
	for _, c := range someCores(1500, 60, 8) {
		turned := cloneCores(c)
		i := s.next(len(turned))
		switch s.next(5) {
		case 0:
			turned[i].Kind = int64(s.next(12))
		case 1:
			turned[i].Parent = int64(s.next(len(turned)+2)) - 2
		case 2:
			turned[i].A++
		case 3:
			turned[i].Name += "A"
		default:
			turned = slices.Delete(turned, i, i+1)
		}
		checkCompile(t, turned, wantCompile(turned))
	}
}

// rightOps: an operation of each kind, and the edges of its numbers.
func rightOps() []impl.Op {
	list := []impl.Op{opData(impl.OpConst, datNum(-1, 0)), opData(impl.OpConst, wideData(80)...), opData(impl.OpConst, deepData(12)...), opData(impl.OpConstReturn, datSym(-1, "a")),
		opNums(impl.OpPop), opReturn(), opNums(impl.OpLocalLocal, 1, 2, 3, 4), opNums(impl.OpLocalLocal, 999, 999, 999, 999), opNums(impl.OpLocalIfNot, 0, 999, 0)}
	for _, kind := range []int64{impl.OpGlobal, impl.OpSet, impl.OpDef} {
		for _, name := range []string{"x", "abcdefghijkl", "+", "if", "quote", "call/cc"} {
			list = append(list, opName(kind, name))
		}
	}
	for _, n := range []int64{0, 1, 998, 999} {
		for _, kind := range []int64{impl.OpClosure, impl.OpJump, impl.OpIfNot} {
			list = append(list, opNums(kind, n))
		}
		for _, kind := range []int64{impl.OpLocal, impl.OpLocalReturn, impl.OpLocalLocal, impl.OpLocalIfNot} {
			list = append(list, opNums(kind, n), opNums(kind, 0, n), opNums(kind, n, n))
		}
		list = append(list, opNums(impl.OpLocalLocal, 0, 0, n), opNums(impl.OpLocalLocal, 0, 0, 0, n), opNums(impl.OpLocalIfNot, 0, 0, n))
	}
	for n := range int64(4) {
		list = append(list, opNums(impl.OpCall, n), opNums(impl.OpTail, n))
	}
	return list
}

func TestOpFaultRight(t *testing.T) {
	for _, o := range rightOps() {
		if got, want := impl.OpFault(o), wantOpFault(o); got != impl.OK || want != impl.OK {
			t.Errorf("OpFault(%+v) = %d, %d by hand", o, got, want)
		}
		// Empty Data are none.
		if len(o.Data) == 0 {
			o.Data = data()
			if got := impl.OpFault(o); got != impl.OK {
				t.Errorf("OpFault of empty Data = %d", got)
			}
		}
	}
}

type wrongOp struct {
	op   impl.Op
	code int64
}

// wrongOps: operations with just one fault.
func wrongOps() []wrongOp {
	var list []wrongOp
	put := func(code int64, o impl.Op) { list = append(list, wrongOp{o, code}) }
	for _, kind := range []int64{0, 17, -1, 18, 100, 1<<32 + 7, 1<<32 + 12, -12, math.MaxInt64, math.MinInt64} {
		put(impl.ErrForm, impl.Op{Kind: kind})
		put(impl.ErrForm, opName(kind, "x"))
	}
	for _, n := range []int64{-1, 1000, 1001, 1 << 32, -1 << 32, math.MaxInt64, math.MinInt64} {
		for _, kind := range []int64{impl.OpClosure, impl.OpJump, impl.OpIfNot, impl.OpLocal, impl.OpLocalReturn, impl.OpLocalLocal, impl.OpLocalIfNot, impl.OpCall, impl.OpTail} {
			put(impl.ErrRange, opNums(kind, n))
		}
		for _, kind := range []int64{impl.OpLocal, impl.OpLocalReturn, impl.OpLocalLocal, impl.OpLocalIfNot} {
			put(impl.ErrRange, opNums(kind, 1, n))
		}
		put(impl.ErrRange, opNums(impl.OpLocalLocal, 1, 1, n))
		put(impl.ErrRange, opNums(impl.OpLocalIfNot, 1, 1, n))
		put(impl.ErrRange, opNums(impl.OpLocalLocal, 1, 1, 1, n))
	}
	for _, n := range []int64{4, 5, 999} {
		put(impl.ErrRange, opNums(impl.OpCall, n))
		put(impl.ErrRange, opNums(impl.OpTail, n))
	}
	for _, name := range wrongNames() {
		for _, kind := range []int64{impl.OpGlobal, impl.OpSet, impl.OpDef} {
			put(impl.ErrText, opName(kind, name))
		}
	}
	for _, kind := range []int64{impl.OpConst, impl.OpConstReturn} {
		for _, w := range wrongData() {
			put(w.code, opData(kind, w.datum))
		}
		put(impl.ErrMany, opData(kind))
		put(impl.ErrMany, impl.Op{Kind: kind, Data: data()})
		put(impl.ErrMany, opData(kind, wideData(81)...))
		put(impl.ErrMany, opData(kind, deepData(13)...))
		put(impl.ErrRange, opData(kind, datNum(0, 1)))
		put(impl.ErrForm, opData(kind, datNum(-1, 1), datNum(0, 1)))
	}
	return list
}

func TestOpFaultWrong(t *testing.T) {
	for _, w := range wrongOps() {
		if got, want := impl.OpFault(w.op), wantOpFault(w.op); got != w.code || want != w.code {
			t.Fatalf("OpFault(%.300s) = %d, %d by hand, not %d", fmt.Sprintf("%+v", w.op), got, want, w.code)
		}
		checkBlocks(t, blocks(block(0, w.op)))
		checkBlocks(t, blocks(block(0, opReturn()), block(3, opNums(impl.OpPop), w.op)))
	}
}

// Each kind with all that it has and has not, right and wrong, in all mixtures: the first fault is told.
func TestOpFaultMixed(t *testing.T) {
	nums := []int64{0, 1, 3, 4, -1, 999, 1000}
	told := map[int64]int{}
	for kind := int64(0); kind <= 17; kind++ {
		for _, name := range []string{"", "x", "A"} {
			for _, d := range [][]impl.Datum{nil, data(datNum(-1, 1)), data(datSym(-1, "A")), wideData(81)} {
				for mix := range 1 + 7*7*7*7 {
					o := impl.Op{Kind: kind, A: nums[mix%7], B: nums[mix/7%7], C: nums[mix/49%7], D: nums[mix/343%7], Name: name, Data: d}
					want := wantOpFault(o)
					told[want]++
					if got := impl.OpFault(o); got != want {
						t.Fatalf("OpFault(%.300s) = %d, not %d", fmt.Sprintf("%+v", o), got, want)
					}
				}
			}
		}
	}
	for _, code := range []int64{impl.OK, impl.ErrForm, impl.ErrRange, impl.ErrText, impl.ErrMany} {
		if told[code] == 0 {
			t.Errorf("no fault %d was tried", code)
		}
	}
	for _, c := range []struct {
		op   impl.Op
		want int64
	}{
		{impl.Op{Kind: impl.OpLocal, A: -1, Name: "A"}, impl.ErrForm},
		{impl.Op{Kind: impl.OpLocal, A: 1000, C: 1}, impl.ErrForm},
		{impl.Op{Kind: impl.OpGlobal, A: 1000, Name: "A"}, impl.ErrForm},
		{impl.Op{Kind: impl.OpGlobal, Name: "A", Data: data(datNum(-1, 1))}, impl.ErrForm},
		{impl.Op{Kind: impl.OpConst, B: -1, Data: wideData(81)}, impl.ErrForm},
		{impl.Op{Kind: impl.OpConst, Name: "A"}, impl.ErrForm},
		{impl.Op{Kind: impl.OpCall, A: 4, B: 1}, impl.ErrForm},
		{impl.Op{Kind: impl.OpLocalIfNot, A: -1, D: 1}, impl.ErrForm},
	} {
		if got := impl.OpFault(c.op); got != c.want {
			t.Errorf("OpFault(%.300s) = %d, not %d", fmt.Sprintf("%+v", c.op), got, c.want)
		}
	}
}

func TestCodeExamples(t *testing.T) {
	ops := func(count int) []impl.Op { return slices.Repeat([]impl.Op{opNums(impl.OpPop)}, count) }
	wrongKind, wrongName := opNums(0), opName(impl.OpSet, "A")
	for i, c := range []struct {
		code []impl.Block
		want int64
	}{
		{nil, impl.OK},
		{blocks(), impl.OK},
		{blocks(block(0)), impl.OK},
		{make([]impl.Block, 60), impl.OK},
		{make([]impl.Block, 61), impl.ErrMany},
		{make([]impl.Block, 100000), impl.ErrMany},
		{blocks(block(0, ops(200)...)), impl.OK},
		{blocks(block(0, ops(201)...)), impl.ErrMany},
		{blocks(block(0, make([]impl.Op, 100000)...)), impl.ErrMany},
		{blocks(block(0, make([]impl.Op, 200)...)), impl.ErrForm},
		{blocks(block(3), block(0), block(1)), impl.OK},
		{blocks(block(-1)), impl.ErrRange},
		{blocks(block(4)), impl.ErrRange},
		{blocks(block(math.MinInt64)), impl.ErrRange},
		{blocks(block(math.MaxInt64)), impl.ErrRange},
		{blocks(block(1<<32 + 1)), impl.ErrRange},
		// Several faults.
		{append(make([]impl.Block, 60), block(4)), impl.ErrMany},
		{slices.Repeat(blocks(block(4, wrongKind)), 61), impl.ErrMany},
		{blocks(block(4, ops(201)...)), impl.ErrRange},
		{blocks(block(4, wrongKind)), impl.ErrRange},
		{blocks(block(0, append(ops(200), wrongKind)...)), impl.ErrMany},
		{blocks(block(0, append(ops(199), wrongKind)...)), impl.ErrForm},
		{blocks(block(0, ops(201)...), block(4)), impl.ErrMany},
		{blocks(block(0), block(4), block(0, ops(201)...)), impl.ErrRange},
		{blocks(block(0), block(0, ops(201)...), block(4)), impl.ErrMany},
		{blocks(block(0, wrongKind), block(4)), impl.ErrForm},
		{blocks(block(0, wrongName), block(0, ops(201)...)), impl.ErrText},
		{blocks(block(0, wrongName), block(0, wrongKind)), impl.ErrText},
		{blocks(block(0, wrongName, wrongKind)), impl.ErrText},
		{blocks(block(0, wrongKind, wrongName)), impl.ErrForm},
		{blocks(block(0, opNums(impl.OpPop), opNums(impl.OpJump, 1000), wrongName)), impl.ErrRange},
	} {
		if want := wantBlocksFault(c.code); want != c.want {
			t.Fatalf("example %d: %d, not %d", i, want, c.want)
		}
		checkBlocks(t, c.code)
	}
}

// op: an operation without fault, but that it may lead out of its block.
func (s *dice) op() impl.Op {
	n := func(n int) int64 { return int64(s.next(n)) }
	switch kind := 1 + n(16); kind {
	case impl.OpConst, impl.OpConstReturn:
		return opData(kind, s.data(1+s.next(5), 3, 3)...)
	case impl.OpGlobal, impl.OpSet, impl.OpDef:
		return opName(kind, []string{"x", "car", "if", "abcdefghijkl"}[s.next(4)])
	case impl.OpPop, impl.OpReturn:
		return opNums(kind)
	case impl.OpCall, impl.OpTail:
		return opNums(kind, n(4))
	case impl.OpClosure, impl.OpJump, impl.OpIfNot:
		return opNums(kind, n(30))
	case impl.OpLocal, impl.OpLocalReturn:
		return opNums(kind, n(3), n(1000))
	case impl.OpLocalIfNot:
		return opNums(kind, n(3), n(3), n(30))
	default:
		return opNums(kind, n(9), n(99), n(1000), n(3))
	}
}

// code: blocks without fault, which need not hold.
func (s *dice) code(most int, ops int) []impl.Block {
	var list []impl.Block
	for range s.next(most + 1) {
		b := block(int64(s.next(4)))
		for range s.next(ops + 1) {
			b.Ops = append(b.Ops, s.op())
		}
		list = append(list, b)
	}
	return list
}

// turn turns some things of code, rightly or not.
func (s *dice) turn(code []impl.Block) []impl.Block {
	odd := []int64{-1, 0, 1, 2, 3, 4, 5, 16, 17, 200, 999, 1000, math.MaxInt64, math.MinInt64}
	turned := cloneCode(code)
	for range 1 + s.next(3) {
		b := &turned[s.next(len(turned))]
		if len(b.Ops) == 0 {
			b.Args = odd[s.next(len(odd))]
			continue
		}
		o := &b.Ops[s.next(len(b.Ops))]
		switch n := odd[s.next(len(odd))]; s.next(10) {
		case 0:
			b.Args = n
		case 1, 2:
			o.Kind = n
		case 3:
			o.A = n
		case 4:
			o.B = n
		case 5:
			o.C = n
		case 6:
			o.D = n
		case 7:
			o.Name = []string{"", "A", "if", "x"}[s.next(4)]
		case 8:
			o.Data = append(o.Data, s.leaf(int64(s.next(3))-1))
		default:
			b.Ops = slices.Repeat(b.Ops, 1+200/len(b.Ops))
		}
	}
	return turned
}

func TestCodeSome(t *testing.T) {
	s := dice(20261118)
	told := map[int64]int{}
	for range 3000 {
		code := s.code(6, 12)
		checkBlocks(t, code)
		if len(code) == 0 {
			continue
		}
		for range 4 {
			turned := s.turn(code)
			told[wantBlocksFault(turned)]++
			checkBlocks(t, turned)
		}
	}
	for _, code := range []int64{impl.OK, impl.ErrForm, impl.ErrRange, impl.ErrText, impl.ErrMany} {
		if told[code] < 100 {
			t.Errorf("not all was tried: %v", told)
		}
	}
}

func TestCountOps(t *testing.T) {
	for _, c := range []struct {
		code []impl.Block
		want int64
	}{
		{nil, 0},
		{blocks(block(0)), 0},
		{blocks(block(0, opReturn())), 1},
		{blocks(block(0, opNums(impl.OpLocalLocal)), block(0), block(0, opReturn(), opReturn())), 3},
		{slices.Repeat(blocks(block(0, slices.Repeat([]impl.Op{opReturn()}, 200)...)), 60), 12000},
	} {
		if got := impl.CountOps(c.code); got != (impl.IntResult{Value: c.want}) {
			t.Errorf("CountOps = %+v, not %d", got, c.want)
		}
	}
}

func TestTargetsIn(t *testing.T) {
	jump := func(n int64) impl.Op { return opNums(impl.OpJump, n) }
	for _, c := range []struct {
		ops  []impl.Op
		want []int64
	}{
		{nil, nil},
		{[]impl.Op{opReturn()}, nil},
		{[]impl.Op{opNums(impl.OpClosure, 1), opNums(impl.OpCall, 2), opNums(impl.OpLocal, 3, 4), opNums(impl.OpTail, 1)}, nil},
		{[]impl.Op{opNums(impl.OpLocalLocal, 1, 2, 3, 4), opNums(impl.OpLocalReturn, 1, 2)}, nil},
		{[]impl.Op{jump(2), jump(2), opReturn()}, []int64{2}},
		{[]impl.Op{jump(3), opNums(impl.OpIfNot, 1), opNums(impl.OpLocalIfNot, 2, 0, 0), opReturn()}, []int64{0, 1, 3}},
		{[]impl.Op{opNums(impl.OpIfNot, 2), opNums(impl.OpLocalIfNot, 1, 1, 2), jump(0)}, []int64{0, 2}},
		{[]impl.Op{jump(3), jump(2), jump(1), jump(0)}, []int64{0, 1, 2, 3}},
		{[]impl.Op{opNums(impl.OpIfNot, 0)}, []int64{0}},
		{[]impl.Op{jump(999), jump(10), jump(9)}, []int64{9, 10, 999}},
	} {
		b := block(1, c.ops...)
		if got := impl.TargetsIn(b); got.Code != impl.OK || !slices.Equal(got.List, c.want) {
			t.Errorf("TargetsIn(%+v) = %+v, not %v", b, got, c.want)
		}
		checkTargets(t, b)
	}
	code := impl.CompileCore(impl.ExpandData(readOf(t, "(lambda (x) (f (if (if a b c) x (if d e 1))))")).Cores)
	for i, want := range [][]int64{nil, {5, 6, 9, 13, 14}} {
		if got := impl.TargetsIn(code.Blocks[i]); got.Code != impl.OK || !slices.Equal(got.List, want) {
			t.Errorf("TargetsIn of block %d = %+v, not %v", i, got, want)
		}
	}
	all := block(0)
	for i := range int64(200) {
		all.Ops = append(all.Ops, jump(199-i))
	}
	if got := impl.TargetsIn(all); len(got.List) != 200 || !slices.IsSorted(got.List) {
		t.Errorf("all are targets: %+v", got)
	}
}

func TestCodeTextKinds(t *testing.T) {
	code := blocks(
		block(0, opData(impl.OpConst, readOf(t, "(a 'b #t -3)")...), opNums(impl.OpLocal, 1, 2), opName(impl.OpGlobal, "f"), opNums(impl.OpClosure, 3), opNums(impl.OpJump, 4),
			opNums(impl.OpIfNot, 5), opNums(impl.OpPop), opName(impl.OpSet, "x"), opName(impl.OpDef, "y")),
		block(3),
		block(2, opNums(impl.OpCall, 0), opNums(impl.OpTail, 3), opReturn(), opData(impl.OpConstReturn, datList(-1)), opNums(impl.OpLocalReturn, 6, 0),
			opNums(impl.OpLocalLocal, 7, 0, 8, 999), opNums(impl.OpLocalIfNot, 0, 9, 10)))
	want := "block 0 0\n0: const (a (quote b) #t -3)\n1: local 1 2\n2: global f\n3: closure 3\n4: jump 4\n5: ifnot 5\n6: pop\n7: set x\n8: def y\n" +
		"block 1 3\n" +
		"block 2 2\n0: call 0\n1: tail 3\n2: return\n3: constret ()\n4: localret 6 0\n5: locals 7 0 8 999\n6: localifnot 0 9 10\n"
	if got := impl.CodeText(code); got != (impl.TextResult{Text: want}) {
		t.Errorf("CodeText = %+v, not %s", got, want)
	}
	if got := impl.CodeText(nil); got != (impl.TextResult{}) {
		t.Errorf("CodeText of nothing = %+v", got)
	}
	checkBlocks(t, code)
}

// listText: a list of names whose text has just so many bytes, 3 and more.
func listText(bytes int) []impl.Datum {
	d := data(datList(-1))
	for left := bytes - len("()") + 1; left > 0; { // the first name has no blank ahead
		size := min(left, 13)
		if left == 14 {
			size = 7
		}
		d = append(d, datSym(0, "abcdefghijkl"[:size-1]))
		left -= size
	}
	return d
}

// codeText: code whose text has just so many bytes.
func codeText(bytes int) []impl.Block {
	code := blocks(block(0))
	left := bytes - len("block 0 0\n")
	for {
		last := &code[len(code)-1]
		place := strconv.Itoa(len(last.Ops))
		switch {
		case len(last.Ops) == 200:
			code = append(code, block(0))
			left -= len("block 1 0\n")
		case left > 100:
			last.Ops = append(last.Ops, opName(impl.OpGlobal, "abcdefghijkl"))
			left -= len(place + ": global abcdefghijkl\n")
		default:
			last.Ops = append(last.Ops, opData(impl.OpConst, listText(left-len(place+": const \n"))...))
			return code
		}
	}
}

func TestCodeTextBytes(t *testing.T) {
	for bytes := 5970; bytes <= 6030; bytes++ {
		code := codeText(bytes)
		if n := len(wantCodeText(code)); n != bytes || wantBlocksFault(code) != impl.OK {
			t.Fatalf("a text of %d bytes, not %d", n, bytes)
		}
		got := impl.CodeText(code)
		if want := (impl.TextResult{Text: wantCodeText(code)}); bytes <= 6000 && got != want || bytes > 6000 && got != (impl.TextResult{Code: impl.ErrMany}) {
			t.Errorf("CodeText of %d bytes = %+v", bytes, got)
		}
		if count := impl.CountOps(code); count.Code != impl.OK || count.Value < 200 {
			t.Errorf("CountOps asks how long the text is: %+v", count)
		}
	}
	// Data of more bytes than are written of data alone.
	long := append(data(datList(-1)), slices.Repeat(data(datSym(0, "abcdefghijkl")), 79)...)
	checkBlocks(t, blocks(block(0, opData(impl.OpConst, long...), opReturn())))
	if n := len(impl.CodeText(blocks(block(0, opData(impl.OpConstReturn, long...)))).Text); n != len("block 0 0\n0: constret \n")+1+79*13 {
		t.Errorf("a const of %d bytes", n)
	}
	// The greatest code of all.
	full := slices.Repeat(blocks(block(3, slices.Repeat([]impl.Op{opData(impl.OpConst, long...)}, 200)...)), 60)
	if got := impl.CodeText(full); got != (impl.TextResult{Code: impl.ErrMany}) {
		t.Errorf("CodeText of the greatest code: %d, %d bytes", got.Code, len(got.Text))
	}
}

func TestSameCode(t *testing.T) {
	if !impl.SameCode(nil, nil) || !impl.SameCode(nil, blocks()) || !impl.SameCode(blocks(), nil) {
		t.Error("empty lists are not the same")
	}
	emptyOps := blocks(impl.Block{Ops: []impl.Op{}})
	emptyData := blocks(block(0, impl.Op{Data: data()}))
	if !impl.SameCode(emptyOps, make([]impl.Block, 1)) || !impl.SameCode(make([]impl.Block, 1), emptyOps) {
		t.Error("empty Ops are not the same")
	}
	if !impl.SameCode(emptyData, blocks(block(0, impl.Op{}))) || !impl.SameCode(blocks(block(0, impl.Op{})), emptyData) {
		t.Error("empty Data are not the same")
	}
	s := dice(31337)
	odd := blocks(block(-7, impl.Op{Kind: -5, A: math.MinInt64, B: -1, C: 1000, D: math.MaxInt64, Name: "\xff", Data: data(datNum(9, impl.MaxNum+1))}))
	list := [][]impl.Block{emptyOps, emptyData, odd, make([]impl.Block, 100), blocks(block(9, make([]impl.Op, 300)...)), blocks(block(0, opData(impl.OpConst, wideData(100)...)))}
	for range 300 {
		if code := s.code(4, 6); len(code) > 0 {
			list = append(list, code)
		}
	}
	for _, c := range someCores(100, 40, 6) {
		list = append(list, impl.CompileCore(c).Blocks)
	}
	for _, code := range list {
		if !impl.SameCode(code, cloneCode(code)) {
			t.Fatalf("%+v is not the same as itself", code)
		}
		if impl.SameCode(code, nil) || impl.SameCode(nil, code) || impl.SameCode(code, code[1:]) || impl.SameCode(code[:len(code)-1], code) {
			t.Fatalf("%+v is the same as less of it", code)
		}
		for i := range code {
			checkApart(t, code, i)
		}
	}
	a, b := list[6], list[7]
	if impl.SameCode(a, b) != equalCode(a, b) {
		t.Errorf("SameCode of %+v and %+v", a, b)
	}
}

// checkApart turns each thing of a block by itself: the code is another one then.
func checkApart(t *testing.T, code []impl.Block, at int) {
	t.Helper()
	check := func(turn func(b *impl.Block)) {
		t.Helper()
		turned := cloneCode(code)
		turn(&turned[at])
		if impl.SameCode(code, turned) || impl.SameCode(turned, code) {
			t.Fatalf("%+v is the same as %+v", code, turned)
		}
	}
	check(func(b *impl.Block) { b.Args++ })
	check(func(b *impl.Block) { b.Ops = append(b.Ops, impl.Op{}) })
	for k := range code[at].Ops {
		for _, turn := range []func(*impl.Op){
			func(o *impl.Op) { o.Kind++ }, func(o *impl.Op) { o.A++ }, func(o *impl.Op) { o.B++ }, func(o *impl.Op) { o.C++ }, func(o *impl.Op) { o.D++ },
			func(o *impl.Op) { o.Name += "a" }, func(o *impl.Op) { o.Data = append(o.Data, datNum(0, 1)) },
			func(o *impl.Op) {
				if len(o.Data) > 0 {
					o.Data[len(o.Data)-1].Parent++
				} else {
					o.Data = make([]impl.Datum, 1)
				}
			},
		} {
			check(func(b *impl.Block) { turn(&b.Ops[k]) })
		}
		check(func(b *impl.Block) { b.Ops = slices.Delete(b.Ops, k, k+1) })
	}
}

func namesIn(code []impl.Block) []string {
	var list []string
	for _, b := range code {
		for _, o := range b.Ops {
			list = append(list, o.Name)
			for _, d := range o.Data {
				list = append(list, d.Name)
			}
		}
	}
	return list
}

// spoilCode writes into all lists of code, and behind each of them.
func spoilCode(code []impl.Block) {
	for i := range code {
		for k := range code[i].Ops {
			d := append(code[i].Ops[k].Data, datNum(-9, -9))
			for j := range d {
				d[j] = impl.Datum{Kind: -1, Parent: -9, Num: -1, Name: "changed"}
			}
		}
		ops := append(code[i].Ops, impl.Op{})
		for k := range ops {
			ops[k] = impl.Op{Kind: -1, A: -9, Name: "changed"}
		}
	}
}

// Promise 1: the same again behind other calls, in new memory that can be written into, and no argument is changed.
func TestPromise1Compile(t *testing.T) {
	list := append(someCores(300, 60, 7), someCores(100, 300, 20)...)
	for _, c := range someCores(300, 20, 4) {
		c[len(c)-1].Parent++
		list = append(list, c)
	}
	long := strings.Clone("abcdefghijkl")
	for _, c := range append(list, nil, rowOf(161), opRow(201), lambdaRow(60), cores(coreGlobal(-1, long)), cores(coreConst(-1, datSym(-1, long))), cores(coreName(impl.CoreSet, -1, long), coreConst(0, datSym(-1, long)))) {
		kept := cloneCores(c)
		first, again := impl.CompileCore(c), impl.CompileCore(c)
		if !equalCores(c, kept) || first.Code != again.Code || !equalCode(first.Blocks, again.Blocks) {
			t.Fatalf("CompileCore(%+v) = %+v, then %+v", kept, first, again)
		}
		for _, name := range namesIn(first.Blocks) {
			for _, x := range c {
				if !apart(x.Name, name) || slices.ContainsFunc(x.Data, func(d impl.Datum) bool { return !apart(d.Name, name) }) {
					t.Fatalf("the name %q is handed on", name)
				}
			}
		}
		// A list that shares memory with another one, or has room in it, would be written into there.
		for i := range first.Blocks {
			spoilCode(first.Blocks[i : i+1])
			if !equalCode(first.Blocks[i+1:], again.Blocks[i+1:]) {
				t.Fatalf("blocks behind %d share memory with it", i)
			}
		}
		third := impl.CompileCore(c)
		for i := range third.Blocks {
			for k := range third.Blocks[i].Ops {
				spoilCode(blocks(block(0, third.Blocks[i].Ops[k])))
				if slices.ContainsFunc(third.Blocks[i].Ops[k+1:], func(o impl.Op) bool { return slices.Contains(o.Data, datNum(-9, -9)) }) || !slices.EqualFunc(third.Blocks[i].Ops[k+1:], again.Blocks[i].Ops[k+1:], equalOps) {
					t.Fatalf("the Data of operation %d of block %d share memory", k, i)
				}
			}
		}
		if fourth := impl.CompileCore(c); !equalCores(c, kept) || fourth.Code != again.Code || !equalCode(fourth.Blocks, again.Blocks) {
			t.Fatalf("CompileCore(%+v) = %+v behind a change of its answer, not %+v", c, fourth, again)
		}
	}
}

func TestPromise1Code(t *testing.T) {
	s := dice(271828)
	list := [][]impl.Block{nil, make([]impl.Block, 61), blocks(block(4)), blocks(block(0, opName(impl.OpGlobal, strings.Clone("abc")))), blocks(block(0, opData(impl.OpConst, datSym(-1, strings.Clone("abc")))))}
	for range 300 {
		code := s.code(4, 10)
		list = append(list, code)
		if len(code) > 0 {
			list = append(list, s.turn(code))
		}
	}
	for _, code := range list {
		kept := cloneCode(code)
		count, text, same := impl.CountOps(code), impl.CodeText(code), impl.SameCode(code, kept)
		for _, name := range namesIn(code) {
			if !apart(name, text.Text) {
				t.Fatalf("the name %q is handed on", name)
			}
		}
		for i, b := range code {
			targets := impl.TargetsIn(b)
			told := slices.Clone(targets.List)
			for k := range targets.List {
				targets.List[k] = -9
			}
			if again := impl.TargetsIn(b); again.Code != targets.Code || !slices.Equal(again.List, told) {
				t.Fatalf("TargetsIn of block %d of %+v = %+v, then %+v", i, code, told, again)
			}
			for _, o := range b.Ops {
				if impl.OpFault(o) != impl.OpFault(o) {
					t.Fatalf("OpFault of %+v: not the same again", o)
				}
			}
		}
		if !same || impl.CountOps(code) != count || impl.CodeText(code) != text || !equalCode(code, kept) {
			t.Fatalf("%+v is not as it was, %+v", code, kept)
		}
	}
}

// Promise 10: what is compiled holds, whatever form it is of, as far as it is not too many.
func TestPromise10(t *testing.T) {
	held := 0
	holds := func(c []impl.Core) {
		t.Helper()
		got := impl.CompileCore(c)
		if got.Code != impl.OK && got.Code != impl.ErrMany {
			t.Fatalf("%s is compiled to the code %d", wantCoreText(c, 0), got.Code)
		}
		if got.Code != impl.OK {
			return
		}
		held++
		checkHolds(t, c, got.Blocks)
	}
	for _, lines := range scripts() {
		for _, line := range lines {
			if means := impl.ExpandData(impl.ReadData(line).Data); means.Code == impl.OK {
				holds(means.Cores)
			}
		}
	}
	for _, d := range someForms(8000, 20) {
		if means := impl.ExpandData(d); means.Code == impl.OK {
			holds(means.Cores)
		}
	}
	for _, c := range append(someCores(4000, 120, 9), someCores(1000, 300, 40)...) {
		holds(c)
	}
	for _, count := range []int{1, 2, 3, 60, 160} {
		for _, kind := range []int64{impl.CoreSeq, impl.CoreApp, impl.CoreLambda} {
			holds(chainOf(count, kind))
		}
	}
	for ops := 4; ops <= 200; ops++ {
		holds(opRow(ops))
		holds(inLambda(opRow(ops)))
	}
	if held < 5000 {
		t.Errorf("only %d were compiled", held)
	}
	smallForms(holds)
}

// smallForms tells all forms up to a depth, of each kind of core in each place.
func smallForms(tell func(c []impl.Core)) {
	var leaves, forms []string
	leaves = []string{"1", "x", "a", "(lambda (x) x)"}
	forms = leaves
	for range 2 {
		var next []string
		for i, f := range forms {
			g, h := leaves[i%len(leaves)], forms[(i*7+3)%len(forms)]
			next = append(next, "(if "+f+" "+g+" "+h+")", "(if "+g+" "+f+" "+h+")", "(if "+g+" "+h+" "+f+")", "(begin "+f+")", "(begin "+f+" "+g+")", "(begin "+g+" "+f+")",
				"("+f+")", "("+f+" "+g+")", "("+g+" "+f+" "+h+")", "(set! a "+f+")", "(lambda (x y) "+f+")", "(let ((x "+f+")) "+g+")", "(let ((x "+g+")) "+f+")")
		}
		forms = append(leaves[:len(leaves):len(leaves)], next...)
		for _, f := range forms {
			for _, whole := range []string{f, "(define y " + f + ")", "(lambda (x) " + f + ")"} {
				if means := impl.ExpandData(impl.ReadData(whole).Data); means.Code == impl.OK {
					tell(means.Cores)
				}
			}
		}
	}
}
