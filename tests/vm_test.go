package tests

import (
	"fmt"
	"math"
	"runtime"
	"runtime/debug"
	"slices"
	"strings"
	"testing"

	"loop.example/g00349/impl"
)

// A slot of the stack by hand is a value, or a mark: where it goes on. The mark of no code is where a line ends.
type slot struct {
	value impl.Value
	mark  *spot
}
type spot struct {
	code  []impl.Block
	block int64
	at    int64
	args  *argsByHand
}

// stackRun does plain code by hand. Its stack is one list, copied whole where it is caught and where it is put back; a site remembers how often its global had been turned.
type stackRun struct {
	pairs   []impl.Pair
	globals []impl.Global
	procs   []spot
	caught  [][]slot
	stack   []slot
	now     *spot
	value   impl.Value
	turns   map[string]int
	sites   map[*impl.Op]int
	fuel    int64
	calls   int64
	hits    int64
	deep    int64
}

func newStackRun() *stackRun {
	return &stackRun{globals: newRun().globals, turns: map[string]int{}, sites: map[*impl.Op]int{}}
}

func (x *stackRun) put(s slot) {
	x.stack = append(x.stack, s)
	x.deep = max(x.deep, int64(len(x.stack)))
}

func (x *stackRun) putValue(v impl.Value) { x.put(slot{value: v}) }

func (x *stackRun) take() slot {
	last := len(x.stack) - 1
	s := x.stack[last]
	x.stack = x.stack[:last]
	return s
}

func (x *stackRun) giveBack(v impl.Value) {
	if x.now = x.take().mark; x.now.code == nil {
		x.value = v
		return
	}
	x.putValue(v)
}

func (x *stackRun) constant(d []impl.Datum) {
	all := slices.Clip(x.pairs)
	x.putValue(putByHand(&all, d, 0))
	if len(all) > 4000 {
		stop(impl.ErrMany)
	}
	x.pairs = all
}

func (x *stackRun) fetch(o *impl.Op) {
	at := placeOf(x.globals, o.Name)
	if at < 0 {
		stop(impl.ErrNone)
	}
	if turns, ok := x.sites[o]; ok && turns == x.turns[o.Name] {
		x.hits++
	}
	x.sites[o] = x.turns[o.Name]
	x.putValue(x.globals[at].Value)
}

func (x *stackRun) turn(o *impl.Op) {
	turned := wantDefine(x.globals, o.Name, x.take().value, o.Kind == impl.OpSet)
	if turned.Code != impl.OK {
		stop(turned.Code)
	}
	x.globals = turned.Globals
	x.turns[o.Name]++
	x.putValue(valNone())
}

func (x *stackRun) apply(what impl.Value, args []impl.Value) {
	if x.calls == x.fuel {
		stop(impl.ErrFuel)
	}
	x.calls++
	one := func() {
		if len(args) != 1 {
			stop(impl.ErrArgs)
		}
	}
	switch {
	case what.Kind == impl.ValProc:
		p := x.procs[what.Num]
		if int64(len(args)) != p.code[p.block].Args {
			stop(impl.ErrArgs)
		}
		x.now = &spot{code: p.code, block: p.block, args: &argsByHand{list: args, out: p.args}}
	case what.Kind == impl.ValCont:
		one()
		x.stack = slices.Clone(x.caught[what.Num])
		x.giveBack(args[0])
	case what == valPrim(15):
		one()
		x.caught = append(x.caught, slices.Clone(x.stack))
		x.apply(args[0], values(valCont(int64(len(x.caught)-1))))
	case what.Kind == impl.ValPrim:
		came := wantApply(x.pairs, what.Num, args)
		if came.Code != impl.OK {
			stop(came.Code)
		}
		x.pairs = came.Pairs
		x.giveBack(came.Value)
	default:
		stop(impl.ErrType)
	}
}

func (x *stackRun) call(o *impl.Op) {
	from := len(x.stack) - int(o.A)
	var args []impl.Value
	for _, s := range x.stack[from:] {
		args = append(args, s.value)
	}
	what := x.stack[from-1].value
	x.stack = x.stack[:from-1]
	if o.Kind == impl.OpCall {
		x.put(slot{mark: x.now})
	}
	x.apply(what, args)
}

func (x *stackRun) step() {
	o := &x.now.code[x.now.block].Ops[x.now.at]
	here := *x.now
	here.at++
	x.now = &here
	switch o.Kind {
	case impl.OpConst:
		x.constant(o.Data)
	case impl.OpLocal:
		args := here.args
		for range o.A {
			args = args.out
		}
		x.putValue(args.list[o.B])
	case impl.OpGlobal:
		x.fetch(o)
	case impl.OpClosure:
		x.procs = append(x.procs, spot{code: here.code, block: o.A, args: here.args})
		x.putValue(valProc(int64(len(x.procs) - 1)))
	case impl.OpJump:
		x.now.at = o.A
	case impl.OpIfNot:
		if x.take().value == valBool(0) {
			x.now.at = o.A
		}
	case impl.OpPop:
		x.take()
	case impl.OpSet, impl.OpDef:
		x.turn(o)
	case impl.OpCall, impl.OpTail:
		x.call(o)
	case impl.OpReturn:
		x.giveBack(x.take().value)
	}
}

func (x *stackRun) evaluate(code []impl.Block) (fault int64) {
	defer func() {
		if caught := recover(); caught != nil {
			fault = int64(caught.(runFault))
		}
	}()
	x.stack = nil
	x.put(slot{mark: &spot{}})
	for x.now = (&spot{code: code}); x.now.code != nil; {
		x.step()
	}
	return impl.OK
}

func (x *stackRun) line(text string, fuel int64) string {
	x.fuel, x.calls = fuel, 0
	made := wantPlain(text)
	code := made.Code
	if code == impl.OK {
		code = x.evaluate(made.Blocks)
	}
	if code == impl.OK {
		code = wantIn(x.pairs, x.value)
	}
	if code != impl.OK {
		return fmt.Sprintf("! %d", code)
	}
	return wantFirst(x.pairs, x.value)
}

// wantStats is what comes with sites that remember; the settings turn nothing else of it.
func wantStats(lines []string, fuel int64) (*stackRun, impl.StatResult) {
	if code := wantLinesFault(lines, fuel); code != impl.OK {
		return nil, impl.StatResult{Code: code}
	}
	x, result := newStackRun(), impl.StatResult{}
	for _, line := range lines {
		result.Texts = append(result.Texts, x.line(line, fuel))
		result.Calls = append(result.Calls, x.calls)
	}
	result.Pairs, result.Hits, result.Deep = int64(len(x.pairs)), x.hits, x.deep
	return x, result
}

func runOf(s impl.StatResult) impl.RunResult {
	return impl.RunResult{Code: s.Code, Texts: s.Texts, Calls: s.Calls, Pairs: s.Pairs}
}

func sameStats(a, b impl.StatResult) bool {
	return sameRun(runOf(a), runOf(b)) && a.Hits == b.Hits && a.Deep == b.Deep
}

// allWays: each table, peeped and plain, with and without sites that remember, by sizes small and great.
func allWays() []impl.Config { return configsOf([]int64{1, 2, 3, 7, 64}, fromTo(0, 15)) }

// someWays: each table once, the rest in turn.
func someWays(turn int) []impl.Config {
	var list []impl.Config
	for table := range int64(16) {
		way := turn + int(table)
		list = append(list, impl.Config{Segment: []int64{1, 2, 3, 7, 64}[way%5], Table: table, Peep: way/2%2 == 0, Cache: way%4 < 2})
	}
	return list
}

// oneWay: all settings in turn, those next to each other far apart.
func oneWay(turn int) impl.Config {
	all := rightConfigs()
	return all[turn*1231%len(all)]
}

func checkStats(t *testing.T, lines []string, fuel int64, c impl.Config, want impl.StatResult) {
	t.Helper()
	if !c.Cache {
		want.Hits = 0
	}
	got := impl.RunCode(lines, fuel, c)
	if !sameStats(got, want) || got.Code != impl.OK && (got.Texts != nil || got.Calls != nil) {
		t.Fatalf("RunCode of %q with %d by %+v = %+v, not %+v", lines, fuel, c, got, want)
	}
}

func checkOneStat(t *testing.T, lines []string, fuel int64, c impl.Config, want impl.StatResult) {
	t.Helper()
	if !c.Cache {
		want.Hits = 0
	}
	if got := impl.DeepestRun(lines, fuel, c); got != (impl.IntResult{Code: want.Code, Value: want.Deep}) {
		t.Fatalf("DeepestRun of %q with %d by %+v = %+v, not %+v", lines, fuel, c, got, want)
	}
	if got := impl.HitsOf(lines, fuel, c); got != (impl.IntResult{Code: want.Code, Value: want.Hits}) {
		t.Fatalf("HitsOf of %q with %d by %+v = %+v, not %+v", lines, fuel, c, got, want)
	}
}

// checkLeft holds all globals against those by hand: the ones that the lines have turned, by both machines, and a name of none.
func checkLeft(t *testing.T, lines []string, fuel int64, c impl.Config, x *stackRun) {
	t.Helper()
	want := map[string]impl.TextResult{"none": {Code: impl.ErrNone}, "None": {Code: impl.ErrText}}
	for i, g := range x.globals {
		if i >= 16 || g.Version > 1 || g.Name == "car" {
			want[g.Name] = impl.TextResult{Text: wantFirst(x.pairs, g.Value)}
		}
	}
	for name, text := range want {
		if got, tree := impl.CodeGlobal(lines, fuel, c, name), impl.TreeGlobal(lines, fuel, name); got != text || tree != text {
			t.Fatalf("CodeGlobal of %q with %d by %+v, %q = %+v, TreeGlobal %+v, not %+v", lines, fuel, c, name, got, tree, text)
		}
	}
}

// checkRuns holds lines by some settings against the stack by hand, and that against the tree machine.
func checkRuns(t *testing.T, lines []string, fuel int64, ways ...impl.Config) (*stackRun, impl.StatResult) {
	t.Helper()
	x, want := wantStats(lines, fuel)
	if tree := impl.RunTree(lines, fuel); !sameRun(tree, runOf(want)) {
		t.Fatalf("RunTree of %q with %d = %+v, by hand on a stack %+v", lines, fuel, tree, want)
	}
	for _, c := range ways {
		checkStats(t, lines, fuel, c, want)
	}
	return x, want
}

// checkBoth asks for all globals behind the lines as well.
func checkBoth(t *testing.T, lines []string, fuel int64, ways ...impl.Config) impl.StatResult {
	t.Helper()
	x, want := checkRuns(t, lines, fuel, ways...)
	if want.Code == impl.OK {
		checkLeft(t, lines, fuel, ways[0], x)
	}
	return want
}

// A script that is told leaves pairs, hits (with sites that remember), and how high a stack has been.
type left struct {
	pairs int64
	hits  int64
	deep  int64
}

func checkTold(t *testing.T, fuel int64, all left, script ...said) {
	t.Helper()
	checkToldBy(t, allWays(), fuel, all, script...)
}

func checkToldBy(t *testing.T, ways []impl.Config, fuel int64, all left, script ...said) {
	t.Helper()
	var lines []string
	want := impl.StatResult{Pairs: all.pairs, Hits: all.hits, Deep: all.deep}
	for _, s := range script {
		lines = append(lines, s.line)
		want.Texts = append(want.Texts, s.text)
		want.Calls = append(want.Calls, s.calls)
	}
	for _, c := range ways {
		checkStats(t, lines, fuel, c, want)
	}
	for _, c := range someWays(len(lines)) {
		checkOneStat(t, lines, fuel, c, want)
	}
	if byHand := checkBoth(t, lines, fuel, allWays()[len(lines)]); !sameStats(byHand, want) {
		t.Fatalf("by hand of %q with %d: %+v, not %+v", lines, fuel, byHand, want)
	}
}

// checkDeep is for one line by itself, without pairs and hits.
func checkDeep(t *testing.T, deep int64, line string, text string, calls int64) {
	t.Helper()
	checkTold(t, 100, left{deep: deep}, said{line, text, calls})
}

// How high the stack is by each kind of operation: the mark of the end, and what is put on it.
func TestDeepKinds(t *testing.T) {
	checkTold(t, 100, left{})
	for line, text := range map[string]string{
		"7": "7", "#f": "#f", "'x": "x", "'()": "()", "car": "#prim", "(lambda (x) (car x))": "#proc", "(if #f 1 2)": "2", "(if #t 1 2)": "1", "(begin 1 2 3)": "3", "(begin (begin 1 2) (begin 3))": "3",
		"(define x 1)": "#none", "(set! car 1)": "#none", "(set! none 1)": "! 4", "(begin (set! car 1) (set! cdr 2))": "#none", "(if (if #t #f #t) 1 (if #t 2 3))": "2",
	} {
		checkDeep(t, 2, line, text, 0)
	}
	checkDeep(t, 1, "x", "! 4", 0)
	checkDeep(t, 1, "(if x 1 2)", "! 4", 0)
	checkDeep(t, 1, "(none 1 2)", "! 4", 0)
	checkDeep(t, 3, "(car 1 none)", "! 4", 0)
	checkDeep(t, 2, "(begin 1 none 2)", "! 4", 0)
	for _, line := range []string{"(", "", "1 2", "A", "(if)", "(f 1 2 3 4)", times(13, "("), "(begin (define x 1))"} {
		x, want := wantStats([]string{line}, 100)
		if x.deep != 0 || want.Deep != 0 {
			t.Fatalf("%q is run by hand", line)
		}
		checkDeep(t, 0, line, want.Texts[0], 0)
	}
	checkDeep(t, 2, "(list)", "()", 1)
	checkDeep(t, 2, "(1)", "! 6", 1)
	checkDeep(t, 3, "(car 1)", "! 6", 1)
	checkDeep(t, 4, "(+ 1 2)", "3", 1)
	checkDeep(t, 5, "(+ 1 2 3)", "! 8", 1)
	checkDeep(t, 6, "(+ 1 (+ 2 3))", "6", 2)
	checkDeep(t, 5, "(+ (+ 1 2) 3)", "6", 2)
	checkDeep(t, 6, "(+ (+ 1 2) (+ 3 4))", "10", 3)
	checkDeep(t, 8, "(+ 1 (+ 2 (+ 3 4)))", "10", 3)
	checkDeep(t, 5, "(set! none (+ 1 (car 2)))", "! 6", 1)
	checkDeep(t, 4, "(begin (+ 1 2) (if (+ 3 4) (+ 5 6) 7))", "11", 3)
	checkTold(t, 100, left{pairs: 3, deep: 5}, said{"(list 1 2 3)", "(1 2 3)", 1})
	checkTold(t, 100, left{pairs: 3, deep: 2}, said{"'(1 2 3)", "(1 2 3)", 0})
	// The greatest of all lines.
	checkTold(t, 100, left{deep: 6}, said{"1", "1", 0}, said{"(+ 1 (+ 2 3))", "6", 2}, said{"(", "! 1", 0}, said{"(+ 1 2)", "3", 1}, said{"none", "! 4", 0})
	checkTold(t, 100, left{deep: 1}, said{"none", "! 4", 0}, said{"(", "! 1", 0}, said{"(none)", "! 4", 0})
}

// What is applied is gone from the stack when a procedure begins; a mark is there in its place, but not at the end.
func TestDeepProcedures(t *testing.T) {
	checkDeep(t, 2, "((lambda () 1))", "1", 1)
	checkDeep(t, 3, "((lambda (x) x) 5)", "5", 1)
	checkDeep(t, 5, "((lambda (x y z) y) 5 6 7)", "6", 1)
	checkDeep(t, 3, "((lambda (x) 1) 5)", "1", 1)
	checkDeep(t, 4, "((lambda () (+ 1 2)))", "3", 2)
	checkDeep(t, 6, "(+ ((lambda () (+ 1 2))) 4)", "7", 3)
	checkDeep(t, 7, "(+ 1 ((lambda () (+ 1 2))))", "4", 3)
	checkDeep(t, 5, "(begin ((lambda () (+ 1 2))) 4)", "4", 2)
	checkDeep(t, 4, "(begin 4 ((lambda () (+ 1 2))))", "3", 2)
	checkDeep(t, 5, "(if ((lambda () (+ 1 2))) 4 5)", "4", 2)
	checkDeep(t, 4, "(if 1 ((lambda () (+ 1 2))) 5)", "3", 2)
	checkDeep(t, 4, "(if #f 1 ((lambda () (+ 1 2))))", "3", 2)
	checkDeep(t, 5, "(set! car ((lambda () (+ 1 2))))", "#none", 2)
	checkDeep(t, 5, "(define car ((lambda () (+ 1 2))))", "#none", 2)
	checkDeep(t, 4, "(let ((x 1)) (let ((y x)) (+ x y)))", "2", 3)
	checkDeep(t, 2, "((lambda (x) x))", "! 8", 1)
	checkDeep(t, 3, "((lambda () (none)) 1)", "! 8", 1)
	checkDeep(t, 4, "(+ 1 ((lambda () none)))", "! 4", 1)
	checkDeep(t, 5, "(+ 1 ((lambda () 2)))", "3", 2)
	// Of two at once each counts by itself.
	checkDeep(t, 5, "(let ((x 5)) (+ 1 ((lambda () x))))", "6", 3)
	checkDeep(t, 5, "(let ((x 5)) (+ 1 ((lambda () (if x none 8)))))", "! 4", 2)
	checkDeep(t, 4, "(let ((x 5)) (+ 1 ((lambda () none))))", "! 4", 2)
	checkDeep(t, 6, "(let ((x 5)) (+ 1 ((lambda () (x x)))))", "! 6", 3)
}

const sumLine = "(define f (lambda (n) (if (< n 1) 0 (+ n (f (- n 1))))))"

// Each round of a sum leaves the primitive, a number and a mark; above these the next round puts six, or three where it ends.
func TestDeepRounds(t *testing.T) {
	for n := range int64(12) {
		text := fmt.Sprint(n * (n + 1) / 2)
		deep := 3*n + 4
		checkTold(t, 100, left{hits: max(0, 4*n-3), deep: deep}, said{sumLine, "#none", 0}, said{fmt.Sprintf("(f %d)", n), text, 4*n + 2})
	}
	// Fuel is used up where 133 rounds wait for one another: the next one has no more than its first operations.
	checkTold(t, 400, left{hits: 133 + 3*132, deep: 1 + 3*133 + 3}, said{sumLine, "#none", 0}, said{"(f 1000)", "! 9", 400})
}

// Promise 15: a call at the end takes no room, however often it is done.
func TestPromise15AtEnd(t *testing.T) {
	for _, w := range []struct {
		loop string
		each int64
		deep int64
	}{
		{"(define f (lambda (n) (if (= n 0) 'end (f (- n 1)))))", 3, 5},
		{"(define f (lambda (n) (if (= n 0) 'end (begin 1 n (f (- n 1))))))", 3, 5},
		{"(define f (lambda (n) (if (= n 0) 'end (if n (if #f 1 (f (- n 1))) 2))))", 3, 5},
		{"(define f (lambda (n) (if (= n 0) 'end (let ((m (- n 1))) (f m)))))", 4, 5},
		{"(define f (lambda (n) (if (= n 0) 'end (let ((m n)) (let ((k m)) (f (- k 1)))))))", 5, 5},
		{"(define f (lambda (n) (if (= n 0) 'end ((lambda () (f (- n 1)))))))", 4, 5},
		{"(define f (lambda (n) (if (= n 0) 'end (call/cc (lambda (k) (f (- n 1)))))))", 5, 5},
		{"(define f (lambda (n) (if (= n 0) 'end (begin (call/cc (lambda (k) (k (f 0)))) (f (- n 1))))))", 8, 7},
		{"(define f (lambda (n) (if (= n 0) 'end ((call/cc call/cc) (lambda (k) (f (- n 1)))))))", 8, 5},
	} {
		most := (400 - 2) / w.each
		seen := map[int64]bool{}
		for _, n := range []int64{1, 2, 3, 30, most} {
			lines := []string{w.loop, fmt.Sprintf("(f %d)", n)}
			got := checkBoth(t, lines, 400, someWays(int(n))...)
			if got.Texts[1] != "end" || got.Calls[1] != 2+n*w.each {
				t.Fatalf("%q comes to %+v", lines, got)
			}
			seen[got.Deep] = true
			if got.Deep != w.deep {
				t.Errorf("%q is %d deep, not %d", lines, got.Deep, w.deep)
			}
		}
		// As often as the fuel allows, and once more.
		lines := []string{w.loop, fmt.Sprintf("(f %d)", most+1)}
		if got := checkBoth(t, lines, 400, someWays(0)...); got.Texts[1] != "! 9" || got.Calls[1] != 400 || got.Deep != w.deep || len(seen) != 1 {
			t.Errorf("%q comes to %+v", lines, got)
		}
	}
	// Two that call one another, in later lines as well.
	odd := []said{{"(define odd (lambda (n) (if (= n 0) #f (even (- n 1)))))", "#none", 0}, {"(define even (lambda (n) (if (= n 0) #t (odd (- n 1)))))", "#none", 0}}
	checkTold(t, 400, left{hits: 4 + 4, deep: 5}, append(odd, said{"(even 3)", "#f", 11}, said{"(odd 1)", "#t", 5})...)
	checkTold(t, 400, left{hits: 3*65 + 65 + 2*64 + 4, deep: 5}, append(odd, said{"(even 131)", "#f", 395}, said{"(odd 1)", "#t", 5})...)
	// The same not at the end takes room each time.
	checkTold(t, 400, left{hits: 7, deep: 7}, said{"(define f (lambda (n) (if (= n 0) 'end (begin (f (- n 1)) 'end))))", "#none", 0}, said{"(f 3)", "end", 11})
}

// Hits: a site is one fetch of a block, whoever comes to it; each line has a block of its own.
func TestHitsSites(t *testing.T) {
	checkTold(t, 100, left{deep: 2}, said{"car", "#prim", 0}, said{"car", "#prim", 0}, said{"(begin car car car)", "#prim", 0})
	get := said{"(define g (lambda () car))", "#none", 0}
	checkTold(t, 100, left{deep: 2}, get, said{"(g)", "#prim", 1})
	checkTold(t, 100, left{hits: 1, deep: 2}, get, said{"(g)", "#prim", 1}, said{"(g)", "#prim", 1})
	checkTold(t, 100, left{hits: 3, deep: 3}, get, said{"(g)", "#prim", 1}, said{"(begin (g) (g))", "#prim", 2}, said{"(g)", "#prim", 1})
	// Two sites of one block, of the same global and of two.
	checkTold(t, 100, left{hits: 4, deep: 2}, said{"(define g (lambda () (begin car car)))", "#none", 0}, said{"(g)", "#prim", 1}, said{"(g)", "#prim", 1}, said{"(g)", "#prim", 1})
	checkTold(t, 100, left{hits: 2, deep: 3}, said{"(define g (lambda (x) (if x car cdr)))", "#none", 0}, said{"(g 1)", "#prim", 1}, said{"(g #f)", "#prim", 1}, said{"(g 2)", "#prim", 1}, said{"(g #f)", "#prim", 1})
	// All procedures of one block share its sites; two blocks of the same text do not.
	checkTold(t, 100, left{hits: 2, deep: 3},
		said{"(define make (lambda (x) (lambda () (begin x car))))", "#none", 0},
		said{"((make 1))", "#prim", 2}, said{"((make 2))", "#prim", 2}, said{"((make 3))", "#prim", 2})
	checkTold(t, 100, left{deep: 3}, said{"((lambda () car))", "#prim", 1}, said{"((lambda () car))", "#prim", 1}, said{"(begin ((lambda () car)) ((lambda () car)))", "#prim", 2})
	// A block of an earlier line has its memory still, a line between that is no form or ends with a code takes nothing of it.
	checkTold(t, 100, left{hits: 2, deep: 3}, get, said{"(g)", "#prim", 1}, said{"(", "! 1", 0}, said{"(g)", "#prim", 1}, said{"(car none)", "! 4", 0}, said{"(car 1)", "! 6", 1}, said{"(g)", "#prim", 1})
	// What has no value is not remembered.
	checkTold(t, 100, left{hits: 1, deep: 2}, said{"(define g (lambda () x))", "#none", 0}, said{"(g)", "! 4", 1}, said{"(g)", "! 4", 1}, said{"(define x 1)", "#none", 0}, said{"(g)", "1", 1}, said{"(g)", "1", 1})
	// The form itself is a block whose sites are come to again by a continuation, in the same line and in a later one.
	checkTold(t, 100, left{hits: 4, deep: 4},
		said{"(define k 0)", "#none", 0},
		said{"(begin (call/cc (lambda (c) (set! k c))) (+ 1 2))", "3", 3},
		said{"(k 0)", "3", 2}, said{"(k 0)", "3", 2}, said{"(begin (k 0) (k 0))", "3", 2}, said{"(if (k 0) 1 2)", "3", 2})
	checkTold(t, 100, left{hits: 3 + 2 + 2, deep: 4},
		said{"(define n 3)", "#none", 0}, said{"(define k 0)", "#none", 0},
		said{"(begin (call/cc (lambda (c) (set! k c))) (if (< 0 n) (begin (set! n (- n 1)) (k 0)) 'end))", "end", 2 + 4 + 3*2}, said{"n", "0", 0})
}

// Promise 15: a global that is turned is seen by all that was compiled before, while it runs as well.
func TestHitsTurned(t *testing.T) {
	x, g := said{"(define x 1)", "#none", 0}, said{"(define g (lambda () x))", "#none", 0}
	// Behind a set! and behind a define of that very global, in the same line and in a later one.
	checkTold(t, 100, left{hits: 2, deep: 3}, x, g, said{"(begin (g) (g) (set! x 2) (g) (g))", "2", 4})
	checkTold(t, 100, left{hits: 2, deep: 2}, x, g, said{"(g)", "1", 1}, said{"(g)", "1", 1}, said{"(set! x 2)", "#none", 0}, said{"(g)", "2", 1}, said{"(g)", "2", 1})
	checkTold(t, 100, left{hits: 2, deep: 2}, x, g, said{"(g)", "1", 1}, said{"(g)", "1", 1}, said{"(define x 2)", "#none", 0}, said{"(g)", "2", 1}, said{"(g)", "2", 1})
	// Also where it is what it was before.
	checkTold(t, 100, left{hits: 0, deep: 2}, x, g, said{"(g)", "1", 1}, said{"(set! x 1)", "#none", 0}, said{"(g)", "1", 1}, said{"(define x 1)", "#none", 0}, said{"(g)", "1", 1})
	// Another global that is turned or comes anew, and one that could not be turned, are nothing to it.
	checkTold(t, 100, left{hits: 4, deep: 3}, x, g, said{"(g)", "1", 1}, said{"(set! g (lambda () x))", "#none", 0}, said{"(define y 1)", "#none", 0}, said{"(g)", "1", 1},
		said{"(g)", "1", 1}, said{"(set! none 1)", "! 4", 0}, said{"(g)", "1", 1}, said{"(set! x (car 1))", "! 6", 1}, said{"(begin (g) (g))", "1", 2})
	// Within a procedure, and within what a procedure calls.
	checkTold(t, 100, left{hits: 2, deep: 4}, x, said{"(define g (lambda () (begin (set! x (if (eq? x 1) 2 1)) x)))", "#none", 0}, said{"(g)", "2", 2}, said{"(g)", "1", 2}, said{"(g)", "2", 2})
}

// Parameters one, two and three lambdas out, of each place, as many fused as the tables have.
func TestCodeLocalsOut(t *testing.T) {
	checkTold(t, 100, left{pairs: 3, deep: 5}, said{"((((lambda (x) (lambda (y) (lambda (z) (list x y z)))) 1) 2) 3)", "(1 2 3)", 4})
	checkTold(t, 100, left{pairs: 4, deep: 7}, said{"(((((lambda (x) (lambda (y) (lambda (z) (lambda (w) (cons x (list y z w)))))) 1) 2) 3) 4)", "(1 2 3 4)", 6})
	for place, want := range []string{"1", "2", "3"} {
		param := string("xyz"[place])
		for out, around := range []string{"(lambda (x y z) %s)", "(lambda (x y z) ((lambda (a b) %s) 7 8))", "(lambda (x y z) ((lambda (a) ((lambda (b c) %s) 8 9)) 7))", "(lambda (x y z) ((lambda (a) ((lambda () ((lambda (b c) %s) 8 9)))) 7))"} {
			for _, body := range []string{"%s", "(begin 5 %s)", "(if %s %[1]s 0)", "(if #f 0 %s)", "(+ %s 0)", "(+ 0 %s)", "((lambda () %s))", "((lambda (q) q) %s)", "(+ (* 2 %s) (- 0 %[1]s))", "(call/cc (lambda (q) (q %s)))"} {
				line := "(" + fmt.Sprintf(around, fmt.Sprintf(body, param)) + " 1 2 3)"
				if out == 3 && strings.HasPrefix(body, "((lambda ()") {
					continue
				}
				got := checkBoth(t, []string{line, "(define f " + line + ")"}, 100, someWays(out+place)...)
				if got.Texts[0] != want {
					t.Fatalf("%q comes to %+v", line, got)
				}
			}
		}
	}
	// What is around a procedure stays as it was where it was made, whatever is around the one that calls it.
	checkTold(t, 100, left{hits: 3, deep: 8},
		said{"(define add (lambda (x) (lambda (y) (+ x y))))", "#none", 0},
		said{"(define a (add 10))", "#none", 1},
		said{"(define b (add 20))", "#none", 1},
		said{"((lambda (x) (a x)) 1)", "11", 3},
		said{"(let ((x 5) (y 6)) (b y))", "26", 3},
		said{"((lambda (x) (+ x (a (b x)))) 3)", "36", 6})
}

// A continuation that is caught within arguments, within a body, within a test, called once, twice, and in later lines.
func TestCodeContinuations(t *testing.T) {
	k := said{"(define k 0)", "#none", 0}
	checkDeep(t, 10, "(+ 1 (call/cc (lambda (k) (+ 5 (+ 6 (k 2))))))", "3", 4)
	checkDeep(t, 5, "(+ 1 (call/cc (lambda (k) 2)))", "3", 3)
	checkDeep(t, 3, "(call/cc (lambda (k) (k 2)))", "2", 3)
	checkTold(t, 60, left{pairs: 12, deep: 6}, k,
		said{"(list 1 (call/cc (lambda (c) (begin (set! k c) 2))) 3)", "(1 2 3)", 3},
		said{"(k 8)", "(1 8 3)", 2},
		said{"(car (k 9))", "(1 9 3)", 2},
		said{"(list 5 6 (k 'x))", "(1 x 3)", 2},
		said{"(begin (k) 1)", "! 8", 1})
	// Within a body, with operations left of it behind that.
	checkTold(t, 60, left{hits: 1 + 3, deep: 7}, k,
		said{"(define n 0)", "#none", 0},
		said{"(define f (lambda (x) (begin (call/cc (lambda (c) (set! k c))) (set! n (+ n x)) n)))", "#none", 0},
		said{"(f 3)", "3", 4},
		said{"(+ 100 (f 4))", "107", 5},
		said{"(k 0)", "111", 3},
		said{"(begin (k 0) (k 0))", "115", 3},
		said{"n", "15", 0})
	// Within a test: one way, and then the other.
	checkTold(t, 60, left{deep: 5}, k,
		said{"(+ 1 (if (call/cc (lambda (c) (begin (set! k c) #t))) 10 20))", "11", 3},
		said{"(k #f)", "21", 2},
		said{"(k 0)", "11", 2},
		said{"(if (k #f) 'a 'b)", "21", 2})
}

// A continuation puts back its stack, whether the one that is there is higher or lower, and what comes of it turns nothing of what was caught.
func TestCodeStacksPutBack(t *testing.T) {
	k := said{"(define k 0)", "#none", 0}
	checkTold(t, 60, left{pairs: 3 * 6, deep: 9}, k,
		said{"(list 1 2 (list 3 4 (call/cc (lambda (c) (begin (set! k c) 5)))))", "(1 2 (3 4 5))", 4},
		said{"(k 6)", "(1 2 (3 4 6))", 3},
		said{"(list 1 (list 2 (list 3 (k 7))))", "(1 2 (3 4 7))", 3})
	// Two continuations of one stack, one of them higher, called in turn.
	checkTold(t, 60, left{pairs: 4 * 4, hits: 2, deep: 7}, k, said{"(define j 0)", "#none", 0},
		said{"(list (call/cc (lambda (c) (begin (set! j c) 1))) 2 (list (call/cc (lambda (c) (begin (set! k c) 3)))))", "(1 2 (3))", 6},
		said{"(k 4)", "(1 2 (4))", 3},
		said{"(begin (k 5) 1)", "(1 2 (5))", 3},
		said{"(j 6)", "(6 2 (3))", 5})
}

// A line that comes to a code in the midst of arguments leaves what it did, and what it caught; the next one has a stack of its own.
func TestCodeErrorsLeave(t *testing.T) {
	checkTold(t, 8, left{pairs: 2, deep: 7},
		said{"(define k 0)", "#none", 0},
		said{"(list 1 2 (car (call/cc (lambda (c) (begin (set! k c) 1)))))", "! 6", 3},
		said{"(+ 1 2)", "3", 1},
		said{"(k 7)", "! 6", 2},
		said{"(list (set! k car) none)", "! 4", 0},
		said{"(k '(8 9))", "8", 1},
		said{"(none)", "! 4", 0})
	checkTold(t, 8, left{pairs: 4, deep: 7},
		said{"(define k 0)", "#none", 0},
		said{"(list 1 2 (car (call/cc (lambda (c) (begin (set! k c) 1)))))", "! 6", 3},
		said{"(k '(7))", "(1 2 7)", 3},
		said{"none", "! 4", 0})
	checkTold(t, 3, left{deep: 10},
		said{"(define x 1)", "#none", 0},
		said{"(+ (set! x 2) (+ (begin (set! x 3) none) (set! x 4)))", "! 4", 0},
		said{"x", "3", 0},
		said{"(+ 1 (+ 2 (+ 3 (+ 4 (set! x 5)))))", "! 6", 1},
		said{"x", "5", 0})
}

// Lines of which no code can be made stand between others and turn nothing.
func TestCodeWrongLines(t *testing.T) {
	var script []said
	for _, wrong := range wrongLines() {
		if len(wrong.line) > 400 {
			continue
		}
		text := fmt.Sprintf("! %d", wrong.code)
		checkTold(t, 9, left{deep: 2}, said{"(define a 1)", "#none", 0}, said{wrong.line, text, 0}, said{"a", "1", 0}, said{wrong.line, text, 0})
		script = append(script, said{wrong.line, text, 0})
	}
	for from := 0; from+12 <= len(script); from += 6 {
		checkTold(t, 0, left{}, script[from:from+12]...)
	}
}

// A constant for which there is no room: a value is put all the same, and counts for how deep it is, but nothing is done with it.
func TestCodeMaxPairs(t *testing.T) {
	fill := fillLines(80)
	full := []said{{fill[0], "#none", 0}, {fill[1], "0", 242}}
	// The rounds: =, f and - are fetched 81, 80 and 80 times at one site each.
	run := func(deep int64, hits int64, script ...said) {
		t.Helper()
		checkToldBy(t, append(someWays(len(script)), someWays(1+int(deep))...), 400, left{pairs: 4000, hits: 80 + 79 + 79 + hits, deep: deep}, append(slices.Clone(full), script...)...)
	}
	run(5, 0)
	run(5, 0, said{"'(1)", "! 2", 0}, said{"'()", "()", 0}, said{"'(1)", "! 2", 0})
	run(7, 0, said{"(list (list (list 1 2 '(1))))", "! 2", 0})
	run(6, 0, said{"(list (list (list 1 2 none)))", "! 4", 0})
	run(7, 0, said{"(list (list (list 1 2 '())))", "! 2", 1})
	run(7, 0, said{"(+ 1 (+ 2 ((lambda () '(1)))))", "! 2", 1})
	run(7, 0, said{"(+ 1 (+ 2 ((lambda () (if '(1) 3 4)))))", "! 2", 1})
	run(7, 0, said{"(+ 1 (+ 2 ((lambda (x) (if x '(1) '(1))) 3)))", "! 2", 1})
	run(7, 0, said{"(define g (lambda () (begin '(1) none)))", "#none", 0}, said{"(+ 1 (+ 2 (g)))", "! 2", 1}, said{"(g)", "! 2", 1})
	run(5, 0, said{"(define x '(1))", "! 2", 0}, said{"x", "! 4", 0}, said{"(set! f '(1))", "! 2", 0}, said{"f", "#proc", 0}, said{"(begin '(1) (set! f 2))", "! 2", 0}, said{"f", "#proc", 0})
	run(5, 0, said{"(cons 1 2)", "! 2", 1}, said{"(list 1)", "! 2", 1}, said{"(list)", "()", 1}, said{"(+ 1 2)", "3", 1})
	run(5, 1+0, said{"(f 0)", "0", 2})
	run(5, 1, said{"(f 1)", "! 2", 2})
	// What was caught with a constant to come comes to the same code.
	run(5, 0, said{"(list (call/cc (lambda (c) (begin (set! f c) 1))) '(1))", "! 2", 2}, said{"(f 2)", "! 2", 1})
	// One pair is left, and is taken.
	fill = fillLines(79)
	rest := []said{{fill[0], "#none", 0}, {fill[1], "0", 239}, {"'(" + times(48, "1 ") + "1)", "(" + times(48, "1 ") + "1)", 0}}
	checkTold(t, 400, left{pairs: 4000, hits: 79 + 78 + 78, deep: 5}, append(rest, said{"'(1 2)", "! 2", 0}, said{"'((1))", "! 2", 0}, said{"'(1)", "(1)", 0}, said{"'(1)", "! 2", 0})...)
	checkTold(t, 400, left{pairs: 3999, hits: 79 + 78 + 78, deep: 9}, append(rest, said{"(list (list (list (list (list 1 2 '(1 2))))))", "! 2", 0})...)
}

// Fuel that is just used up and one more, none and the greatest.
func TestCodeFuel(t *testing.T) {
	for _, line := range []struct {
		line  string
		text  string
		calls int64
	}{
		{"1", "1", 0}, {"(list)", "()", 1}, {"(+ 1 (+ 2 3))", "6", 2}, {"((lambda (x) x) 1)", "1", 1}, {"(call/cc (lambda (k) (k 1)))", "1", 3}, {"(call/cc call/cc)", "#cont", 3},
		{"(call/cc 1)", "! 6", 2}, {"(call/cc)", "! 8", 1}, {"(1 2)", "! 6", 1}, {"((lambda () 1) 1)", "! 8", 1}, {"(car 1)", "! 6", 1}, {"(call/cc (lambda () 1))", "! 8", 2}, {"(call/cc (lambda (k) (k)))", "! 8", 3},
		{"((lambda (x) (if x (+ x 1) 2)) (+ 1 1))", "3", 3}, {"(begin (+ 1 1) (+ 2 2) (+ 3 3))", "6", 3},
	} {
		for fuel := range int64(6) {
			want := said{line.line, "! 9", fuel}
			if fuel >= line.calls {
				want = said{line.line, line.text, line.calls}
			}
			x, _ := wantStats([]string{line.line, "1", line.line}, fuel)
			checkToldBy(t, someWays(int(fuel)), fuel, left{hits: x.hits, deep: x.deep}, want, said{"1", "1", 0}, want)
		}
	}
	loop := said{"(define f (lambda (n) (if (= n 0) 'end (f (- n 1)))))", "#none", 0}
	checkTold(t, 400, left{hits: 132 + 131 + 131, deep: 6}, loop, said{"(begin (f 132) (list) (list))", "()", 400})
	checkTold(t, 400, left{hits: 132 + 131 + 131, deep: 6}, loop, said{"(begin (f 132) (list) (list) (list))", "! 9", 400})
	checkTold(t, 399, left{hits: 132 + 131 + 131 + 1, deep: 6}, loop, said{"(begin (f 132) (list) (list))", "! 9", 399}, said{"(f 0)", "end", 2})
}

func TestCodeCallOf(t *testing.T) {
	checkTold(t, 60, left{pairs: 1, deep: 3}, said{"(call/cc list)", "(#cont)", 2})
	checkTold(t, 60, left{deep: 3}, said{"(call/cc pair?)", "#f", 2}, said{"(call/cc car)", "! 6", 2}, said{"(call/cc +)", "! 8", 2}, said{"(call/cc not)", "#f", 2}, said{"(call/cc call/cc)", "#cont", 3})
	checkTold(t, 60, left{deep: 4}, said{"(call/cc (call/cc call/cc))", "#cont", 7}, said{"((call/cc call/cc) (lambda (x) 4))", "4", 5})
	checkTold(t, 60, left{deep: 5}, said{"(define k 0)", "#none", 0},
		said{"(+ 1 (call/cc (lambda (c) (begin (set! k c) 2))))", "3", 3},
		said{"(call/cc k)", "! 6", 3},
		said{"(k (k 5))", "6", 2},
		said{"(+ (call/cc k) 1)", "! 6", 3})
	checkTold(t, 60, left{deep: 4}, said{"(call/cc (lambda (k) (eq? k k)))", "#t", 3}, said{"(call/cc (lambda (k) (call/cc (lambda (c) (eq? k c)))))", "#f", 5},
		said{"(eq? (lambda () 1) (lambda () 1))", "#f", 1}, said{"(let ((p (lambda () 1))) (eq? p p))", "#t", 2}, said{"(let ((p (lambda () 1))) (call/cc (lambda (k) (eq? k p))))", "#f", 4})
	if got := checkBoth(t, []string{"((call/cc call/cc) (call/cc call/cc))"}, 400, allWays()...); got.Texts[0] != "! 9" || got.Calls[0] != 400 || got.Deep != 4 {
		t.Errorf("what catches itself comes to %+v", got)
	}
}

// A global that is a primitive's name, turned while it runs: what was fetched ahead of it stays as it was.
func TestCodePrimitivesTurned(t *testing.T) {
	checkTold(t, 60, left{pairs: 8, hits: 2, deep: 3},
		said{"(define first (lambda (l) (car l)))", "#none", 0},
		said{"(first '(1 2))", "1", 2},
		said{"(car (begin (set! car cdr) '(3 4)))", "3", 1},
		said{"(first '(5 6))", "(6)", 2},
		said{"(first '(5 6))", "(6)", 2},
		said{"(begin (define car 1) 2)", "! 1", 0},
		said{"(define car (lambda (x) 'mine))", "#none", 0},
		said{"(first 7)", "mine", 2},
		said{"(set! car car)", "#none", 0},
		said{"(first 7)", "mine", 2},
		said{"(first 7)", "mine", 2},
		said{"(set! + -)", "#none", 0})
}

// kindLists: every kind of core, every primitive with right and wrong arguments, and what they leave.
func kindLists() [][]string {
	start := []string{"(define a #t)", "(define b #f)", "(define f (lambda (x) (if x (list x) car)))", "(define x 3)", "(define y (lambda (x) x))"}
	list := kindLines()
	for _, name := range primNames() {
		list = append(list, "("+name+")", "("+name+" 7)", "("+name+" '(1 2))", "("+name+" 7 2)", "("+name+" '() 'x)", "("+name+" 1 2 3)", "(lambda (x) ("+name+" x x))", "((lambda (x y) ("+name+" x y)) -7 2)", "(f ("+name+" f))")
	}
	var lists [][]string
	for from := 0; from < len(list); from += 6 {
		lines := append(slices.Clone(start), list[from:min(from+6, len(list))]...)
		lists = append(lists, append(lines, "x"))
	}
	return lists
}

// Promise 15, by all settings.
func TestPromise15Kinds(t *testing.T) {
	for _, lines := range kindLists() {
		checkBoth(t, lines, 40, allWays()...)
	}
}

// Promise 15: lines of all kinds, by settings in turn, what is left as well.
func TestPromise15Some(t *testing.T) {
	s := speaker{dice: 15015}
	seen := map[string]int{}
	var hits, deepest int64
	for turn := range 2000 {
		lines := s.lines()
		fuel := []int64{400, 100, 40, 20, 10, 5, 2, 1, 0}[s.next(9)]
		x, want := checkRuns(t, lines, fuel, oneWay(turn), oneWay(turn+2000), impl.Config{Segment: 1 + int64(turn)%3, Table: 15 - int64(turn)%16, Peep: true, Cache: true})
		if turn%5 == 0 {
			checkLeft(t, lines, fuel, oneWay(turn), x)
		}
		for _, text := range want.Texts[6:] {
			seen[cut(text, 3)]++
		}
		hits, deepest = hits+want.Hits, max(deepest, want.Deep)
	}
	for _, text := range []string{"! 1", "! 4", "! 5", "! 6", "! 7", "! 8", "! 9", "0", "5", "-1", "#no", "#pr", "#co", "#f", "()"} {
		if seen[text] < 3 {
			t.Errorf("%q was seen %d times", text, seen[text])
		}
	}
	if hits < 2000 || deepest < 100 {
		t.Errorf("%d hits, at most %d deep", hits, deepest)
	}
}

// Forms that were not made to come to something.
func TestPromise15Forms(t *testing.T) {
	s := dice(51051)
	for turn := range 2000 {
		var lines []string
		for range 1 + s.next(5) {
			text := wantText(s.form(3+s.next(40), 60).data(), 0)
			if s.next(3) == 0 {
				text = "(define " + []string{"x", "f", "car"}[s.next(3)] + " " + text + ")"
			}
			lines = append(lines, text)
		}
		x, _ := checkRuns(t, lines, int64(s.next(60)), oneWay(turn), oneWay(turn+3000))
		if turn%5 == 0 {
			checkLeft(t, lines, x.fuel, oneWay(turn), x)
		}
	}
	for _, text := range someTexts(1500, 30, append(append(rightPieces(), wrongPieces()...), "(f f)", "(lambda (f) ", "(call/cc ", "(set! f ", "f", "define", ")", "(")) {
		checkRuns(t, []string{text, "(define f (lambda (f) (f f)))", text, "(f f)"}, 30, oneWay(len(text)))
	}
}

// Promise 15: the settings turn nothing but the hits, for the same lines by many of them.
func TestPromise15Settings(t *testing.T) {
	for turn, lines := range scripts()[:160] {
		fuel := []int64{400, 60, 25, 7}[turn%4]
		checkBoth(t, lines, fuel, someWays(turn)...)
		if turn%25 < 1 {
			checkRuns(t, lines, fuel, allWays()...)
		}
	}
}

// Promise 15: chains that are as deep as they can be, gone on with in later lines, and gone through again and again.
func TestPromise15Deep(t *testing.T) {
	for turn, work := range []string{"1", "(set! x (set! x (set! x 1)))", "(if (if (set! x 1) #f #t) 1 2)", "(begin (begin 1 2) (begin 3))"} {
		for _, fuel := range []int64{400, 120} {
			checkBoth(t, deepLines(7, work), fuel, someWays(turn)...)
		}
	}
	lambdas := func(count int) string { return times(count, "(lambda () 1) ") }
	again := append(againLines(lambdas(10)), "(lambda () 1)", "((lambda () 1))", "(define x (lambda () 1))", "(set! m (lambda () 1))", "(eq? 1 (lambda () 1))", "(if (lambda () 1) 2 3)")
	if got := checkBoth(t, again, 400, oneWay(1), oneWay(2)); !slices.Equal(got.Texts[4:], []string{"end", "end", "! 3", "1", "! 3", "! 3", "! 3", "2"}) {
		t.Errorf("many procedures come to %q", got.Texts)
	}
	again = append(againLines(times(10, "(set! x m) ")), "x", "(set! x 'new)", "(define x 'new)", "x", "(set! m x)", "m")
	for _, c := range []impl.Config{{Segment: 64, Cache: true}, {Segment: 1, Table: 15, Peep: true}} {
		got, tree := impl.RunCode(again, 400, c), impl.RunTree(again, 400)
		if !sameRun(runOf(got), tree) || !slices.Equal(got.Texts[5:], []string{"! 3", "32", "! 3", "! 3", "32", "#none", "32"}) {
			t.Errorf("many versions come to %q by %+v, not %q", got.Texts, c, tree.Texts)
		}
	}
}

// As many lines as there may be; each of them can be a global, so that 28 are the most that lines can leave.
func TestCodeMostLines(t *testing.T) {
	var script []said
	for i := range 12 {
		script = append(script, said{fmt.Sprintf("(define %c (+ %d 1))", 'a'+i, i), "#none", 1})
	}
	checkTold(t, 1, left{deep: 4}, script...)
	checkTold(t, 0, left{deep: 2}, slices.Repeat([]said{{"1", "1", 0}}, 12)...)
	checkTold(t, 1, left{deep: 5, pairs: 36}, slices.Repeat([]said{{"(list 1 2 3)", "(1 2 3)", 1}}, 12)...)
	checkTold(t, 0, left{deep: 2, pairs: 1}, said{"1" + times(399, " "), "1", 0}, said{"'(1) ;" + times(394, "("), "(1)", 0}, said{times(400, " "), "! 1", 0})
	long := times(13, "(abcdefghij) ")
	checkTold(t, 0, left{deep: 2, pairs: 26 + 60}, said{"'(" + long + ")", cut("("+long, 120), 0}, said{"'(" + times(60, "1 ") + ")", "(" + times(59, "1 ") + "1", 0})
}

func TestCodeGlobal(t *testing.T) {
	lines := []string{"(define a '(1 2))", "(define b (lambda () a))", "(define c (call/cc (lambda (k) k)))", "(set! a (cons 0 a))", "(define d (car 1))", "(define e (set! a a))"}
	for name, want := range map[string]impl.TextResult{
		"a": {Text: "(0 1 2)"}, "b": {Text: "#proc"}, "c": {Text: "#cont"}, "d": {Code: impl.ErrNone}, "e": {Text: "#none"}, "car": {Text: "#prim"}, "call/cc": {Text: "#prim"}, "+": {Text: "#prim"},
		"none": {Code: impl.ErrNone}, "if": {Code: impl.ErrNone}, "define": {Code: impl.ErrNone}, "k": {Code: impl.ErrNone}, "abcdefghijkl": {Code: impl.ErrNone},
		"": {Code: impl.ErrText}, "A": {Code: impl.ErrText}, "a ": {Code: impl.ErrText}, "abcdefghijklm": {Code: impl.ErrText}, "1": {Code: impl.ErrText}, "\xff": {Code: impl.ErrText},
	} {
		for _, c := range allWays() {
			if got := impl.CodeGlobal(lines, 9, c, name); got != want {
				t.Errorf("CodeGlobal by %+v of %q = %+v, not %+v", c, name, got, want)
			}
		}
	}
	for _, name := range wrongNames() {
		for _, lines := range [][]string{nil, lines} {
			if got := impl.CodeGlobal(lines, 0, impl.Config{Segment: 1}, name); got != (impl.TextResult{Code: impl.ErrText}) {
				t.Errorf("CodeGlobal of %q = %+v", name, got)
			}
		}
	}
	// Fuel counts for what the lines leave.
	turns := []string{"(define a 1)", "(begin (set! a 2) (list) (set! a 3) (list) (set! a 4))"}
	for fuel, text := range []string{"2", "3", "4", "4"} {
		if got := impl.CodeGlobal(turns, int64(fuel), impl.Config{Segment: 1}, "a"); got.Text != text {
			t.Errorf("a with %d = %+v, not %q", fuel, got, text)
		}
	}
}

// checkStatFaults asks the four functions for what is asked ahead of all lines: the lines and the fuel, the setting, the name.
func checkStatFaults(t *testing.T, lines []string, fuel int64, c impl.Config, name string, code int64) {
	t.Helper()
	if got := impl.RunCode(lines, fuel, c); got.Code != code || code != impl.OK && !sameStats(got, impl.StatResult{Code: code}) || code != impl.OK && (got.Texts != nil || got.Calls != nil) {
		t.Fatalf("RunCode of %.99q with %d by %+v = %+v, not %d", lines, fuel, c, got, code)
	}
	deepest, hits := impl.DeepestRun(lines, fuel, c), impl.HitsOf(lines, fuel, c)
	if deepest.Code != code || hits.Code != code || code != impl.OK && deepest.Value+hits.Value != 0 {
		t.Fatalf("of %.99q with %d by %+v: %+v, %+v, not %d", lines, fuel, c, deepest, hits, code)
	}
	if code == impl.OK && !symbol.MatchString(name) {
		code = impl.ErrText
	}
	if got := impl.CodeGlobal(lines, fuel, c, name); code != impl.OK && got != (impl.TextResult{Code: code}) || code == impl.OK && got.Code != impl.OK && got.Code != impl.ErrNone {
		t.Fatalf("CodeGlobal of %.99q with %d by %+v, %q = %+v, not %d", lines, fuel, c, name, got, code)
	}
}

func TestCodeFaults(t *testing.T) {
	wide, wider := times(400, " "), times(401, " ")
	lists := [][]string{nil, {}, {""}, {wide}, {wider}, {wider, "1"}, {"1", wider}, slices.Repeat([]string{"1"}, 12), slices.Repeat([]string{"1"}, 13), slices.Repeat([]string{wide}, 12), slices.Repeat([]string{wider}, 12),
		slices.Repeat([]string{wider}, 13), slices.Repeat([]string{"1"}, 5000), {times(100000, "(")}, append(slices.Repeat([]string{"1"}, 11), wider)}
	ways := append(configsOf([]int64{1, 64}, []int64{0, 15}), configsOf([]int64{0, 65, -1, math.MaxInt64, math.MinInt64, 1<<32 + 1}, []int64{0, 16})...)
	ways = append(ways, configsOf([]int64{1, 64}, []int64{-1, 16, math.MaxInt64, math.MinInt64, 1 << 32})...)
	for _, lines := range lists {
		for _, fuel := range []int64{-1, 0, 1, 400, 401, 200, math.MinInt64, math.MaxInt64, -400} {
			for _, c := range ways {
				code := wantLinesFault(lines, fuel)
				if code == impl.OK {
					code = wantConfigFault(c)
				}
				for _, name := range []string{"car", "none", "", "A", "if"} {
					checkStatFaults(t, lines, fuel, c, name, code)
				}
			}
		}
	}
	right, small, great := impl.Config{Segment: 1}, impl.Config{}, impl.Config{Segment: 64, Table: 16}
	for _, w := range []struct {
		lines []string
		fuel  int64
		c     impl.Config
		name  string
		code  int64
	}{
		{nil, 0, right, "a", impl.OK}, {nil, 0, right, "", impl.OK}, {nil, 0, small, "", impl.ErrRange}, {nil, 0, great, "", impl.ErrRange}, {nil, -1, small, "", impl.ErrRange}, {nil, 401, right, "", impl.ErrRange},
		{lists[8], 401, small, "", impl.ErrMany}, {lists[8], 0, right, "a", impl.ErrMany}, {lists[8], 0, great, "a", impl.ErrMany}, {lists[4], 0, small, "", impl.ErrMany}, {lists[4], 401, right, "", impl.ErrRange}, {lists[4], -1, great, "", impl.ErrRange},
		{lists[14], 400, small, "a", impl.ErrMany}, {lists[12], -1, small, "", impl.ErrMany}, {[]string{"("}, 0, small, "a", impl.ErrRange}, {[]string{"("}, 0, right, "a", impl.OK},
	} {
		checkStatFaults(t, w.lines, w.fuel, w.c, w.name, w.code)
	}
	for _, c := range append(configsOf(edgeSizes(), []int64{0, 7, 15, 16}), configsOf([]int64{0, 1, 64, 65}, edgeTables())...) {
		checkStatFaults(t, []string{"(define x (list))"}, 2, c, "x", wantConfigFault(c))
	}
	for _, c := range rightConfigs() {
		checkStats(t, []string{"(list 1 2 '(3))", "((lambda (x) (if x x x)) 4)"}, 2, c, impl.StatResult{Texts: []string{"(1 2 (3))", "4"}, Calls: []int64{1, 1}, Pairs: 4, Deep: 5})
	}
}

// Promise 1: the same again whatever was run between, in new memory that can be written into, and no argument is changed.
func TestPromise1RunCode(t *testing.T) {
	s := speaker{dice: 14141}
	lists := [][]string{nil, {"'abcdefghijkl"}, {"(define abc 'xyz)", "abc", "'(abc xyz)", "A", "(begin xyz)"}, {times(401, "1")}, slices.Repeat([]string{"'symbol"}, 13), {sumLine, "(f 9)", "(define abc f)"}}
	for range 20 {
		lists = append(lists, s.lines())
	}
	ways := append(someWays(3)[9:], impl.Config{}, impl.Config{Segment: 65, Table: 16})
	for turn, given := range lists {
		var lines []string
		for _, line := range given {
			lines = append(lines, strings.Clone(line))
		}
		lines = append(make([]string, 0, len(lines)+3), lines...)
		name := strings.Clone("abc")
		for _, fuel := range []int64{-1, 0, 3, 400} {
			for _, c := range ways {
				first, global := impl.RunCode(lines, fuel, c), impl.CodeGlobal(lines, fuel, c, name)
				deepest, hits := impl.DeepestRun(lines, fuel, c), impl.HitsOf(lines, fuel, c)
				kept := impl.StatResult{Code: first.Code, Texts: slices.Clone(first.Texts), Calls: slices.Clone(first.Calls), Pairs: first.Pairs, Hits: first.Hits, Deep: first.Deep}
				for _, line := range append(slices.Clone(lines), name) {
					if !apart(global.Text, line) || slices.ContainsFunc(first.Texts, func(text string) bool { return !apart(text, line) }) {
						t.Fatalf("%q is handed on", line)
					}
				}
				for i := range first.Texts[:cap(first.Texts)] {
					first.Texts[:cap(first.Texts)][i] = "changed"
				}
				for i := range first.Calls[:cap(first.Calls)] {
					first.Calls[:cap(first.Calls)][i] = -7
				}
				impl.RunCode(lists[(turn+1)%len(lists)], 400, ways[turn%7])
				if again := impl.RunCode(lines, fuel, c); !sameStats(again, kept) || impl.CodeGlobal(lines, fuel, c, name) != global || impl.DeepestRun(lines, fuel, c) != deepest || impl.HitsOf(lines, fuel, c) != hits {
					t.Fatalf("RunCode of %q with %d by %+v = %+v, before it %+v", lines, fuel, c, again, kept)
				}
				if deepest != (impl.IntResult{Code: kept.Code, Value: kept.Deep}) || hits != (impl.IntResult{Code: kept.Code, Value: kept.Hits}) {
					t.Fatalf("of %q with %d by %+v: %+v, %+v, not of %+v", lines, fuel, c, deepest, hits, kept)
				}
				if !slices.Equal(lines, given) || !slices.Equal(lines[:cap(lines)][len(lines):], make([]string, cap(lines)-len(lines))) || name != "abc" {
					t.Fatalf("the arguments are changed: %q, %q", lines, name)
				}
			}
		}
	}
}

// Promise 1: it answers however deep the stack is and however often it is caught: each catch takes little room of its own, and millions of operations between a few applications no deep stack of calls.
func TestPromise1RunCodeDeep(t *testing.T) {
	defer debug.SetMaxStack(debug.SetMaxStack(1 << 26))
	body := "(begin (set! k c) (list 1 2 (list 1 2 (list 1 2 (list 1 2 (list 1 2 (list 1 2 ((call/cc f)))))))))"
	lines := []string{"(define k 0)", "(define f (lambda (c) " + body + "))", "(f 0)"}
	for range 9 {
		lines = append(lines, "(k (lambda () (call/cc f)))")
	}
	for _, c := range []impl.Config{{Segment: 1}, {Segment: 7, Table: 15, Peep: true, Cache: true}, {Segment: 64}} {
		var before, behind runtime.MemStats
		runtime.ReadMemStats(&before)
		got := impl.RunCode(lines, 400, c)
		runtime.ReadMemStats(&behind)
		if tree := impl.RunTree(lines, 400); !sameRun(runOf(got), tree) || got.Deep < 30000 {
			t.Errorf("by %+v: %+v, not %+v", c, got, tree)
		}
		if took := behind.TotalAlloc - before.TotalAlloc; took > 200<<20 {
			t.Errorf("by %+v it took %d bytes", c, took)
		}
	}
	lines = deepLines(4, times(40, "1 "))
	lines[1] = "(define m 0)"
	lines[3] = "(begin (f 100) (if (= m 0) 'end (begin (set! m (- m 1)) (k list))))"
	lines = append(lines, "(begin (set! m 98) (k list))")
	for _, c := range []impl.Config{{Segment: 1}, {Segment: 64, Table: 15, Peep: true, Cache: true}} {
		if got := impl.RunCode(lines, 400, c); got.Texts[4] != "end" || got.Texts[7] != "end" || got.Texts[8] != "end" || got.Calls[8] != 395 {
			t.Errorf("the long line comes to %+v by %+v", got, c)
		}
	}
}
