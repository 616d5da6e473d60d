package tests

import (
	"math"
	"runtime/debug"
	"slices"
	"strconv"
	"strings"
	"testing"

	"loop.example/g00349/impl"
)

// What is to come stands here in a chain of notes, each with what is still to do of one core; what is caught is the chain.
type note struct {
	at   int
	step int
	form []impl.Core
	args *argsByHand
	done []impl.Value
	next *note
}
type argsByHand struct {
	list []impl.Value
	out  *argsByHand
}
type procByHand struct {
	form []impl.Core
	at   int
	args *argsByHand
}
type runByHand struct {
	pairs   []impl.Pair
	globals []impl.Global
	procs   []procByHand
	caught  []*note
	fuel    int64
	calls   int64
	// What is done next: a core is evaluated (at), or a value is given to the chain (at is -1).
	at    int
	form  []impl.Core
	args  *argsByHand
	value impl.Value
	chain *note
}
type runFault int64

func newRun() *runByHand {
	x := &runByHand{}
	for i, name := range primNames() {
		x.globals = append(x.globals, global(name, valPrim(int64(i)), 1))
	}
	return x
}

func kidsByHand(c []impl.Core, at int) []int {
	var list []int
	for i := range c {
		if c[i].Parent == int64(at) {
			list = append(list, i)
		}
	}
	return list
}

func (x *runByHand) give(v impl.Value) { x.at, x.value = -1, v }

func (x *runByHand) goTo(form []impl.Core, at int, args *argsByHand) {
	x.form, x.at, x.args = form, at, args
}

func stop(code int64) { panic(runFault(code)) }

func (x *runByHand) begin() {
	c := x.form[x.at]
	switch c.Kind {
	case impl.CoreConst:
		all := x.pairs[:len(x.pairs):len(x.pairs)]
		v := putByHand(&all, c.Data, 0)
		if len(all) > 4000 {
			stop(impl.ErrMany)
		}
		x.pairs = all
		x.give(v)
	case impl.CoreLocal:
		args := x.args
		for range c.A {
			args = args.out
		}
		x.give(args.list[c.B])
	case impl.CoreGlobal:
		look := wantLook(x.globals, c.Name)
		if look.Code != impl.OK {
			stop(look.Code)
		}
		x.give(look.Global.Value)
	case impl.CoreLambda:
		x.procs = append(x.procs, procByHand{form: x.form, at: x.at, args: x.args})
		x.give(valProc(int64(len(x.procs) - 1)))
	default:
		// Of a seq with one kid nothing is to come behind that.
		if c.Kind != impl.CoreSeq || len(kidsByHand(x.form, x.at)) > 1 {
			x.chain = &note{at: x.at, form: x.form, args: x.args, next: x.chain}
		}
		x.at++
	}
}

func (x *runByHand) goOn() {
	n := *x.chain
	x.chain = n.next
	kids := kidsByHand(n.form, n.at)
	n.step++
	switch c := n.form[n.at]; c.Kind {
	case impl.CoreIf:
		if x.value == valBool(0) {
			x.goTo(n.form, kids[2], n.args)
		} else {
			x.goTo(n.form, kids[1], n.args)
		}
	case impl.CoreSet, impl.CoreDef:
		turned := wantDefine(x.globals, c.Name, x.value, c.Kind == impl.CoreSet)
		if turned.Code != impl.OK {
			stop(turned.Code)
		}
		x.globals = turned.Globals
		x.give(valNone())
	case impl.CoreSeq:
		if n.step < len(kids)-1 {
			x.chain = &n
		}
		x.goTo(n.form, kids[n.step], n.args)
	case impl.CoreApp:
		n.done = append(slices.Clone(n.done), x.value)
		if n.step < len(kids) {
			x.chain = &n
			x.goTo(n.form, kids[n.step], n.args)
			return
		}
		x.apply(n.done[0], n.done[1:])
	}
}

func (x *runByHand) apply(what impl.Value, args []impl.Value) {
	if x.fuel == 0 {
		stop(impl.ErrFuel)
	}
	x.fuel--
	x.calls++
	one := func() {
		if len(args) != 1 {
			stop(impl.ErrArgs)
		}
	}
	switch {
	case what.Kind == impl.ValProc:
		p := x.procs[what.Num]
		if int64(len(args)) != p.form[p.at].A {
			stop(impl.ErrArgs)
		}
		x.goTo(p.form, p.at+1, &argsByHand{list: args, out: p.args})
	case what.Kind == impl.ValCont:
		one()
		x.chain = x.caught[what.Num]
		x.give(args[0])
	case what == valPrim(15):
		one()
		x.caught = append(x.caught, x.chain)
		x.apply(args[0], values(valCont(int64(len(x.caught)-1))))
	case what.Kind == impl.ValPrim:
		came := wantApply(x.pairs, what.Num, args)
		if came.Code != impl.OK {
			stop(came.Code)
		}
		x.pairs = came.Pairs
		x.give(came.Value)
	default:
		stop(impl.ErrType)
	}
}

func (x *runByHand) evaluate(form []impl.Core) (code int64) {
	defer func() {
		if caught := recover(); caught != nil {
			code = int64(caught.(runFault))
		}
	}()
	x.chain = nil
	x.goTo(form, 0, nil)
	for x.at >= 0 || x.chain != nil {
		if x.at >= 0 {
			x.begin()
		} else {
			x.goOn()
		}
	}
	return impl.OK
}

func (x *runByHand) line(text string, fuel int64) string {
	x.fuel, x.calls = fuel, 0
	wrong := func(code int64) string { return "! " + strconv.FormatInt(code, 10) }
	read := wantRead(text)
	if read.Code != impl.OK {
		return wrong(read.Code)
	}
	means := wantExpand(read.Data)
	if means.Code != impl.OK {
		return wrong(means.Code)
	}
	code := x.evaluate(means.Cores)
	if code == impl.OK {
		code = wantIn(x.pairs, x.value)
	}
	if code != impl.OK {
		return wrong(code)
	}
	return wantFirst(x.pairs, x.value)
}

func wantLinesFault(lines []string, fuel int64) int64 {
	if len(lines) > 12 {
		return impl.ErrMany
	}
	if fuel < 0 || fuel > 400 {
		return impl.ErrRange
	}
	if slices.ContainsFunc(lines, func(line string) bool { return len(line) > 400 }) {
		return impl.ErrMany
	}
	return impl.OK
}

func wantRun(lines []string, fuel int64) (*runByHand, impl.RunResult) {
	if code := wantLinesFault(lines, fuel); code != impl.OK {
		return nil, impl.RunResult{Code: code}
	}
	x, result := newRun(), impl.RunResult{}
	for _, line := range lines {
		result.Texts = append(result.Texts, x.line(line, fuel))
		result.Calls = append(result.Calls, x.calls)
	}
	result.Pairs = int64(len(x.pairs))
	return x, result
}

func wantTreeGlobal(lines []string, fuel int64, name string) impl.TextResult {
	x, run := wantRun(lines, fuel)
	if run.Code != impl.OK {
		return impl.TextResult{Code: run.Code}
	}
	look := wantLook(x.globals, name)
	if look.Code != impl.OK {
		return impl.TextResult{Code: look.Code}
	}
	return impl.TextResult{Text: wantFirst(x.pairs, look.Global.Value)}
}

func sameRun(a, b impl.RunResult) bool {
	return a.Code == b.Code && slices.Equal(a.Texts, b.Texts) && slices.Equal(a.Calls, b.Calls) && a.Pairs == b.Pairs
}

func checkRun(t *testing.T, lines []string, fuel int64, want impl.RunResult) {
	t.Helper()
	got := impl.RunTree(lines, fuel)
	if !sameRun(got, want) || got.Code != impl.OK && (got.Texts != nil || got.Calls != nil) {
		t.Fatalf("RunTree of %q with %d = %+v, not %+v", lines, fuel, got, want)
	}
}

// checkLines holds lines against the run by hand, and the first names against the globals that it leaves.
func checkLines(t *testing.T, lines []string, fuel int64, names ...string) impl.RunResult {
	t.Helper()
	x, want := wantRun(lines, fuel)
	checkRun(t, lines, fuel, want)
	if code := impl.LinesFault(lines, fuel); code != want.Code {
		t.Fatalf("LinesFault of %q with %d = %d, not %d", lines, fuel, code, want.Code)
	}
	for _, name := range names {
		text := impl.TextResult{Code: want.Code}
		if x != nil {
			look := wantLook(x.globals, name)
			text.Code = look.Code
			if look.Code == impl.OK {
				text.Text = wantFirst(x.pairs, look.Global.Value)
			}
		}
		if got := impl.TreeGlobal(lines, fuel, name); got != text {
			t.Fatalf("TreeGlobal of %q with %d, %q = %+v, not %+v", lines, fuel, name, got, text)
		}
	}
	return want
}

// A script is lines, each with its text and how often something is applied in it.
type said struct {
	line  string
	text  string
	calls int64
}

func checkScript(t *testing.T, fuel int64, pairs int64, script ...said) {
	t.Helper()
	var lines []string
	want := impl.RunResult{Pairs: pairs}
	for _, s := range script {
		lines = append(lines, s.line)
		want.Texts = append(want.Texts, s.text)
		want.Calls = append(want.Calls, s.calls)
	}
	checkRun(t, lines, fuel, want)
	if _, byHand := wantRun(lines, fuel); !sameRun(byHand, want) {
		t.Fatalf("by hand of %q with %d: %+v, not %+v", lines, fuel, byHand, want)
	}
	// What one machine is told, the other one is as well.
	checkBoth(t, lines, fuel, someWays(len(lines)+int(fuel))...)
}

func TestTreeKinds(t *testing.T) {
	checkScript(t, 100, 6,
		said{"7", "7", 0},
		said{"#f", "#f", 0},
		said{"'x", "x", 0},
		said{"'()", "()", 0},
		said{"'(1 (2) x)", "(1 (2) x)", 0},
		said{"car", "#prim", 0},
		said{"(lambda (x) y)", "#proc", 0},
		said{"(call/cc (lambda (k) k))", "#cont", 2},
		said{"(define a 5)", "#none", 0},
		said{"(set! a (list a a))", "#none", 1},
		said{"(begin 1 a)", "(5 5)", 0},
		said{"(begin 2)", "2", 0},
	)
	checkScript(t, 100, 1,
		said{"(if #t 1 2)", "1", 0},
		said{"(if #f 1 2)", "2", 0},
		said{"(if 0 1 2)", "1", 0},
		said{"(if '() 1 2)", "1", 0},
		said{"(if (list #f) 1 2)", "1", 1},
		said{"(if (= 1 2) (car 1) (+ 1 2))", "3", 2},
		said{"(if (= 1 1) (+ 1 2) (car 1))", "3", 2},
		said{"(if (if #f #t #f) a (if #t 'y b))", "y", 0},
		said{"(if (car 1) 1 2)", "! 6", 1},
		said{"(begin (begin) 1)", "! 1", 0},
		said{"(if x 1 2)", "! 4", 0},
	)
}

func TestTreeExamples(t *testing.T) {
	for _, one := range []said{
		{"(car '(a b))", "a", 1},
		{"(+ 1 (call/cc (lambda (k) (* 5 (k 2)))))", "3", 4},
		{"(car 1)", "! 6", 1},
		{"(let ((x 1)) (+ x 2))", "3", 2},
		{"(f)", "! 4", 0},
		{"((lambda (x y z) (list z y x)) 1 2 3)", "(3 2 1)", 2},
	} {
		if got := impl.RunOne(one.line, 9); got != (impl.TextResult{Text: one.text}) {
			t.Errorf("RunOne of %q = %+v, not %q", one.line, got, one.text)
		}
		checkScript(t, 9, impl.RunTree([]string{one.line}, 9).Pairs, one)
	}
	checkScript(t, 100, 0,
		said{"(define f (lambda (n) (if (< n 1) 0 (+ n (f (- n 1))))))", "#none", 0},
		said{"(f 4)", "10", 18},
		said{"(car 1)", "! 6", 1},
		said{"(", "! 1", 0},
		said{"g", "! 4", 0},
	)
}

// What is defined and set in one line is there in all later ones, also for what was made ahead of it.
func TestTreeGlobals(t *testing.T) {
	checkScript(t, 50, 0,
		said{"(define add (lambda (x) (+ x step)))", "#none", 0},
		said{"(add 1)", "! 4", 1},
		said{"(define step 10)", "#none", 0},
		said{"(add 1)", "11", 2},
		said{"(set! step 20)", "#none", 0},
		said{"(add 1)", "21", 2},
		said{"(begin (set! step (add 1)) (set! + *) (add 2))", "42", 4},
		said{"(define step (lambda () step))", "#none", 0},
		said{"((step))", "#proc", 2},
		said{"(add 1)", "! 6", 2},
		said{"(set! new 1)", "! 4", 0},
		said{"new", "! 4", 0},
	)
	lines := []string{"(define car cdr)", "(define first car)", "(set! car 1)"}
	checkScript(t, 9, 4, said{lines[0], "#none", 0}, said{lines[1], "#none", 0}, said{lines[2], "#none", 0},
		said{"(first '(1 2))", "(2)", 1}, said{"(car '(1 2))", "! 6", 1})
	for _, one := range []struct{ name, text string }{{"car", "1"}, {"cdr", "#prim"}, {"first", "#prim"}} {
		if got := impl.TreeGlobal(lines, 9, one.name); got != (impl.TextResult{Text: one.text}) {
			t.Errorf("TreeGlobal of %q = %+v, not %q", one.name, got, one.text)
		}
	}
}

func TestTreeProcedures(t *testing.T) {
	checkScript(t, 60, 17,
		said{"((lambda () 1))", "1", 1},
		said{"((lambda (x) x) 2)", "2", 1},
		said{"((lambda (x y) (list y x)) 1 2)", "(2 1)", 2},
		said{"((lambda (x) ((lambda (y) ((lambda (z) (list x y z)) 3)) 2)) 1)", "(1 2 3)", 4},
		said{"(((lambda (x) (lambda (y z) (list x y z))) 4) 5 6)", "(4 5 6)", 3},
		said{"(let ((x 1) (y 2)) (let ((x y) (z x)) (list x y z)))", "(2 2 1)", 3},
		said{"(define make (lambda (n) (lambda (x) (lambda () (cons n x)))))", "#none", 0},
		said{"(define two (make 2))", "#none", 1},
		said{"(let ((a (two 7)) (b (two 8)) (c ((make 3) 9))) (list (a) (b) (c)))", "((2 . 7) (2 . 8) (3 . 9))", 12},
		said{"(let ((car 1)) car)", "1", 1},
		said{"(let ((car 1)) (car 2))", "! 6", 2},
		said{"((lambda (f) (f f)) (lambda (f) 5))", "5", 2},
	)
	checkScript(t, 60, 1,
		said{"(eq? (lambda () 1) (lambda () 1))", "#f", 1},
		said{"(let ((f (lambda () 1))) (eq? f f))", "#t", 2},
		said{"(define f (lambda () (lambda () 1)))", "#none", 0},
		said{"(eq? (f) (f))", "#f", 3},
		said{"(define g (f))", "#none", 1},
		said{"(eq? g g)", "#t", 1},
		said{"(call/cc (lambda (k) (eq? k k)))", "#t", 3},
		said{"(call/cc (lambda (k) (call/cc (lambda (c) (eq? k c)))))", "#f", 5},
		said{"(let ((p (lambda () 1))) (call/cc (lambda (k) (eq? k p))))", "#f", 4},
		said{"(eq? car car)", "#t", 1},
		said{"(eq? '(1) g)", "#f", 1},
	)
}

// The kids of an application are evaluated from the first one on, and only then something is applied.
func TestTreeOrder(t *testing.T) {
	checkScript(t, 60, 5,
		said{"(define log '())", "#none", 0},
		said{"(define tell (lambda (n v) (begin (set! log (cons n log)) v)))", "#none", 0},
		said{"((tell 1 -) (tell 2 10) (tell 3 4))", "6", 7},
		said{"log", "(3 2 1)", 0},
		said{"(let ((x (tell 4 1)) (y (tell 5 2))) (- y x))", "1", 6},
		said{"log", "(5 4 3 2 1)", 0},
	)
	checkScript(t, 60, 4,
		said{"(define f car)", "#none", 0},
		said{"(f (begin (set! f cdr) '(1 2)))", "1", 1},
		said{"(f (begin (set! f car) '(1 2)))", "(2)", 1},
		said{"(1 none)", "! 4", 0},
		said{"(none (car 1))", "! 4", 0},
		said{"((car 1) none)", "! 6", 1},
		said{"(car (none) (car 1))", "! 4", 0},
		said{"((lambda () 1) (none))", "! 4", 0},
		said{"(f (f 1) none)", "! 6", 1},
		said{"(set! none (car 1))", "! 6", 1},
		said{"(define none (quo 1 0))", "! 7", 1},
		said{"none", "! 4", 0},
	)
}

func TestTreeContinuations(t *testing.T) {
	checkScript(t, 60, 0,
		said{"(call/cc (lambda (k) 1))", "1", 2},
		said{"(call/cc (lambda (k) (k 2)))", "2", 3},
		said{"(+ 1 (call/cc (lambda (k) (+ 10 (k 2)))))", "3", 4},
		said{"(call/cc (lambda (k) (begin (k 3) none)))", "3", 3},
		said{"(if (call/cc (lambda (k) (k #f))) 1 2)", "2", 3},
		said{"(call/cc (lambda (k) (+ 1 (call/cc (lambda (c) (k (c 5)))))))", "6", 6},
		said{"(call/cc (lambda (k) (+ 1 (call/cc (lambda (c) (c (k 5)))))))", "5", 5},
		said{"((call/cc (lambda (k) k)) (lambda (x) 9))", "9", 4},
		said{"(call/cc call/cc)", "#cont", 3},
		said{"((call/cc call/cc) (lambda (x) 4))", "4", 5},
		said{"(call/cc (call/cc call/cc))", "#cont", 7},
		said{"(begin (define x 1) 2)", "! 1", 0},
	)
	// What is caught comes in later lines as well, as often as it is called; what stood behind the call does not come.
	checkScript(t, 60, 12,
		said{"(define k 0)", "#none", 0},
		said{"(list 1 (call/cc (lambda (c) (begin (set! k c) 2))) 3)", "(1 2 3)", 3},
		said{"(k 8)", "(1 8 3)", 2},
		said{"(car (k 9))", "(1 9 3)", 2},
		said{"(begin (k 'x) none)", "(1 x 3)", 2},
		said{"k", "#cont", 0},
		said{"(eq? k k)", "#t", 1},
		said{"(k)", "! 8", 1},
		said{"(k 1 2)", "! 8", 1},
	)
	// A definition that was to come is made again.
	checkScript(t, 60, 0,
		said{"(define k 0)", "#none", 0},
		said{"(define x (+ 1 (call/cc (lambda (c) (begin (set! k c) 1)))))", "#none", 3},
		said{"x", "2", 0},
		said{"(+ 5 (k 10))", "#none", 2},
		said{"x", "11", 0},
		said{"(set! x (k 20))", "#none", 2},
		said{"x", "21", 0},
	)
}

// What was to come is as it was, whatever it came to before: the values ahead of it, and the parameters around it.
func TestTreeAgain(t *testing.T) {
	checkScript(t, 60, 13,
		said{"(define k 0)", "#none", 0},
		said{"(define n 0)", "#none", 0},
		said{"(define next (lambda () (begin (set! n (+ n 1)) n)))", "#none", 0},
		said{"(list (next) (call/cc (lambda (c) (begin (set! k c) 'a))) (next))", "(1 a 2)", 7},
		said{"(k 'b)", "(1 b 3)", 4},
		said{"(k 'c)", "(1 c 4)", 4},
		said{"(let ((m (next))) (begin (call/cc (lambda (c) (set! k c))) (list m (next))))", "(5 6)", 8},
		said{"(k 0)", "(5 7)", 4},
	)
	checkScript(t, 60, 0,
		said{"(define k 0)", "#none", 0},
		said{"(define n 0)", "#none", 0},
		said{"(begin (call/cc (lambda (c) (set! k c))) (set! n (+ n 1)) (if (< n 5) (k 0) n))", "5", 16},
		said{"(k 1)", "6", 3},
		said{"(begin (set! n 2) (k 1))", "5", 9},
		said{"n", "5", 0},
	)
	// A procedure that was applied ahead of it keeps its parameters.
	checkScript(t, 60, 6,
		said{"(define k 0)", "#none", 0},
		said{"(define p 0)", "#none", 0},
		said{"(set! p ((lambda (x y z) (lambda () (list x y z))) 1 2 (call/cc (lambda (c) (begin (set! k c) 3)))))", "#none", 3},
		said{"(define q p)", "#none", 0},
		said{"(k 4)", "#none", 2},
		said{"(q)", "(1 2 3)", 2},
		said{"(p)", "(1 2 4)", 2},
	)
	// A loop between two that each catch the other.
	checkScript(t, 60, 4,
		said{"(define out '())", "#none", 0},
		said{"(define back 0)", "#none", 0},
		said{"(define yield (lambda (x) (call/cc (lambda (c) (begin (set! back c) (ret x))))))", "#none", 0},
		said{"(define ret 0)", "#none", 0},
		said{"(define go (lambda () (call/cc (lambda (c) (begin (set! ret c) (yield 1) (yield 2) (ret 'end))))))", "#none", 0},
		said{"(set! out (cons (go) out))", "#none", 8},
		said{"(back 0)", "#none", 6},
		said{"(begin (set! out (cons 7 out)) (back 0))", "#none", 4},
		said{"out", "(end 7 2 1)", 0},
	)
}

// What was caught in a line that ended with an error is there as well.
func TestTreeCaughtAheadOfError(t *testing.T) {
	checkScript(t, 8, 3,
		said{"(define k 0)", "#none", 0},
		said{"(car (call/cc (lambda (c) (begin (set! k c) 1))))", "! 6", 3},
		said{"(k '(7))", "7", 2},
		said{"(k 7)", "! 6", 2},
		said{"(k '(8 9))", "8", 2},
		said{"(begin (call/cc (lambda (c) (set! k c))) (k 0))", "! 9", 8},
		said{"(k 0)", "! 9", 8},
		said{"(+ 1 2)", "3", 1},
	)
}

// What is applied is counted, and takes fuel, also where it comes to an error; what finds no fuel is not.
func TestTreeFuel(t *testing.T) {
	for _, one := range []struct {
		line  string
		calls int64
		text  string
	}{
		{"(+ 1 (+ 2 3))", 2, "6"},
		{"((lambda (x) x) 1)", 1, "1"},
		{"(call/cc (lambda (k) (k 1)))", 3, "1"},
		{"(call/cc call/cc)", 3, "#cont"},
		{"(call/cc list)", 2, "(#cont)"},
		{"(1)", 1, "! 6"},
		{"(1 2 3 4)", 1, "! 6"},
		{"(#t 1)", 1, "! 6"},
		{"('() 1)", 1, "! 6"},
		{"('x 1)", 1, "! 6"},
		{"('(car) 1)", 1, "! 6"},
		{"((set! car 1) 1)", 1, "! 6"},
		{"(car)", 1, "! 8"},
		{"(car '() 1)", 1, "! 8"},
		{"(list 1 2 3)", 1, "(1 2 3)"},
		{"(car 1)", 1, "! 6"},
		{"(+ 1000000000 1)", 1, "! 7"},
		{"(quo 1 0)", 1, "! 7"},
		{"((lambda () 1) 1)", 1, "! 8"},
		{"((lambda (x) 1))", 1, "! 8"},
		{"((lambda (x y) 1) 1)", 1, "! 8"},
		{"((lambda (x y z) 1) 1 2)", 1, "! 8"},
		{"((lambda (x y) 1) 1 2 3)", 1, "! 8"},
		{"(call/cc)", 1, "! 8"},
		{"(call/cc car cdr)", 1, "! 8"},
		{"(call/cc car cdr list)", 1, "! 8"},
		{"(call/cc 1)", 2, "! 6"},
		{"(call/cc car)", 2, "! 6"},
		{"(call/cc (lambda () 1))", 2, "! 8"},
		{"(call/cc (lambda (k l) 1))", 2, "! 8"},
		{"(call/cc (lambda (k) (k)))", 3, "! 8"},
		{"(call/cc (lambda (k) (k 1 2)))", 3, "! 8"},
		{"(call/cc (lambda (k) (k 1 2 3)))", 3, "! 8"},
	} {
		pairs := impl.RunTree([]string{one.line}, 400).Pairs
		for fuel := range int64(7) {
			switch {
			case fuel < one.calls:
				got := impl.RunTree([]string{one.line}, fuel)
				checkScript(t, fuel, got.Pairs, said{one.line, "! 9", fuel})
			default:
				checkScript(t, fuel, pairs, said{one.line, one.text, one.calls})
			}
		}
		checkScript(t, 400, pairs, said{one.line, one.text, one.calls})
	}
	for _, line := range []string{"1", "x", "'(1)", "(lambda () (f))", "(begin 1 2)", "(if #f 1 2)", "(define x 1)", "(set! x 1)", "(", "(if)"} {
		with, without := checkLines(t, []string{line}, 400, "x"), checkLines(t, []string{line}, 0, "x")
		if !sameRun(with, without) || with.Calls[0] != 0 {
			t.Errorf("%q comes to %+v and without fuel to %+v", line, with, without)
		}
	}
}

// Each line has all of the fuel.
func TestTreeFuelEachLine(t *testing.T) {
	loop := "(define f (lambda (n) (if (= n 0) 'end (f (- n 1)))))"
	checkScript(t, 400, 0,
		said{loop, "#none", 0},
		said{"(f 132)", "end", 398},
		said{"(begin (f 132) (list))", "()", 399},
		said{"(begin (f 132) (list) (list))", "()", 400},
		said{"(begin (f 132) (list) (list) (list))", "! 9", 400},
		said{"(begin (f 132) (list) (list) 1)", "1", 400},
		said{"(f 133)", "! 9", 400},
		said{"(f 0)", "end", 2},
		said{"(f 1000000000)", "! 9", 400},
		said{"(f -1)", "! 9", 400},
	)
	checkScript(t, 5, 0,
		said{loop, "#none", 0},
		said{"(f 1)", "end", 5},
		said{"(f 1)", "end", 5},
		said{"(f 2)", "! 9", 5},
		said{"(f 1)", "end", 5},
	)
	checkScript(t, 4, 0, said{loop, "#none", 0}, said{"(f 1)", "! 9", 4}, said{"(f 0)", "end", 2})
	checkScript(t, 0, 0, said{loop, "#none", 0}, said{"(f 1)", "! 9", 0}, said{"f", "#proc", 0})
	checkScript(t, 1, 0, said{"(f 1)", "! 4", 0}, said{"(car (list))", "! 9", 1}, said{"(list)", "()", 1})
}

// What was done ahead of an error stays, and the next lines go on from there.
func TestTreeErrorsLeave(t *testing.T) {
	checkScript(t, 9, 8,
		said{"(define a 1)", "#none", 0},
		said{"(begin (set! a (cons 2 3)) (car 1) (set! a 4))", "! 6", 2},
		said{"a", "(2 . 3)", 0},
		said{"(begin (set! a (list a a)) none)", "! 4", 1},
		said{"a", "((2 . 3) (2 . 3))", 0},
		said{"(cons (cons 5 5) (car none))", "! 4", 1},
		said{"(list (set! a car) (list 1 2 3) (a 1))", "! 6", 2},
		said{"(a '(6))", "6", 1},
		said{"(begin (set! a 7) (a))", "! 6", 1},
		said{"a", "7", 0},
	)
	checkScript(t, 2, 3,
		said{"(define a 1)", "#none", 0},
		said{"(begin (set! a (cons 2 2)) (set! a (cons 3 3)) (set! a (cons 4 4)) (set! a 5))", "! 9", 2},
		said{"a", "(3 . 3)", 0},
		said{"(begin (set! a 6) (list 1) (list) (list))", "! 9", 2},
		said{"a", "6", 0},
	)
	// A line that is not read, or means nothing, does nothing.
	checkScript(t, 9, 0,
		said{"(define a 1)", "#none", 0},
		said{"(begin (set! a 2) (if 1))", "! 1", 0},
		said{"(set! a 3))", "! 1", 0},
		said{"(set! a B)", "! 5", 0},
		said{"(begin (set! a 4) (f 1 2 3 4))", "! 2", 0},
		said{"a", "1", 0},
	)
}

// Pairs are those of all lines; a const makes its own ones each time.
func TestTreePairs(t *testing.T) {
	checkScript(t, 30, 13,
		said{"(define l '(1 2))", "#none", 0},
		said{"(define m (cons 0 l))", "#none", 1},
		said{"(eq? (cdr m) l)", "#t", 2},
		said{"(define f (lambda () '(x y)))", "#none", 0},
		said{"(eq? (f) (f))", "#f", 3},
		said{"(let ((a (f))) (eq? a a))", "#t", 3},
		said{"(eq? '() '())", "#t", 1},
		said{"(eq? '(1) '(1))", "#f", 1},
		said{"m", "(0 1 2)", 0},
		said{"(list m l)", "((0 1 2) (1 2))", 1},
	)
}

// fillLines make pairs of a const, 50 in each round.
func fillLines(rounds int) []string {
	return []string{"(define f (lambda (n) (if (= n 0) 0 (begin '(" + times(49, "1 ") + "1) (f (- n 1))))))", "(f " + strconv.Itoa(rounds) + ")"}
}

func TestTreeMaxPairs(t *testing.T) {
	run := func(pairs int64, rounds int, script ...said) {
		t.Helper()
		fill := fillLines(rounds)
		whole := []said{{fill[0], "#none", 0}, {fill[1], "0", int64(2 + 3*rounds)}}
		checkScript(t, 400, pairs, append(whole, script...)...)
	}
	run(4000, 80)
	run(4000, 80, said{"'(1)", "! 2", 0}, said{"'()", "()", 0}, said{"'x", "x", 0}, said{"(list)", "()", 1},
		said{"(list 1)", "! 2", 1}, said{"(cons 1 2)", "! 2", 1}, said{"(f 0)", "0", 2}, said{"(f 1)", "! 2", 2}, said{"(+ 1 1)", "2", 1})
	run(4000, 79, said{"'(" + times(49, "1 ") + "1)", "(" + cut(times(49, "1 ")+"1)", 119), 0}, said{"'(1)", "! 2", 0})
	run(3999, 79, said{"'(" + times(49, "1 ") + ")", "(" + times(48, "1 ") + "1)", 0}, said{"'(1 2)", "! 2", 0}, said{"(list 1 2)", "! 2", 1})
	run(4000, 79, said{"'(" + times(49, "1 ") + ")", "(" + times(48, "1 ") + "1)", 0}, said{"'(1 2)", "! 2", 0}, said{"'((1))", "! 2", 0}, said{"(list 1 2 3)", "! 2", 1},
		said{"'(1)", "(1)", 0}, said{"'(1)", "! 2", 0})
	run(4000, 79, said{"'(" + times(47, "1 ") + ")", "(" + times(46, "1 ") + "1)", 0}, said{"(begin (list 1) '(1 2 3))", "! 2", 1}, said{"(cons '(2) 3)", "((2) . 3)", 1},
		said{"(cons 1 2)", "! 2", 1})
	// What is in the heap can still be told, and globals turned.
	run(4000, 80, said{"(define x (cons 1 1))", "! 2", 1}, said{"x", "! 4", 0}, said{"(define x 1)", "#none", 0}, said{"(set! x (list 1 2))", "! 2", 1}, said{"x", "1", 0})
}

func TestTreeTexts(t *testing.T) {
	long := times(13, "(abcdefghij) ")
	checkScript(t, 9, 26, said{"'(" + long + ")", cut("("+long, 120), 0})
	checkScript(t, 9, 60, said{"'(" + times(60, "1 ") + ")", "(" + times(59, "1 ") + "1", 0})
	checkScript(t, 9, 59, said{"'(" + times(59, "1 ") + ")", "(" + times(58, "1 ") + "1)", 0})
	checkScript(t, 9, 3, said{"(cons 1 (cons car (cons 'x (lambda () 1))))", "(1 #prim x . #proc)", 3})
	if got := impl.TreeGlobal([]string{"(define a '(" + times(60, "1 ") + "))"}, 0, "a"); got.Text != "("+times(59, "1 ")+"1" {
		t.Errorf("the text of a = %q", got.Text)
	}
}

func TestTreeWrongLines(t *testing.T) {
	for line, text := range map[string]string{
		"": "! 1", " ": "! 1", "; x": "! 1", "\n": "! 1", ")": "! 1", "(": "! 1", "'": "! 1", "1 2": "! 1", "A": "! 5", "#x": "! 5", "\x00": "! 5", "é": "! 5",
		"()": "! 1", "if": "! 1", "(if 1 2)": "! 1", "(quote)": "! 1", "(lambda (x x) 1)": "! 1", "(f 1 2 3 4)": "! 2", "(lambda (a b c d) 1)": "! 2",
		"(define 1 2)": "! 1", "(set! if 2)": "! 1", "((lambda (x) (set! x 1)) 2)": "! 1", "(begin (define x 1))": "! 1", "(let ((x)) x)": "! 1",
		times(121, "1 "): "! 2", times(13, "("): "! 2", "(" + times(80, "1 ") + ")": "! 2", "(begin " + times(78, "1 ") + ")": "1", "(begin " + times(79, "1 ") + ")": "! 2",
		"1" + times(399, " "): "1", times(400, ";"): "! 1", times(400, "a"): "! 5", "1 ;" + times(397, "x"): "1", "01": "! 5", "1000000001": "! 5", "-1000000000": "-1000000000",
	} {
		checkScript(t, 9, 0, said{line, text, 0})
		checkScript(t, 0, 0, said{"1", "1", 0}, said{line, text, 0}, said{"2", "2", 0})
		if got := impl.RunOne(line, 9); got != (impl.TextResult{Text: text}) {
			t.Errorf("RunOne of %q = %+v, not %q", line, got, text)
		}
	}
}

func TestTreeLinesFault(t *testing.T) {
	wide, wider := times(400, " "), times(401, " ")
	lists := [][]string{nil, {}, {""}, {wide}, {wider}, {wider, "1"}, {"1", wider}, slices.Repeat([]string{"1"}, 12), slices.Repeat([]string{"1"}, 13), slices.Repeat([]string{wide}, 12), slices.Repeat([]string{wider}, 12),
		slices.Repeat([]string{wider}, 13), slices.Repeat([]string{"1"}, 5000), {times(100000, "(")}, append(slices.Repeat([]string{"1"}, 11), wider)}
	for _, lines := range lists {
		for _, fuel := range []int64{-1, 0, 1, 400, 401, 200, math.MinInt64, math.MaxInt64, -400} {
			code := wantLinesFault(lines, fuel)
			checkLines(t, lines, fuel, "car", "none", "", "A", "if")
			if len(lines) == 1 {
				want := impl.TextResult{Code: code}
				if code == impl.OK {
					want.Text = "! 1"
				}
				if got := impl.RunOne(lines[0], fuel); got != want {
					t.Fatalf("RunOne of %q with %d = %+v, not %+v", cut(lines[0], 9), fuel, got, want)
				}
			}
		}
	}
	for _, one := range []struct {
		lines []string
		fuel  int64
		code  int64
	}{
		{nil, 0, 0}, {nil, 400, 0}, {nil, -1, 3}, {nil, 401, 3}, {lists[7], 1, 0}, {lists[8], 1, 2}, {lists[8], -1, 2}, {lists[4], 401, 3}, {lists[4], 400, 2}, {lists[11], 401, 2}, {lists[10], 401, 3}, {lists[10], 0, 2}, {lists[9], 0, 0},
	} {
		if got := impl.LinesFault(one.lines, one.fuel); got != one.code {
			t.Errorf("LinesFault of %d lines with %d = %d, not %d", len(one.lines), one.fuel, got, one.code)
		}
		if got := impl.RunTree(one.lines, one.fuel); got.Code != one.code || len(got.Texts) != len(got.Calls) || one.code != 0 && got.Texts != nil {
			t.Errorf("RunTree of %d lines with %d = %+v", len(one.lines), one.fuel, got)
		}
	}
	checkScript(t, 0, 0)
	checkScript(t, 9, 0, slices.Repeat([]said{{"(+ 1 1)", "2", 1}}, 12)...)
}

func TestTreeGlobal(t *testing.T) {
	lines := []string{"(define a '(1 2))", "(define b (lambda () a))", "(define c (call/cc (lambda (k) k)))", "(set! a (cons 0 a))", "(define d (car 1))", "(define e (set! a a))"}
	for name, want := range map[string]impl.TextResult{
		"a": {Text: "(0 1 2)"}, "b": {Text: "#proc"}, "c": {Text: "#cont"}, "d": {Code: impl.ErrNone}, "e": {Text: "#none"}, "car": {Text: "#prim"}, "call/cc": {Text: "#prim"}, "+": {Text: "#prim"},
		"none": {Code: impl.ErrNone}, "if": {Code: impl.ErrNone}, "define": {Code: impl.ErrNone}, "k": {Code: impl.ErrNone}, "abcdefghijkl": {Code: impl.ErrNone},
		"": {Code: impl.ErrText}, "A": {Code: impl.ErrText}, "a ": {Code: impl.ErrText}, "abcdefghijklm": {Code: impl.ErrText}, "1": {Code: impl.ErrText}, "\xff": {Code: impl.ErrText},
	} {
		if got := impl.TreeGlobal(lines, 9, name); got != want {
			t.Errorf("TreeGlobal of %q = %+v, not %+v", name, got, want)
		}
		if byHand := wantTreeGlobal(lines, 9, name); byHand != want {
			t.Errorf("by hand of %q: %+v, not %+v", name, byHand, want)
		}
		for _, fuel := range []int64{-1, 401} {
			if got := impl.TreeGlobal(lines, fuel, name); got != (impl.TextResult{Code: impl.ErrRange}) {
				t.Errorf("TreeGlobal of %q with %d = %+v", name, fuel, got)
			}
		}
		if got := impl.TreeGlobal(slices.Repeat(lines, 3), -1, name); got != (impl.TextResult{Code: impl.ErrMany}) {
			t.Errorf("TreeGlobal of %q, too many lines = %+v", name, got)
		}
		if got := impl.TreeGlobal([]string{times(401, "1")}, 9, name); got != (impl.TextResult{Code: impl.ErrMany}) {
			t.Errorf("TreeGlobal of %q, too long a line = %+v", name, got)
		}
	}
	for _, name := range wrongNames() {
		if got := impl.TreeGlobal(nil, 0, name); got != (impl.TextResult{Code: impl.ErrText}) {
			t.Errorf("TreeGlobal of %q = %+v", name, got)
		}
	}
	// Fuel counts for what the lines leave.
	turns := []string{"(define a 1)", "(begin (set! a 2) (list) (set! a 3) (list) (set! a 4))"}
	for fuel, text := range []string{"2", "3", "4", "4"} {
		if got := impl.TreeGlobal(turns, int64(fuel), "a"); got.Text != text {
			t.Errorf("a with %d = %+v, not %q", fuel, got, text)
		}
	}
}

// deepLines leave a chain of what is to come that is as deep as it can be: each line goes on where the one ahead of it was caught. Each round of it does what is told by work.
func deepLines(lines int, work string) []string {
	list := []string{
		"(define k 0)",
		"(define x 0)",
		"(define f (lambda (n) (begin (if (= n 0) ((call/cc (lambda (c) (begin (set! k c) list)))) (f (- n 1))) " + work + ")))",
		"(f 100)",
	}
	for range lines {
		list = append(list, "(k (lambda () (f 100)))")
	}
	return list
}

func TestTreeDeep(t *testing.T) {
	for _, work := range []string{"1", "(set! x (set! x (set! x 1)))", "(if (if (set! x 1) #f #t) 1 2)", "(begin (begin 1 2) (begin 3))"} {
		checkLines(t, deepLines(7, work), 400, "x", "k")
		checkLines(t, deepLines(7, work), 120, "x", "k")
	}
	// Without work behind it a call is the last thing, and nothing of it is to come.
	checkScript(t, 400, 0,
		said{"(define f (lambda (n) (if (= n 0) 'end (begin 1 (f (- n 1))))))", "#none", 0},
		said{"(f 132)", "end", 398},
	)
}

// againLines go through a deep chain again and again, which takes three of fuel each time and not more, however much there is to do in it.
func againLines(work string) []string {
	return []string{
		"(define k 0)",
		"(define m 0)",
		"(define x 0)",
		"(define f (lambda (n) (begin (if (= n 0) (call/cc (lambda (c) (set! k c))) (f (- n 1))) " + work + ")))",
		"(begin (f 99) (if (= m 0) 'end (begin (set! m (- m 1)) (k 0))))",
		"(begin (set! m 130) (k 0))",
	}
}

// A procedure whose number is above that of any value can be applied, but all that asks for the fault of a value tells it.
func TestTreeManyProcedures(t *testing.T) {
	lambdas := func(count int) string { return times(count, "(lambda () 1) ") }
	lines := append(againLines(lambdas(10)), "(lambda () 1)", "((lambda () 1))", "(define x (lambda () 1))", "(set! m (lambda () 1))", "(eq? 1 (lambda () 1))", "(if (lambda () 1) 2 3)")
	if got := checkLines(t, lines, 400, "x", "m", "k"); !slices.Equal(got.Texts[4:], []string{"end", "end", "! 3", "1", "! 3", "! 3", "! 3", "2"}) {
		t.Errorf("many procedures come to %q", got.Texts)
	}
	// The two lambdas of f, a thousand in each of 99 rounds, g, and 12 in each of its rounds: the next one is number 99999.
	lines[5] = "(begin (set! m 97) (k 0))"
	lines = append(lines[:6], "(define g (lambda (n) (if (= n 0) 0 (begin "+lambdas(12)+" (g (- n 1))))))", "(g 83)", "(define x (lambda () 1))", "(lambda () 1)", "(x)", "(eq? x (lambda () 1))")
	if got := checkLines(t, lines, 400, "x"); !slices.Equal(got.Texts[4:], []string{"end", "end", "#none", "0", "#none", "! 3", "1", "! 3"}) {
		t.Errorf("as many procedures as there may be, and more, come to %q", got.Texts)
	}
}

func TestTreeManyVersions(t *testing.T) {
	lines := append(againLines(times(10, "(set! x m) ")), "x", "(set! x 'new)", "(define x 'new)", "x", "(set! m x)", "m")
	got := impl.RunTree(lines, 400)
	if !slices.Equal(got.Texts[5:], []string{"! 3", "32", "! 3", "! 3", "32", "#none", "32"}) {
		t.Errorf("many versions come to %q, %d", got.Texts, got.Calls)
	}
}

// A speaker tells forms that mostly come to something: numbers stand where numbers are asked for, and lists where lists are.
type speaker struct {
	dice
	nums  []string
	conts []string
}

func (s *speaker) one(list []string) string { return list[s.next(len(list))] }

func (s *speaker) with(name string, isCont bool, tell func() string) string {
	nums, conts := s.nums, s.conts
	defer func() { s.nums, s.conts = nums, conts }()
	if isCont {
		s.conts = append(slices.Clone(conts), name)
	} else {
		s.nums = append(slices.Clone(nums), name)
	}
	return tell()
}

func (s *speaker) catch(size int) string {
	name := s.one([]string{"c", "d"})
	return "(call/cc (lambda (" + name + ") " + s.with(name, true, func() string {
		if s.next(3) == 0 {
			return "(begin (set! " + s.one([]string{"k", "j"}) + " " + name + ") " + s.num(size-2) + ")"
		}
		return s.num(size - 2)
	}) + "))"
}

func (s *speaker) num(size int) string {
	if size < 2 {
		if len(s.nums) > 0 && s.next(2) == 0 {
			return s.one(s.nums)
		}
		return s.one([]string{"0", "1", "2", "3", "-1", "n", "n"})
	}
	less := func() string { return s.num(size / 2) }
	switch s.next(17) {
	case 0, 1:
		return "(" + s.one([]string{"+", "-", "*", "quo", "rem"}) + " " + less() + " " + less() + ")"
	case 2:
		return "(if " + s.test(size/3) + " " + less() + " " + less() + ")"
	case 3:
		name := s.one([]string{"x", "y", "n"})
		return "(let ((" + name + " " + less() + ")) " + s.with(name, false, less) + ")"
	case 4:
		return "(begin (set! n " + less() + ") " + less() + ")"
	case 5:
		return "(begin (set! l " + s.list(size/2) + ") " + less() + ")"
	case 6, 7, 8:
		return s.catch(size)
	case 9, 10:
		if len(s.conts) > 0 {
			return "(" + s.one(s.conts) + " " + less() + ")"
		}
		return "(" + s.one([]string{"k", "j"}) + " " + less() + ")"
	case 11:
		return "(" + s.one([]string{"k", "j", "f"}) + " " + less() + ")"
	case 12:
		return "(f " + less() + ")"
	case 13:
		return "(g " + s.one([]string{"0", "1", "2", "n"}) + ")"
	case 14:
		return "(car " + s.list(size/2) + ")"
	case 15:
		return "((lambda (x y) " + s.with("x", false, func() string { return s.with("y", false, less) }) + ") " + less() + " " + less() + ")"
	}
	return s.wild(size)
}

func (s *speaker) test(size int) string {
	switch s.next(6) {
	case 0:
		return "(null? " + s.list(size) + ")"
	case 1:
		return "(eq? " + s.num(size/2) + " " + s.list(size/2) + ")"
	case 2:
		return "(not " + s.num(size) + ")"
	case 3:
		return "(pair? " + s.list(size) + ")"
	}
	return "(" + s.one([]string{"<", "=", "eq?"}) + " " + s.num(size/2) + " " + s.num(size/2) + ")"
}

func (s *speaker) list(size int) string {
	switch s.next(7) {
	case 0:
		return s.one([]string{"'()", "'(1 2 3)", "'(0 (1) x)"})
	case 1:
		return "(cons " + s.num(size/2) + " " + s.list(size/2) + ")"
	case 2:
		return "(list " + s.num(size/3) + " " + s.num(size/3) + " " + s.num(size/3) + ")"
	case 3:
		return "(cdr " + s.list(size-1) + ")"
	case 4:
		return "(begin (set! l " + s.list(size/2) + ") " + s.list(size/2) + ")"
	}
	return "l"
}

func (s *speaker) wild(size int) string {
	switch s.next(9) {
	case 0:
		return "(" + s.one([]string{"car", "f", "k", "call/cc", "n", "'()", "none", "+"}) + ")"
	case 1:
		return s.one([]string{"none", "car", "k", "f", "(lambda (x) x)", "#f", "'a", "call/cc"})
	case 2:
		return "(" + s.num(size/2) + " " + s.num(size/2) + ")"
	case 3:
		return "(call/cc " + s.one([]string{"f", "k", "list", "call/cc", "1", "(lambda () 1)"}) + ")"
	case 4:
		return "(" + s.one([]string{"k", "j", "f", "car", "call/cc"}) + " 1 2)"
	case 5:
		return "(set! " + s.one([]string{"none", "f", "n"}) + " " + s.num(size/2) + ")"
	}
	return "(" + s.one([]string{"k", "j"}) + " " + s.one([]string{"k", "j", "f", "car", "(lambda (x) n)"}) + ")"
}

func (s *speaker) line() string {
	for {
		line := s.num(4 + s.next(20))
		switch s.next(14) {
		case 0:
			line = "(define " + s.one([]string{"n", "f", "k", "new", "l"}) + " " + line + ")"
		case 1:
			line = "(define f (lambda (x) " + s.with("x", false, func() string { return s.num(9) }) + "))"
		case 2:
			line = s.list(10)
		case 3:
			line = s.one([]string{"n", "l", "k", "f", "(", "(if)", "(f 1 2 3 4)", "B", "", "(k 1)", "(j 2)"})
		}
		if len(line) <= impl.MaxText {
			return line
		}
	}
}

func startLines() []string {
	return []string{"(define n 3)", "(define l '(1 2))", "(define k (lambda (x) (+ x 1)))", "(define j (call/cc (lambda (c) c)))", "(define f (lambda (x) (+ x n)))", "(define g (lambda (x) (if (< x 1) 0 (+ x (g (- x 1))))))"}
}

func (s *speaker) lines() []string {
	lines := startLines()
	for range 1 + s.next(6) {
		lines = append(lines, s.line())
	}
	return lines
}

func TestTreeSome(t *testing.T) {
	s := speaker{dice: 88088}
	seen := map[string]int{}
	for range 4000 {
		lines := s.lines()
		fuel := []int64{400, 100, 40, 20, 10, 5, 2, 1, 0}[s.next(9)]
		want := checkLines(t, lines, fuel, "n", "l", "f")
		for _, text := range want.Texts[6:] {
			seen[cut(text, 3)]++
		}
	}
	for _, text := range []string{"! 1", "! 4", "! 5", "! 6", "! 7", "! 8", "! 9", "0", "5", "-1", "#no", "#pr", "#co", "#f", "()"} {
		if seen[text] < 12 {
			t.Errorf("%q was seen %d times", text, seen[text])
		}
	}
}

// Forms that were not made to come to something: most end early, with all codes.
func TestTreeForms(t *testing.T) {
	s := dice(18081)
	for range 3000 {
		var lines []string
		for range 1 + s.next(5) {
			text := wantText(s.form(3+s.next(40), 60).data(), 0)
			if s.next(3) == 0 {
				text = "(define " + []string{"x", "f", "car"}[s.next(3)] + " " + text + ")"
			}
			lines = append(lines, text)
		}
		checkLines(t, lines, int64(s.next(60)), "x", "f", "car")
	}
}

// Promise 1: the same again behind other calls, in new memory that can be written into, and no argument is changed.
func TestPromise1Tree(t *testing.T) {
	s := speaker{dice: 11811}
	lists := [][]string{nil, {"'abcdefghijkl"}, {"(define abc 'xyz)", "abc", "'(abc xyz)", "A", "(begin xyz)"}, {times(401, "1")}, slices.Repeat([]string{"'symbol"}, 13)}
	for range 60 {
		lists = append(lists, s.lines())
	}
	for _, given := range lists {
		lines := make([]string, 0, len(given)+3)
		for _, line := range given {
			lines = append(lines, strings.Clone(line))
		}
		name := strings.Clone("abc")
		for _, fuel := range []int64{-1, 0, 3, 400} {
			_, want := wantRun(given, fuel)
			for range 2 {
				checkRun(t, lines, fuel, want)
				got, one := impl.RunTree(lines, fuel), impl.TreeGlobal(lines, fuel, name)
				for _, line := range append(slices.Clone(lines), name) {
					if !apart(one.Text, line) || slices.ContainsFunc(got.Texts, func(text string) bool { return !apart(text, line) }) {
						t.Fatalf("%q is handed on", line)
					}
				}
				for i := range got.Texts {
					if alone := impl.RunOne(lines[i], fuel); alone.Code != impl.OK || !apart(alone.Text, lines[i]) {
						t.Fatalf("RunOne of %q = %+v", lines[i], alone)
					}
				}
				for i := range got.Texts[:cap(got.Texts)] {
					got.Texts[:cap(got.Texts)][i] = "changed"
				}
				for i := range got.Calls[:cap(got.Calls)] {
					got.Calls[:cap(got.Calls)][i] = -7
				}
				if !slices.Equal(lines, given) || !slices.Equal(lines[:cap(lines)][len(lines):], make([]string, cap(lines)-len(lines))) {
					t.Fatalf("the lines are changed: %q", lines)
				}
			}
		}
	}
}

// Promise 1: it answers however long a line goes on: millions of cores between a few applications need no deep stack of calls.
func TestPromise1TreeLong(t *testing.T) {
	defer debug.SetMaxStack(debug.SetMaxStack(1 << 26))
	lines := deepLines(4, times(40, "1 "))
	lines[1] = "(define m 0)"
	lines[3] = "(begin (f 100) (if (= m 0) 'end (begin (set! m (- m 1)) (k list))))"
	lines = append(lines, "(begin (set! m 98) (k list))")
	if got := impl.RunTree(lines, 400); got.Texts[4] != "end" || got.Texts[7] != "end" || got.Texts[8] != "end" || got.Calls[8] != 395 {
		t.Errorf("the long line comes to %+v", got)
	}
}

// Promise 1: it ends, however wild the bytes are.
func TestPromise1TreeTexts(t *testing.T) {
	pieces := append(append(rightPieces(), wrongPieces()...), "(f f)", "(lambda (f) ", "(call/cc ", "(set! f ", "f", "define", ")", "(")
	for _, text := range someTexts(3000, 30, pieces) {
		checkLines(t, []string{text, "(define f (lambda (f) (f f)))", text, "(f f)"}, 30, "f")
	}
	for _, text := range []string{"((lambda (f) (f f)) (lambda (f) (f f)))", "((call/cc call/cc) (call/cc call/cc))", "((lambda (f) (f f)) (lambda (f) (call/cc (lambda (k) (f f)))))"} {
		for _, fuel := range []int64{0, 1, 2, 399, 400} {
			if want := checkLines(t, []string{text}, fuel); want.Texts[0] != "! 9" || want.Calls[0] != fuel {
				t.Errorf("%q with %d comes to %+v", text, fuel, want)
			}
		}
	}
}

// The lines ahead of the first one that used its fuel up; what comes behind that one can hang on it.
func aheadOfFuel(run impl.RunResult) int {
	if at := slices.Index(run.Texts, "! 9"); at >= 0 {
		return at
	}
	return len(run.Texts)
}

func scripts() [][]string {
	list := [][]string{
		{"(+ 1 (call/cc (lambda (k) (* 5 (k 2)))))"},
		{"(define f (lambda (n) (if (< n 1) 0 (+ n (f (- n 1))))))", "(f 4)", "(f 10)", "(f 2)"},
		{"(define k 0)", "(list 1 (call/cc (lambda (c) (begin (set! k c) 2))))", "(k 3)", "(car (k 4))", "(k k)"},
		{"(1)", "(car)", "(call/cc 1)", "(call/cc call/cc)", "((lambda (x) x))"},
		append(fillLines(80), "(cons 1 2)", "(list)", "'(1)"),
		deepLines(4, "(set! x 1)"),
	}
	s := speaker{dice: 99099}
	for range 300 {
		list = append(list, s.lines())
	}
	return list
}

// Promise 9: with more fuel a line that did not use it up comes to the same.
func TestPromise9Fuel(t *testing.T) {
	moved := 0
	for _, lines := range scripts() {
		most := impl.RunTree(lines, 400)
		for _, fuel := range []int64{0, 1, 2, 3, 4, 5, 6, 7, 9, 12, 18, 30, 60, 120, 250, 399} {
			less := impl.RunTree(lines, fuel)
			same := aheadOfFuel(less)
			if same < len(lines) {
				moved++
			}
			for _, more := range []impl.RunResult{impl.RunTree(lines, fuel+1), most} {
				if !slices.Equal(less.Texts[:same], more.Texts[:same]) || !slices.Equal(less.Calls[:same], more.Calls[:same]) {
					t.Fatalf("%q with %d: %+v, and with more %+v", lines, fuel, less, more)
				}
				if same == len(lines) && less.Pairs != more.Pairs {
					t.Fatalf("%q with %d leaves %d pairs, and with more %d", lines, fuel, less.Pairs, more.Pairs)
				}
			}
			for i, calls := range less.Calls {
				if calls > fuel || less.Texts[i] == "! 9" && calls != fuel {
					t.Fatalf("%q with %d: %+v", lines, fuel, less)
				}
			}
		}
	}
	if moved < 500 {
		t.Errorf("the fuel was used up %d times", moved)
	}
}

// Promise 9: what a line takes is just enough for it, and one less is not.
func TestPromise9Enough(t *testing.T) {
	for _, lines := range scripts() {
		whole := impl.RunTree(lines, 400)
		enough := slices.Max(append(slices.Clone(whole.Calls), 0))
		if slices.Contains(whole.Texts, "! 9") {
			continue
		}
		if got := impl.RunTree(lines, enough); !sameRun(got, whole) {
			t.Fatalf("%q with %d: %+v, not %+v", lines, enough, got, whole)
		}
		if enough == 0 {
			continue
		}
		first := slices.Index(whole.Calls, enough)
		if got := impl.RunTree(lines, enough-1); got.Texts[first] != "! 9" || got.Calls[first] != enough-1 || !slices.Equal(got.Texts[:first], whole.Texts[:first]) {
			t.Fatalf("%q with %d: %+v, beside %+v", lines, enough-1, got, whole)
		}
	}
}

// Promise 9: the first lines come to what they come to without the others.
func TestPromise9FirstLines(t *testing.T) {
	for _, lines := range scripts() {
		for _, fuel := range []int64{0, 3, 10, 50, 400} {
			whole := impl.RunTree(lines, fuel)
			pairs := int64(0)
			for n := range len(lines) + 1 {
				first := impl.RunTree(lines[:n], fuel)
				if first.Code != impl.OK || !slices.Equal(first.Texts, whole.Texts[:n]) || !slices.Equal(first.Calls, whole.Calls[:n]) {
					t.Fatalf("the first %d of %q with %d: %+v, not %+v", n, lines, fuel, first, whole)
				}
				// Pairs never go.
				if first.Pairs < pairs || first.Pairs > whole.Pairs {
					t.Fatalf("the first %d of %q with %d leave %d pairs, behind %d, of %d", n, lines, fuel, first.Pairs, pairs, whole.Pairs)
				}
				pairs = first.Pairs
			}
			if pairs != whole.Pairs {
				t.Fatalf("%q with %d: %d pairs, not %d", lines, fuel, pairs, whole.Pairs)
			}
			if one := impl.RunOne(lines[0], fuel); one.Text != whole.Texts[0] {
				t.Fatalf("RunOne of %q with %d = %+v, not %q", lines[0], fuel, one, whole.Texts[0])
			}
		}
	}
}
