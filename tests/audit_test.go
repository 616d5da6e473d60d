package tests

import (
	"fmt"
	"math"
	"slices"
	"strings"
	"testing"

	"loop.example/g00349/impl"
)

// wantApart takes the first text of both away as long as there is one, and it is the same.
func wantApart(a, b []string) impl.IntResult {
	if len(a) > 12 || len(b) > 12 {
		return impl.IntResult{Code: impl.ErrMany}
	}
	at := int64(0)
	for len(a) > 0 && len(b) > 0 && a[0] == b[0] {
		a, b, at = a[1:], b[1:], at+1
	}
	if len(a)+len(b) == 0 {
		return impl.IntResult{Code: impl.ErrNone}
	}
	return impl.IntResult{Value: at}
}

// checkFirstApart asks from both sides; texts in memory of their own are the same as well, whatever stands behind a list.
func checkFirstApart(t *testing.T, a, b []string, want impl.IntResult) {
	t.Helper()
	copied := append(make([]string, 0, len(b)+2), b...)
	copy(copied[len(b):len(b)+2], []string{"x", "y"})
	for i, text := range b {
		copied[i] = strings.Clone(text)
	}
	for _, got := range []impl.IntResult{impl.FirstApart(a, b), impl.FirstApart(b, a), impl.FirstApart(a, copied), impl.FirstApart(copied, a), wantApart(a, b)} {
		if got != want {
			t.Fatalf("FirstApart of %.200q and %.200q = %+v, not %+v", a, b, got, want)
		}
	}
}

func apartAt(at int) impl.IntResult { return impl.IntResult{Value: int64(at)} }

func noneApart() impl.IntResult { return impl.IntResult{Code: impl.ErrNone} }

func tooMany() impl.IntResult { return impl.IntResult{Code: impl.ErrMany} }

func TestFirstApart(t *testing.T) {
	for _, w := range []struct {
		a    []string
		b    []string
		want impl.IntResult
	}{
		{nil, nil, noneApart()},
		{nil, []string{}, noneApart()},
		{[]string{}, []string{}, noneApart()},
		{nil, []string{"x"}, apartAt(0)},
		{[]string{}, []string{"x", "y"}, apartAt(0)},
		{nil, []string{""}, apartAt(0)},
		{[]string{""}, []string{""}, noneApart()},
		{[]string{""}, []string{"", ""}, apartAt(1)},
		{[]string{"x"}, []string{"x", ""}, apartAt(1)},
		{[]string{"x", "y"}, []string{"x", "y", "", ""}, apartAt(2)},
		{[]string{"x", "", "y"}, []string{"x", "y"}, apartAt(1)},
		{[]string{"x"}, []string{"x"}, noneApart()},
		{[]string{"x"}, []string{"y"}, apartAt(0)},
		{[]string{"x"}, []string{""}, apartAt(0)},
		{[]string{"x", "y"}, []string{"y", "x"}, apartAt(0)},
		{[]string{"x", "y", "z"}, []string{"w", "y", "z"}, apartAt(0)},
		{[]string{"x", "y", "z"}, []string{"x", "w", "z"}, apartAt(1)},
		{[]string{"x", "y", "z"}, []string{"x", "y", "w"}, apartAt(2)},
		{[]string{"x", "y", "z"}, []string{"x", "w", "v"}, apartAt(1)},
		{[]string{"x", "y", "z"}, []string{"y", "z"}, apartAt(0)},
		{[]string{"x", "y", "z"}, []string{"x", "z"}, apartAt(1)},
		{[]string{"x", "y", "z"}, []string{"x", "y"}, apartAt(2)},
		{[]string{"xy"}, []string{"x", "y"}, apartAt(0)},
		{[]string{"x", "yz"}, []string{"xy", "z"}, apartAt(0)},
	} {
		checkFirstApart(t, w.a, w.b, w.want)
	}
}

// Texts that are nearly the same are apart, however long they are.
func TestFirstApartTexts(t *testing.T) {
	long := times(1<<20, "x")
	texts := []string{"", " ", "\x00", "\n", "x", "X", "x ", " x", "xx", "x\x00", "! 1", "! 10", "!1", "! 2", "1", "01", "#t", "#f", "\xff", "\xfe", "\xc3\xa9", "e\xcc\x81", "\xe9", "(1 2)", "(1  2)", times(400, "x"), times(401, "x"), long, long + "x", long[1:] + "y"}
	for i, a := range texts {
		for j, b := range texts {
			one, two, three := apartAt(0), apartAt(1), apartAt(11)
			if i == j {
				one, two, three = noneApart(), noneApart(), noneApart()
			}
			checkFirstApart(t, []string{a}, []string{b}, one)
			checkFirstApart(t, []string{"z", a, "z"}, []string{"z", b, "z"}, two)
			checkFirstApart(t, append(someLines(11), a), append(someLines(11), b), three)
		}
	}
}

// someLines: as many texts, each another one.
func someLines(count int) []string {
	var list []string
	for i := range count {
		list = append(list, fmt.Sprint("text ", i))
	}
	return list
}

// Promise 17: lists of every length, apart at every place: one text is another one, or is not there, or one more is; what stands behind it turns nothing.
func TestPromise17Apart(t *testing.T) {
	for count := range 13 {
		list := someLines(count)
		checkFirstApart(t, list, slices.Clone(list), noneApart())
		for at := range count {
			first := list[:at]
			for _, other := range [][]string{
				first,
				append(slices.Clone(first), ""),
				append(slices.Clone(first), "other"),
				append(append(slices.Clone(first), "other"), list[at+1:]...),
				append(append(slices.Clone(first), ""), list[at+1:]...),
				append(slices.Clone(first), slices.Repeat([]string{"other"}, 12-at)...),
				append(slices.Clone(first), list[at+1:]...),
				slices.Insert(slices.Clone(list), at, "other")[:min(count+1, 12)],
			} {
				checkFirstApart(t, list, other, apartAt(at))
			}
		}
		if count < 12 {
			checkFirstApart(t, list, append(slices.Clone(list), ""), apartAt(count))
			checkFirstApart(t, list, append(slices.Clone(list), someLines(12-count)...), apartAt(count))
		}
	}
}

// Promise 17: up to where they are apart two lists are the same, and there they are not.
func TestPromise17ApartSome(t *testing.T) {
	s := dice(17017)
	some := func() []string {
		var list []string
		for range s.next(14) {
			list = append(list, []string{"", "a", "a", "a", "a", "a", "! 1", "b"}[s.next(8)])
		}
		return list
	}
	seen := map[impl.IntResult]int{}
	for range 20000 {
		a, b := some(), some()
		if s.next(2) == 0 {
			b = append(slices.Clone(a[:s.next(len(a)+1)]), b...)
			b = b[:min(len(b), s.next(14))]
		}
		want := wantApart(a, b)
		checkFirstApart(t, a, b, want)
		seen[want]++
		if at := want.Value; want.Code == impl.OK && (!slices.Equal(a[:at], b[:at]) || slices.Equal(a[at:min(int(at)+1, len(a))], b[at:min(int(at)+1, len(b))])) {
			t.Fatalf("%q and %q are not apart at %d", a, b, at)
		}
	}
	for _, want := range []impl.IntResult{tooMany(), noneApart(), apartAt(0), apartAt(1), apartAt(6), apartAt(10), apartAt(11)} {
		if seen[want] < 20 {
			t.Errorf("%+v was seen %d times", want, seen[want])
		}
	}
}

// More than there may be on one side or on both, also where they are the same, or apart ahead of that.
func TestFirstApartMany(t *testing.T) {
	for _, many := range []int{13, 14, 24, 25, 256, 268, 1 << 16} {
		list := someLines(many)
		for _, other := range [][]string{list, nil, {}, {""}, {"other"}, list[:1], list[:11], list[:12], list[:13], list[1:13], slices.Repeat([]string{"other"}, many), append(slices.Clone(list), "")} {
			checkFirstApart(t, list, other, tooMany())
		}
	}
	checkFirstApart(t, make([]string, 12), make([]string, 12), noneApart())
	checkFirstApart(t, make([]string, 12), make([]string, 13), tooMany())
	checkFirstApart(t, make([]string, 12), make([]string, 11), apartAt(11))
	checkFirstApart(t, make([]string, 12), nil, apartAt(0))
}

func checkErrors(t *testing.T, want impl.IntResult, texts ...string) {
	t.Helper()
	byHand := impl.IntResult{}
	for _, text := range texts {
		if len(text) > 1 && text[0] == 33 && text[1] == 32 {
			byHand.Value++
		}
	}
	if len(texts) > 12 {
		byHand = tooMany()
	}
	if got := impl.ErrorsIn(texts); got != want || byHand != want {
		t.Fatalf("ErrorsIn of %.200q = %+v, by hand %+v, not %+v", texts, got, byHand, want)
	}
}

func TestErrorsIn(t *testing.T) {
	checkErrors(t, apartAt(0))
	checkErrors(t, apartAt(0), []string{}...)
	checkErrors(t, apartAt(1), "! 6", "1", "!")
	checkErrors(t, apartAt(0), "1", "#none", "(1 2)", "")
	checkErrors(t, apartAt(3), "! 1", "! 2", "! 9")
	checkErrors(t, apartAt(2), "! 1", "x", "! 1")
	checkErrors(t, apartAt(1), "", "", "! 4", "")
	for _, text := range []string{"! 1", "! 9", "! ", "!  ", "! 10", "! 0", "! x", "! -1", "! ! 1", "! (1 2)", "! \n", "! \xff", "! " + times(1<<20, "x")} {
		checkErrors(t, apartAt(1), text)
		checkErrors(t, apartAt(2), text, "", "x", text, "!")
		checkErrors(t, apartAt(12), slices.Repeat([]string{text}, 12)...)
		checkErrors(t, apartAt(11), append(slices.Repeat([]string{text}, 11), " "+text)...)
		checkErrors(t, tooMany(), slices.Repeat([]string{text}, 13)...)
	}
	for _, text := range []string{"", "!", " ", "!1", "! 1"[1:], " ! 1", "  ! 1", "x! 1", "x ! 1", "(! 1)", "!! 1", "!\t1", "!\n1", "!\x001", "!\xa01", "!\xc2\xa01", "\xef\xbc\x81 1", "\xa1 1", "\n! 1", "\x00! 1", "#! 1", "'! 1", "?! ", "(! ! ! )", "error", times(1<<20, "!")} {
		checkErrors(t, apartAt(0), text)
		checkErrors(t, apartAt(1), text, "! 1", text)
		checkErrors(t, apartAt(0), slices.Repeat([]string{text}, 12)...)
		checkErrors(t, tooMany(), slices.Repeat([]string{text}, 13)...)
	}
	for count := range 13 {
		checkErrors(t, apartAt(count), append(slices.Repeat([]string{"! 3"}, count), slices.Repeat([]string{"!"}, 12-count)...)...)
	}
	for _, many := range []int{13, 14, 256, 268, 1 << 16} {
		checkErrors(t, tooMany(), someLines(many)...)
		checkErrors(t, tooMany(), slices.Repeat([]string{"! 1"}, many)...)
	}
	texts := someTexts(12000, 4, []string{"!", "!", " ", " ", "1", "x", "! "})
	for from := 0; from+12 <= len(texts); from += 12 {
		list := texts[from : from+from%13]
		count := 0
		for _, text := range list {
			count += strings.Count("\x00"+text, "\x00! ")
		}
		checkErrors(t, apartAt(count), list...)
	}
}

// checkSpan holds the applications of lines against the run by hand, and against both machines.
func checkSpan(t *testing.T, lines []string, fuel int64, ways ...impl.Config) []int64 {
	t.Helper()
	_, want := wantRun(lines, fuel)
	got, tree := impl.SpanOf(lines, fuel), impl.RunTree(lines, fuel)
	if got.Code != want.Code || !slices.Equal(got.List, want.Calls) || got.Code != tree.Code || !slices.Equal(got.List, tree.Calls) || got.Code != impl.OK && got.List != nil {
		t.Fatalf("SpanOf of %.200q with %d = %+v, by hand %d, by the tree machine %d", lines, fuel, got, want.Calls, tree.Calls)
	}
	for _, c := range ways {
		if code := impl.RunCode(lines, fuel, c); code.Code != got.Code || !slices.Equal(code.Calls, got.List) {
			t.Fatalf("SpanOf of %.200q with %d = %+v, by the stack machine and %+v %d", lines, fuel, got, c, code.Calls)
		}
	}
	return got.List
}

func linesOf(script []said) ([]string, []int64) {
	var lines []string
	var calls []int64
	for _, s := range script {
		lines, calls = append(lines, s.line), append(calls, s.calls)
	}
	return lines, calls
}

// checkToldSpan is given lines, and how often something is applied in each of them; all settings tell the same.
func checkToldSpan(t *testing.T, fuel int64, script ...said) {
	t.Helper()
	lines, calls := linesOf(script)
	if got := checkSpan(t, lines, fuel, someWays(len(lines))...); !slices.Equal(got, calls) {
		t.Fatalf("SpanOf of %q with %d = %d, not %d", lines, fuel, got, calls)
	}
	texts := impl.RunTree(lines, fuel).Texts
	wrong := 0
	for i, s := range script {
		if texts[i] != s.text {
			t.Fatalf("%q with %d comes to %q, not %q", s.line, fuel, texts[i], s.text)
		}
		if strings.HasPrefix(s.text, "! ") {
			wrong++
		}
	}
	checkErrors(t, apartAt(wrong), texts...)
	checkAgree(t, lines, fuel, someWays(len(lines))...)
}

// checkAudit: whether settings are told to be right hangs on the faults alone.
func checkAudit(t *testing.T, lines []string, fuel int64, a, b impl.Config) {
	t.Helper()
	one := wantLinesFault(lines, fuel) == impl.OK && wantConfigFault(a) == impl.OK
	both := one && wantConfigFault(b) == impl.OK
	if got := impl.AgreeRight(lines, fuel, a); got != one {
		t.Fatalf("AgreeRight of %.200q with %d by %+v = %t", lines, fuel, a, got)
	}
	if got := impl.SameRight(lines, fuel, a, b); got != both {
		t.Fatalf("SameRight of %.200q with %d by %+v and %+v = %t", lines, fuel, a, b, got)
	}
}

// checkAgree holds each setting against the next one, the last one against the first.
func checkAgree(t *testing.T, lines []string, fuel int64, ways ...impl.Config) {
	t.Helper()
	for i, c := range ways {
		checkAudit(t, lines, fuel, c, ways[(i+1)%len(ways)])
	}
}

// checkYes is for lines and settings without fault, all of which come to the same by each of them.
func checkYes(t *testing.T, lines []string, fuel int64, ways ...impl.Config) {
	t.Helper()
	tree := impl.RunTree(lines, fuel)
	for _, c := range ways {
		code := impl.RunCode(lines, fuel, c)
		if tree.Code != impl.OK || !sameRun(runOf(code), tree) || impl.FirstApart(code.Texts, tree.Texts) != noneApart() {
			t.Fatalf("%.200q with %d by %+v: %+v, by the tree machine %+v", lines, fuel, c, code, tree)
		}
	}
	checkAgree(t, lines, fuel, ways...)
}

// Promise 17: every kind of core and every primitive, by all settings.
func TestPromise17Kinds(t *testing.T) {
	for turn, lines := range kindLists() {
		for _, c := range allWays() {
			if !impl.AgreeRight(lines, 40, c) {
				t.Fatalf("AgreeRight of %q by %+v is false", lines, c)
			}
		}
		checkYes(t, lines, 40, someWays(turn)...)
		checkSpan(t, lines, 40, oneWay(turn))
		checkSpan(t, lines[5:], int64(turn%4), oneWay(turn+99))
	}
}

// auditLists: lines that remember, that are gone on with later, that turn globals while they run, and that come to codes between others.
func auditLists() [][]string {
	return [][]string{
		{sumLine, "(f 3)", "(f 2)"},
		{"(define k 0)", "(list 1 (call/cc (lambda (c) (begin (set! k c) 2))))", "(k 3)", "(begin (set! list cons) (k 4))", "(k k)"},
		{"(define x car)", "(define g (lambda (l) (begin (set! x (if (eq? x car) cdr car)) (x l))))", "(g '(1 2))", "(g '(1 2))", "(define x list)", "(g 1)"},
		{"(", "(define a '(1 2))", "(car 1)", "(set! a (cons (car a) a))", "(f 1 2 3 4)", "(list none a)", "A", "a", "(if (car a) (car (cdr a)) none)"},
		{"(define f (lambda (n) (if (= n 0) (begin 1 'end) (let ((m n)) (if m (f (- m 1)) none)))))", "(f 4)", "((lambda (x y) (if x (if y x y) (y x))) #t #f)"},
		{"(define k (call/cc (lambda (c) c)))", "(define n 2)", "(if (< 0 n) (begin (set! n (- n 1)) (k n)) k)", "(k list)", "k"},
		nil,
	}
}

// Promise 17: any two settings, each one with itself as well.
func TestPromise17AnyTwo(t *testing.T) {
	for turn, lines := range auditLists() {
		checkYes(t, lines, 60, someWays(turn)...)
	}
	// Short lines, each of which does what a setting could turn.
	ways, lists := allWays(), [][]string{
		{"(define f (lambda (n) (if n (f #f) 'end)))", "(f 1)"},
		{"(define k (call/cc (lambda (c) c)))", "(k list)", "(k 1)"},
		{"(define f (lambda () (begin (set! car cdr) (car '(1 2)))))", "(f)", "(f)"},
		{"(list 1 (if (car '(#f)) (if 1 2 3) 4) none)", "(", "(car 1)"},
	}
	for i, a := range ways {
		for j, b := range ways[:i+1] {
			if i%2 == j%2 {
				a, b = b, a
			}
			if lines := lists[(i+3*j)%len(lists)]; !impl.SameRight(lines, 5, a, b) {
				t.Fatalf("SameRight of %q by %+v and %+v is false", lines, a, b)
			}
		}
	}
	for turn, c := range rightConfigs() {
		checkAudit(t, lists[turn%len(lists)], int64(turn/4%6), c, oneWay(turn))
	}
}

// Hits are held against each other where both settings remember, or none does; else one has some, and the other one none.
func TestSameRightHits(t *testing.T) {
	for _, w := range []struct {
		lines []string
		hits  int64
	}{
		{[]string{sumLine, "(f 3)", "(f 2)"}, 9 + 9},
		{[]string{"(define g (lambda () car))", "(g)", "(g)", "(", "(g)"}, 2},
		{[]string{"(define g (lambda () car))", "(begin (g) (g))", "(set! car cdr)", "(begin (g) (g))"}, 2},
		{[]string{"(car '(1))", "car"}, 0},
	} {
		for turn, a := range allWays() {
			b := allWays()[(turn*7+1)%320]
			for _, c := range []impl.Config{a, b} {
				if got := impl.HitsOf(w.lines, 60, c).Value; c.Cache && got != w.hits || !c.Cache && got != 0 {
					t.Fatalf("%q by %+v: %d hits", w.lines, c, got)
				}
			}
			checkAudit(t, w.lines, 60, a, b)
		}
	}
}

// How often something is applied, told by hand: lines that come to a code, or are no form, stand between the others.
func TestSpanOf(t *testing.T) {
	checkToldSpan(t, 100)
	checkToldSpan(t, 100, said{"1", "1", 0}, said{"(+ 1 2)", "3", 1}, said{"(+ 1 (+ 2 3))", "6", 2}, said{"((lambda (x) x) 5)", "5", 1}, said{"(let ((x 1)) (+ x x))", "2", 2}, said{"(lambda (x) (x x))", "#proc", 0}, said{"(if (= 1 2) (car '()) (list 1 (list 2)))", "(1 (2))", 3})
	checkToldSpan(t, 100, said{"(call/cc (lambda (k) 1))", "1", 2}, said{"(call/cc (lambda (k) (k 2)))", "2", 3}, said{"(+ 1 (call/cc (lambda (k) (* 5 (k 2)))))", "3", 4}, said{"(call/cc call/cc)", "#cont", 3}, said{"(call/cc list)", "(#cont)", 2}, said{"(call/cc 1)", "! 6", 2}, said{"(call/cc)", "! 8", 1})
	checkToldSpan(t, 100, said{"(car 1)", "! 6", 1}, said{"(", "! 1", 0}, said{"none", "! 4", 0}, said{"(none 1)", "! 4", 0}, said{"(list (list 1) none)", "! 4", 1}, said{"(1)", "! 6", 1}, said{"((lambda (x) x))", "! 8", 1}, said{"(quo (+ 1 1) 0)", "! 7", 2}, said{"(f 1 2 3 4)", "! 2", 0}, said{"A", "! 5", 0}, said{"(+ 1 (* 2 3))", "7", 2}, said{"", "! 1", 0})
	checkToldSpan(t, 100, said{"(define k 0)", "#none", 0}, said{"(list 1 (call/cc (lambda (c) (begin (set! k c) 2))))", "(1 2)", 3}, said{"(k 3)", "(1 3)", 2}, said{"(car (k 4))", "(1 4)", 2}, said{"(set! list cons)", "#none", 0}, said{"(k 5)", "(1 5)", 2}, said{"(list 6 (k 7))", "(1 7)", 2}, said{"(k)", "! 8", 1})
	checkToldSpan(t, 100, said{"(define g (lambda (l) (begin (set! x (if (eq? x car) cdr car)) (x l))))", "#none", 0}, said{"(g 1)", "! 4", 1}, said{"(define x car)", "#none", 0}, said{"(g '(1 2))", "(2)", 3}, said{"(g '(1 2))", "1", 3}, said{"(define eq? (lambda (a b) #f))", "#none", 0}, said{"(g '(1 2))", "1", 3}, said{"(set! car (lambda (l) (list l)))", "#none", 0}, said{"(g 1)", "(1)", 4})
	checkToldSpan(t, 400, said{sumLine, "#none", 0}, said{"(f 0)", "0", 2}, said{"(f 99)", "4950", 398}, said{"(f 100)", "! 9", 400}, said{"(f 1)", "1", 6})
	checkToldSpan(t, 0, said{"'(1 2)", "(1 2)", 0}, said{"(list)", "! 9", 0}, said{"(define x 1)", "#none", 0}, said{"(car 1)", "! 9", 0}, said{"(car none)", "! 4", 0}, said{"(", "! 1", 0})
	checkToldSpan(t, 1, said{"(list)", "()", 1}, said{"(list (list))", "! 9", 1}, said{"(car 1)", "! 6", 1}, said{"((lambda () 1))", "1", 1}, said{"(call/cc list)", "! 9", 1})
	checkToldSpan(t, 1, slices.Repeat([]said{{"(+ 1 1)", "2", 1}}, 12)...)
	checkToldSpan(t, 1, said{"(list) ;" + times(392, "("), "()", 1}, said{times(400, " "), "! 1", 0}, said{"1" + times(399, " "), "1", 0})
}

// As much fuel as each line takes, and one less.
func TestSpanFuel(t *testing.T) {
	for turn, lines := range append(auditLists(), scripts()[:25]...) {
		whole := checkSpan(t, lines, 400, oneWay(turn), oneWay(turn+50))
		checkAudit(t, lines, 400, oneWay(turn), oneWay(turn+500))
		for at, calls := range whole {
			for _, fuel := range []int64{calls, max(0, calls-1)} {
				got := checkSpan(t, lines, fuel, oneWay(turn+at))
				checkAudit(t, lines, fuel, oneWay(turn+at), oneWay(turn+at+1000))
				if first := slices.IndexFunc(whole, func(calls int64) bool { return calls > fuel }); first >= 0 && (got[first] != fuel || !slices.Equal(got[:first], whole[:first])) {
					t.Fatalf("SpanOf of %q with %d = %d, with all fuel %d", lines, fuel, got, whole)
				}
			}
		}
	}
}

// Promise 17: lines of all kinds, by settings in turn.
func TestPromise17Some(t *testing.T) {
	s := speaker{dice: 17171}
	seen := map[int64]int{}
	for turn := range 400 {
		lines := s.lines()
		fuel := []int64{400, 100, 40, 20, 10, 5, 2, 1, 0}[s.next(9)]
		a, b := oneWay(turn), oneWay(turn+1500)
		checkYes(t, lines, fuel, a, b)
		for _, calls := range checkSpan(t, lines, fuel, a) {
			seen[calls]++
		}
		texts := impl.RunCode(lines, fuel, b).Texts
		wrong := slices.DeleteFunc(slices.Clone(texts), func(text string) bool { return !strings.HasPrefix(text, "! ") })
		checkErrors(t, apartAt(len(wrong)), texts...)
		checkFirstApart(t, texts, texts[:turn%len(texts)], apartAt(turn%len(texts)))
	}
	for calls := range int64(10) {
		if seen[calls] < 10 {
			t.Errorf("%d applications were seen %d times", calls, seen[calls])
		}
	}
	pieces := append(append(rightPieces(), wrongPieces()...), "(f f)", "(lambda (f) ", "(call/cc ", "(set! f ", "f", "define", ")", "(")
	for turn, text := range someTexts(600, 30, pieces) {
		lines := []string{text, "(define f (lambda (f) (f f)))", text, "(f f)"}
		checkAudit(t, lines, 30, oneWay(turn), oneWay(turn+100))
		checkSpan(t, lines, 30)
	}
}

// Lines that fill the heap, stacks that are as deep as they can be, and continuations that come again and again.
func TestPromise17Deep(t *testing.T) {
	for _, lines := range [][]string{
		append(fillLines(80), "(cons 1 2)", "(list)", "'(1)", "(f 1)"),
		append(fillLines(79), "(list 1 2 3)", "'("+times(50, "1 ")+")", "(cons 1 2)"),
		deepLines(7, "(if (if (set! x 1) #f #t) 1 2)"),
		append(againLines(times(10, "(lambda () 1) ")), "(lambda () 1)", "((lambda () 1))"),
	} {
		checkYes(t, lines, 400, impl.Config{Segment: 1, Cache: true}, impl.Config{Segment: 64, Table: 15, Peep: true, Cache: true}, impl.Config{Segment: 7, Table: 5})
		checkSpan(t, lines, 400)
	}
}

func faultLists() [][]string {
	wide, wider := times(400, " "), times(401, " ")
	one := func(count int) []string { return slices.Repeat([]string{"1"}, count) }
	return [][]string{nil, {}, {""}, {"(list)"}, {"("}, {wide}, {wider}, {wider, "1"}, {"1", wider}, one(12), one(13), slices.Repeat([]string{wide}, 12), slices.Repeat([]string{wider}, 12), slices.Repeat([]string{wider}, 13), one(5000), {times(100000, "(")}, append(one(11), wider), append(one(12), wider)}
}

func checkSpanFault(t *testing.T, lines []string, fuel int64, code int64) {
	t.Helper()
	if got := impl.SpanOf(lines, fuel); got.Code != code || code != impl.OK && got.List != nil || code == impl.OK && len(got.List) != len(lines) {
		t.Fatalf("SpanOf of %.99q with %d = %+v, not %d", lines, fuel, got, code)
	}
}

// Faults of lines, fuel and settings, on either side and on both: whatever they are, nothing is right then.
func TestAuditFaults(t *testing.T) {
	ways := append(configsOf([]int64{1}, []int64{0}), impl.Config{Segment: 64, Table: 15, Peep: true, Cache: true}, impl.Config{}, impl.Config{Segment: 65}, impl.Config{Segment: -1, Cache: true}, impl.Config{Segment: 1, Table: 16}, impl.Config{Segment: 64, Table: -1, Peep: true}, impl.Config{Segment: math.MinInt64, Table: math.MaxInt64})
	for _, lines := range faultLists() {
		for _, fuel := range []int64{-1, 0, 1, 400, 401, 200, math.MinInt64, math.MaxInt64, -400} {
			checkSpanFault(t, lines, fuel, wantLinesFault(lines, fuel))
			for _, a := range ways {
				for _, b := range ways {
					checkAudit(t, lines, fuel, a, b)
				}
			}
		}
	}
	lists := faultLists()
	for _, w := range []struct {
		lines []string
		fuel  int64
		code  int64
	}{
		{nil, 0, impl.OK}, {nil, 400, impl.OK}, {nil, 401, impl.ErrRange}, {nil, -1, impl.ErrRange}, {lists[4], 401, impl.ErrRange}, {lists[5], 0, impl.OK}, {lists[6], 0, impl.ErrMany}, {lists[6], -1, impl.ErrRange}, {lists[8], 401, impl.ErrRange},
		{lists[9], 0, impl.OK}, {lists[10], 0, impl.ErrMany}, {lists[10], 401, impl.ErrMany}, {lists[13], -1, impl.ErrMany}, {lists[16], 400, impl.ErrMany}, {lists[16], 401, impl.ErrRange}, {lists[17], 401, impl.ErrMany},
	} {
		checkSpanFault(t, w.lines, w.fuel, w.code)
	}
}

// Settings at the bounds, near to them and far out, beside a right one, beside themselves, and beside one another.
func TestAuditSettings(t *testing.T) {
	list := append(configsOf(edgeSizes(), []int64{0, 7, 15, 16}), configsOf([]int64{0, 1, 64, 65}, edgeTables())...)
	for turn, c := range list {
		for _, lines := range [][]string{nil, {"(define x (list))", "("}} {
			checkAudit(t, lines, 2, c, oneWay(turn))
			checkAudit(t, lines, 2, oneWay(turn), c)
			checkAudit(t, lines, 2, c, list[turn*31%len(list)])
			checkAudit(t, lines, 401, c, oneWay(turn))
		}
	}
	for _, w := range wrongLines() {
		right := len(w.line) <= 400
		for _, c := range someWays(len(w.line)) {
			if impl.AgreeRight([]string{"1", w.line, "(list)"}, 1, c) != right || impl.SameRight([]string{"1", w.line, "(list)"}, 1, c, impl.Config{Segment: 1}) != right {
				t.Errorf("%.60q by %+v is not %t", w.line, c, right)
			}
		}
	}
}

// Promise 1: the same again whatever was run between, in new memory that can be written into, and no argument is changed.
func TestPromise1Audit(t *testing.T) {
	s := speaker{dice: 16116}
	lists := append(auditLists(), append(faultLists(), someLines(12), []string{"! 1", "!", "! ", "(define car cdr)"})...)
	for range 15 {
		lists = append(lists, s.lines())
	}
	for turn, given := range lists {
		lines, other := append(make([]string, 0, len(given)+3), given...), lists[(turn+1)%len(lists)]
		for _, fuel := range []int64{-1, 0, 3, 400} {
			for _, c := range append(someWays(turn)[:1], impl.Config{}, impl.Config{Segment: 1, Table: 16}) {
				b := oneWay(turn)
				span, again := impl.SpanOf(lines, fuel), impl.SpanOf(lines, fuel)
				kept := slices.Clone(span.List)
				agree, same, first, wrong := impl.AgreeRight(lines, fuel, c), impl.SameRight(lines, fuel, c, b), impl.FirstApart(lines, other), impl.ErrorsIn(lines)
				for i := range span.List[:cap(span.List)] {
					span.List[:cap(span.List)][i] = -7
				}
				if !slices.Equal(again.List, kept) {
					t.Fatalf("SpanOf of %.200q hands one list out twice", lines)
				}
				impl.SpanOf(other, 400)
				impl.AgreeRight(other, 400, b)
				impl.SameRight([]string{"(define car cdr)", "(set! + -)"}, 400, b, impl.Config{Segment: 1, Cache: true})
				impl.FirstApart(other, nil)
				impl.ErrorsIn(other)
				if again := impl.SpanOf(lines, fuel); again.Code != span.Code || !slices.Equal(again.List, kept) || impl.AgreeRight(lines, fuel, c) != agree || impl.SameRight(lines, fuel, c, b) != same || impl.FirstApart(lines, other) != first || impl.ErrorsIn(lines) != wrong {
					t.Fatalf("%.200q with %d by %+v comes to something else behind %.200q", lines, fuel, c, other)
				}
				if !slices.Equal(lines, given) || !slices.Equal(lines[:cap(lines)][len(lines):], make([]string, cap(lines)-len(lines))) || b != oneWay(turn) {
					t.Fatalf("the arguments are changed: %.200q", lines)
				}
			}
		}
	}
}
