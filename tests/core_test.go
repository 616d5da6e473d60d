package tests

import (
	"fmt"
	"math"
	"slices"
	"strconv"
	"strings"
	"testing"

	"loop.example/g00349/impl"
)

func coreConst(parent int64, list ...impl.Datum) impl.Core {
	return impl.Core{Kind: impl.CoreConst, Parent: parent, Data: list}
}
func coreLocal(parent, a, b int64) impl.Core {
	return impl.Core{Kind: impl.CoreLocal, Parent: parent, A: a, B: b}
}
func coreName(kind, parent int64, name string) impl.Core {
	return impl.Core{Kind: kind, Parent: parent, Name: name}
}
func coreGlobal(parent int64, name string) impl.Core {
	return coreName(impl.CoreGlobal, parent, name)
}
func coreLambda(parent, a int64) impl.Core {
	return impl.Core{Kind: impl.CoreLambda, Parent: parent, A: a}
}
func corePlain(kind, parent int64) impl.Core { return impl.Core{Kind: kind, Parent: parent} }
func coreIf(parent int64) impl.Core          { return corePlain(impl.CoreIf, parent) }
func coreSeq(parent int64) impl.Core         { return corePlain(impl.CoreSeq, parent) }
func coreApp(parent int64) impl.Core         { return corePlain(impl.CoreApp, parent) }

func cores(list ...impl.Core) []impl.Core { return list }

func cloneCores(c []impl.Core) []impl.Core {
	list := slices.Clone(c)
	for i := range list {
		list[i].Data = slices.Clone(list[i].Data)
	}
	return list
}

func equalCores(a, b []impl.Core) bool {
	return slices.EqualFunc(a, b, func(x, y impl.Core) bool {
		return x.Kind == y.Kind && x.Parent == y.Parent && x.A == y.A && x.B == y.B && x.Name == y.Name && slices.Equal(x.Data, y.Data)
	})
}

func allKeywords() []string {
	return []string{"quote", "if", "lambda", "let", "begin", "define", "set!"}
}

// wantCoreFault keeps the chain of cores that can still take a kid, and how many kids each core has.
func wantCoreFault(c []impl.Core) int64 {
	if len(c) == 0 || len(c) > 160 {
		return impl.ErrMany
	}
	var chain []int
	kids := make([]int, len(c))
	for i, x := range c {
		has := map[int64]string{impl.CoreConst: "data", impl.CoreLocal: "a b", impl.CoreGlobal: "name", impl.CoreIf: "-", impl.CoreLambda: "a",
			impl.CoreSeq: "-", impl.CoreSet: "name", impl.CoreDef: "name", impl.CoreApp: "-"}[x.Kind]
		words := strings.Fields(has)
		lacks := func(word string) bool { return !slices.Contains(words, word) }
		if has == "" || x.A != 0 && lacks("a") || x.B != 0 && lacks("b") || x.Name != "" && lacks("name") || len(x.Data) > 0 && lacks("data") {
			return impl.ErrForm
		}
		if i == 0 && x.Parent != -1 || i > 0 && (x.Parent < 0 || x.Parent >= int64(i)) {
			return impl.ErrRange
		}
		if i > 0 {
			k := slices.Index(chain, int(x.Parent))
			if k < 0 {
				return impl.ErrForm
			}
			chain = chain[:k+1]
			kids[x.Parent]++
		}
		if !lacks("name") && (!symbol.MatchString(x.Name) || slices.Contains(allKeywords(), x.Name)) {
			return impl.ErrText
		}
		if x.Kind == impl.CoreConst {
			if code := wantDataFault(x.Data); code != impl.OK {
				return code
			}
		}
		if x.Kind == impl.CoreDef && i > 0 {
			return impl.ErrForm
		}
		if x.Kind == impl.CoreLambda && (x.A < 0 || x.A > 3) {
			return impl.ErrRange
		}
		if x.Kind == impl.CoreLocal {
			var around []int64
			for _, k := range slices.Backward(chain) {
				if c[k].Kind == impl.CoreLambda {
					around = append(around, c[k].A)
				}
			}
			if x.A < 0 || x.A >= int64(len(around)) || x.B < 0 || x.B >= around[x.A] {
				return impl.ErrRange
			}
		}
		chain = append(chain, i)
	}
	for i, x := range c {
		bounds := map[int64][2]int{impl.CoreIf: {3, 3}, impl.CoreLambda: {1, 1}, impl.CoreSet: {1, 1}, impl.CoreDef: {1, 1}, impl.CoreSeq: {1, 160}, impl.CoreApp: {1, 4}}[x.Kind]
		if kids[i] < bounds[0] || kids[i] > bounds[1] {
			return impl.ErrForm
		}
	}
	return impl.OK
}

// wantCoreText writes a core with its kids, which are asked of all of the others.
func wantCoreText(c []impl.Core, at int) string {
	x := c[at]
	var words []string
	switch x.Kind {
	case impl.CoreConst:
		return "'" + wantText(x.Data, 0)
	case impl.CoreLocal:
		return fmt.Sprintf("%%%d.%d", x.A, x.B)
	case impl.CoreGlobal:
		return x.Name
	case impl.CoreIf:
		words = []string{"if"}
	case impl.CoreLambda:
		words = []string{"fn", strconv.FormatInt(x.A, 10)}
	case impl.CoreSeq:
		words = []string{"seq"}
	case impl.CoreSet:
		words = []string{"set", x.Name}
	case impl.CoreDef:
		words = []string{"def", x.Name}
	case impl.CoreApp:
		words = []string{"app"}
	}
	for i := range c {
		if c[i].Parent == int64(at) {
			words = append(words, wantCoreText(c, i))
		}
	}
	return "(" + strings.Join(words, " ") + ")"
}

// term: a datum with its parts inside it.
type term struct {
	datum impl.Datum
	parts []term
}

func termOf(d []impl.Datum, at int) term {
	x := term{datum: d[at]}
	for _, part := range wantParts(d, at) {
		x.parts = append(x.parts, termOf(d, int(part)))
	}
	return x
}

func (x term) isList() bool { return x.datum.Kind == impl.DatList }

func (x term) isName() bool {
	return x.datum.Kind == impl.DatSym && !slices.Contains(allKeywords(), x.datum.Name)
}

func (x term) data() []impl.Datum {
	var list []impl.Datum
	var put func(x term, parent int64)
	put = func(x term, parent int64) {
		d := x.datum
		d.Parent = parent
		list = append(list, d)
		place := int64(len(list)) - 1
		for _, part := range x.parts {
			put(part, place)
		}
	}
	put(x, -1)
	return list
}

func atom(name string) term      { return term{datum: datSym(0, name)} }
func group(parts ...term) term   { return term{datum: datList(0), parts: parts} }
func quoted(d []impl.Datum) term { return group(atom("quote"), termOf(d, 0)) }
func head(x term) string         { return x.parts[0].datum.Name }
func isKey(x term) bool          { return slices.Contains(allKeywords(), head(x)) }
func counted(x term, n int) bool { return len(x.parts) == n }

func pairsOnly(list []term) bool {
	return !slices.ContainsFunc(list, func(x term) bool { return !x.isList() || len(x.parts) != 2 })
}

func named(list []term) bool {
	seen := map[string]bool{}
	for _, x := range list {
		if !x.isName() || seen[x.datum.Name] {
			return false
		}
		seen[x.datum.Name] = true
	}
	return true
}

// binding: a parameter, and how many lambdas are around its own.
type binding struct {
	name     string
	deep, at int64
}

type expandByHand struct {
	cores []impl.Core
	bound []binding // all parameters around, the innermost ones last
	deep  int64
}

type expandFault int64

func (x *expandByHand) put(c impl.Core) int64 {
	x.cores = append(x.cores, c)
	return int64(len(x.cores)) - 1
}

func (x *expandByHand) bindingOf(name string) *binding {
	for i := range slices.Backward(x.bound) {
		if x.bound[i].name == name {
			return &x.bound[i]
		}
	}
	return nil
}

func asked(code int64, holds ...bool) {
	if slices.Contains(holds, false) {
		panic(expandFault(code))
	}
}

func (x *expandByHand) all(list []term, parent int64) {
	for _, part := range list {
		x.form(part, parent, false)
	}
}

func (x *expandByHand) lambda(names []term, body term, parent int64) {
	place := x.put(coreLambda(parent, int64(len(names))))
	kept := len(x.bound)
	x.deep++
	for i, name := range names {
		x.bound = append(x.bound, binding{name: name.datum.Name, deep: x.deep, at: int64(i)})
	}
	x.form(body, place, false)
	x.bound = x.bound[:kept]
	x.deep--
}

func (x *expandByHand) form(f term, parent int64, whole bool) {
	switch f.datum.Kind {
	case impl.DatNum, impl.DatBool:
		x.put(coreConst(parent, f.data()...))
		return
	case impl.DatSym:
		asked(impl.ErrForm, f.isName())
		if b := x.bindingOf(f.datum.Name); b != nil {
			x.put(coreLocal(parent, x.deep-b.deep, b.at))
		} else {
			x.put(coreGlobal(parent, f.datum.Name))
		}
		return
	}
	asked(impl.ErrForm, len(f.parts) > 0)
	if !isKey(f) {
		asked(impl.ErrMany, len(f.parts) <= 4)
		x.all(f.parts, x.put(coreApp(parent)))
		return
	}
	x.keyword(f, parent, whole)
}

func (x *expandByHand) keyword(f term, parent int64, whole bool) {
	switch head(f) {
	case "quote":
		asked(impl.ErrForm, counted(f, 2))
		x.put(coreConst(parent, f.parts[1].data()...))
	case "if":
		asked(impl.ErrForm, counted(f, 4))
		x.all(f.parts[1:], x.put(coreIf(parent)))
	case "begin":
		asked(impl.ErrForm, !counted(f, 1))
		x.all(f.parts[1:], x.put(coreSeq(parent)))
	case "lambda":
		asked(impl.ErrForm, counted(f, 3) && f.parts[1].isList() && named(f.parts[1].parts))
		asked(impl.ErrMany, len(f.parts[1].parts) <= 3)
		x.lambda(f.parts[1].parts, f.parts[2], parent)
	case "let":
		asked(impl.ErrForm, counted(f, 3) && f.parts[1].isList() && pairsOnly(f.parts[1].parts))
		var names, values []term
		for _, pair := range f.parts[1].parts {
			names, values = append(names, pair.parts[0]), append(values, pair.parts[1])
		}
		asked(impl.ErrForm, named(names))
		asked(impl.ErrMany, len(names) <= 3)
		// The same form without a let.
		x.form(group(append([]term{group(atom("lambda"), group(names...), f.parts[2])}, values...)...), parent, false)
	case "define":
		asked(impl.ErrForm, counted(f, 3) && f.parts[1].isName(), whole)
		x.all(f.parts[2:], x.put(coreName(impl.CoreDef, parent, f.parts[1].datum.Name)))
	case "set!":
		asked(impl.ErrForm, counted(f, 3) && f.parts[1].isName() && x.bindingOf(f.parts[1].datum.Name) == nil)
		x.all(f.parts[2:], x.put(coreName(impl.CoreSet, parent, f.parts[1].datum.Name)))
	}
}

// wantExpand is of data without fault.
func wantExpand(d []impl.Datum) (result impl.CoreResult) {
	var x expandByHand
	defer func() {
		if code, ok := recover().(expandFault); ok {
			result = impl.CoreResult{Code: int64(code)}
		}
	}()
	x.form(termOf(d, 0), -1, true)
	return impl.CoreResult{Cores: x.cores}
}

// checkExpand holds what a datum means against what is wanted, and asks for promise 5 beside it.
func checkExpand(t *testing.T, d []impl.Datum, want impl.CoreResult) {
	t.Helper()
	got := impl.ExpandData(d)
	if got.Code != want.Code || !equalCores(got.Cores, want.Cores) || got.Code != impl.OK && got.Cores != nil {
		t.Fatalf("ExpandData(%s) = %+v, not %+v", wantText(d, 0), got, want)
	}
	if got.Code == impl.OK {
		checkMeaning(t, got.Cores)
	}
}

// checkMeaning: what a form means has no fault, and no keyword is a global.
func checkMeaning(t *testing.T, c []impl.Core) {
	t.Helper()
	if impl.CoreFault(c) != impl.OK || wantCoreFault(c) != impl.OK {
		t.Fatalf("%+v has the fault %d, %d", c, impl.CoreFault(c), wantCoreFault(c))
	}
	for _, name := range impl.GlobalsIn(c).Texts {
		if slices.Contains(allKeywords(), name) {
			t.Fatalf("the keyword %s is a global of %+v", name, c)
		}
	}
}

func readOf(t *testing.T, text string) []impl.Datum {
	t.Helper()
	read := impl.ReadData(text)
	if read.Code != impl.OK {
		t.Fatalf("%q is not read: %+v", text, read)
	}
	return read.Data
}

func TestIsKeyword(t *testing.T) {
	for _, name := range allKeywords() {
		if !impl.IsKeyword(name) {
			t.Errorf("%q is no keyword", name)
		}
		for _, other := range []string{name + " ", " " + name, name + "a", name[1:], name[:len(name)-1], strings.ToUpper(name), name + "\x00", name + name} {
			if impl.IsKeyword(other) {
				t.Errorf("%q is a keyword", other)
			}
		}
	}
	for _, name := range append(wrongNames(), "car", "call/cc", "set", "fn", "app", "def", "seq", "else", "cond", "+") {
		if impl.IsKeyword(name) {
			t.Errorf("%.40q is a keyword", name)
		}
	}
}

func TestExpandExamples(t *testing.T) {
	for _, c := range [][2]string{
		{"7", "'7"},
		{"-1000000000", "'-1000000000"},
		{"#t", "'#t"},
		{"#f", "'#f"},
		{"x", "x"},
		{"+", "+"},
		{"'x", "'x"},
		{"'7", "'7"},
		{"'#f", "'#f"},
		{"'()", "'()"},
		{"'if", "'if"},
		{"'quote", "'quote"},
		{"'(a (1 #t) ())", "'(a (1 #t) ())"},
		{"'(define x)", "'(define x)"},
		{"'(if)", "'(if)"},
		{"'(f 1 2 3 4 5)", "'(f 1 2 3 4 5)"},
		{"''x", "'(quote x)"},
		{"(quote (quote quote))", "'(quote quote)"},
		{"(if a 1 #f)", "(if a '1 '#f)"},
		{"(f)", "(app f)"},
		{"(f 1)", "(app f '1)"},
		{"(f 1 2 3)", "(app f '1 '2 '3)"},
		{"((f))", "(app (app f))"},
		{"(7)", "(app '7)"},
		{"(#t 'if)", "(app '#t 'if)"},
		{"('f)", "(app 'f)"},
		{"(f 'if)", "(app f 'if)"},
		{"(begin 1)", "(seq '1)"},
		{"(begin 1 2 3 4 5 6)", "(seq '1 '2 '3 '4 '5 '6)"},
		{"(begin (begin x))", "(seq (seq x))"},
		{"(set! x 1)", "(set x '1)"},
		{"(set! x (set! x x))", "(set x (set x x))"},
		{"(begin (set! x 1) x)", "(seq (set x '1) x)"},
		{"(define x 1)", "(def x '1)"},
		{"(define x x)", "(def x x)"},
		{"(define x (lambda (x) x))", "(def x (fn 1 %0.0))"},
		{"(define f (lambda (n) (if n (f n) 1)))", "(def f (fn 1 (if %0.0 (app f %0.0) '1)))"},
		{"(define x '(define x 1))", "(def x '(define x 1))"},
		{"(lambda () x)", "(fn 0 x)"},
		{"(lambda (x) x)", "(fn 1 %0.0)"},
		{"(lambda (x y z) (z y x))", "(fn 3 (app %0.2 %0.1 %0.0))"},
		{"(lambda (x) (lambda (y) (x y)))", "(fn 1 (fn 1 (app %1.0 %0.0)))"},
		{"(lambda (x) (lambda (x) x))", "(fn 1 (fn 1 %0.0))"},
		{"(lambda (x y) (lambda (y) (x y)))", "(fn 2 (fn 1 (app %1.0 %0.0)))"},
		{"(lambda (y x) (lambda (z x) (lambda () (x y z))))", "(fn 2 (fn 2 (fn 0 (app %1.1 %2.0 %1.0))))"},
		{"(lambda (x) (x (lambda (x) x) x))", "(fn 1 (app %0.0 (fn 1 %0.0) %0.0))"},
		{"((lambda (x) x) x)", "(app (fn 1 %0.0) x)"},
		{"(lambda (x) 'x)", "(fn 1 'x)"},
		{"(lambda (x) (set! y x))", "(fn 1 (set y %0.0))"},
		{"(lambda (car) (car cdr))", "(fn 1 (app %0.0 cdr))"},
		{"(let () x)", "(app (fn 0 x))"},
		{"(let ((x 1)) x)", "(app (fn 1 %0.0) '1)"},
		{"(let ((x x)) x)", "(app (fn 1 %0.0) x)"},
		{"(let ((x y) (y x)) (x y))", "(app (fn 2 (app %0.0 %0.1)) y x)"},
		{"(let ((x 1) (y 2) (z 3)) (f z y x))", "(app (fn 3 (app f %0.2 %0.1 %0.0)) '1 '2 '3)"},
		{"(let ((x (let ((y 1)) y))) x)", "(app (fn 1 %0.0) (app (fn 1 %0.0) '1))"},
		{"(let ((x 1)) (let ((y x)) (x y)))", "(app (fn 1 (app (fn 1 (app %1.0 %0.0)) %0.0)) '1)"},
		{"(let ((x 1)) (let ((x x)) x))", "(app (fn 1 (app (fn 1 %0.0) %0.0)) '1)"},
		{"(let ((x (let ((x x)) x))) x)", "(app (fn 1 %0.0) (app (fn 1 %0.0) x))"},
		{"(lambda (x) (let ((y x)) (lambda (z) (x y z))))", "(fn 1 (app (fn 1 (fn 1 (app %2.0 %1.0 %0.0))) %0.0))"},
		{"(let ((f (lambda (x) (f x)))) (f f))", "(app (fn 1 (app %0.0 %0.0)) (fn 1 (app f %0.0)))"},
		{"(let ((x 1)) (lambda (y) (+ x y)))", "(app (fn 1 (fn 1 (app + %1.0 %0.0))) '1)"},
		{"(let ((x 1)) (+ x y))", "(app (fn 1 (app + %0.0 y)) '1)"},
	} {
		d := readOf(t, c[0])
		checkExpand(t, d, wantExpand(d))
		if got := impl.CoreText(impl.ExpandData(d).Cores); got != (impl.TextResult{Text: c[1]}) {
			t.Errorf("%s means %+v, not %s", c[0], got, c[1])
		}
	}
}

// The cores themselves, with the order and the Parents that a text does not tell.
func TestExpandCores(t *testing.T) {
	for _, c := range []struct {
		text string
		want []impl.Core
	}{
		{"x", cores(coreGlobal(-1, "x"))},
		{"5", cores(coreConst(-1, datNum(-1, 5)))},
		{"'(a (b) 1)", cores(coreConst(-1, datList(-1), datSym(0, "a"), datList(0), datSym(2, "b"), datNum(0, 1)))},
		{"(if a (f '(1 2)) c)", cores(coreIf(-1), coreGlobal(0, "a"), coreApp(0), coreGlobal(2, "f"),
			coreConst(2, datList(-1), datNum(0, 1), datNum(0, 2)), coreGlobal(0, "c"))},
		{"(let ((x 1) (y (f))) (lambda (z) (x y z)))", cores(coreApp(-1), coreLambda(0, 2), coreLambda(1, 1), coreApp(2), coreLocal(3, 1, 0),
			coreLocal(3, 1, 1), coreLocal(3, 0, 0), coreConst(0, datNum(-1, 1)), coreApp(0), coreGlobal(8, "f"))},
		{"(define x (begin (set! y #f) 'z))", cores(coreName(impl.CoreDef, -1, "x"), coreSeq(0), coreName(impl.CoreSet, 1, "y"),
			coreConst(2, datBool(-1, 0)), coreConst(1, datSym(-1, "z")))},
	} {
		checkExpand(t, readOf(t, c.text), impl.CoreResult{Cores: c.want})
	}
}

func TestExpandWrong(t *testing.T) {
	for text, want := range map[string]int64{
		"()":                                  impl.ErrForm,
		"(f ())":                              impl.ErrForm,
		"(() 1)":                              impl.ErrForm,
		"(lambda (x) ())":                     impl.ErrForm,
		"(f (quote))":                         impl.ErrForm,
		"(quote)":                             impl.ErrForm,
		"(quote a b)":                         impl.ErrForm,
		"(if)":                                impl.ErrForm,
		"(if a b)":                            impl.ErrForm,
		"(if a b c d)":                        impl.ErrForm,
		"(if 1 2 3 4 5 6)":                    impl.ErrForm,
		"(begin)":                             impl.ErrForm,
		"(lambda)":                            impl.ErrForm,
		"(lambda (x))":                        impl.ErrForm,
		"(lambda (x) x x)":                    impl.ErrForm,
		"(lambda x x)":                        impl.ErrForm,
		"(lambda 1 x)":                        impl.ErrForm,
		"(lambda #t x)":                       impl.ErrForm,
		"(lambda (1) x)":                      impl.ErrForm,
		"(lambda (#f) x)":                     impl.ErrForm,
		"(lambda ((x)) x)":                    impl.ErrForm,
		"(lambda ('x) x)":                     impl.ErrForm,
		"(lambda (()) x)":                     impl.ErrForm,
		"(lambda (if) x)":                     impl.ErrForm,
		"(lambda (x quote) x)":                impl.ErrForm,
		"(lambda (x x) 1)":                    impl.ErrForm,
		"(lambda (x y x) 1)":                  impl.ErrForm,
		"(lambda 'x x)":                       impl.ErrForm,
		"(lambda (a b c d) 1)":                impl.ErrMany,
		"(lambda (a b c d e) 1)":              impl.ErrMany,
		"(lambda (a b c d))":                  impl.ErrForm,
		"(lambda (a b c a) 1)":                impl.ErrForm,
		"(lambda (a b c d e a) 1)":            impl.ErrForm,
		"(lambda (a b c d if) 1)":             impl.ErrForm,
		"(lambda (a b c d 1) 1)":              impl.ErrForm,
		"(lambda (a b c d) ())":               impl.ErrMany,
		"(lambda (a b c d) if)":               impl.ErrMany,
		"(let)":                               impl.ErrForm,
		"(let ())":                            impl.ErrForm,
		"(let () x x)":                        impl.ErrForm,
		"(let x x)":                           impl.ErrForm,
		"(let 1 x)":                           impl.ErrForm,
		"(let #f x)":                          impl.ErrForm,
		"(let (x) x)":                         impl.ErrForm,
		"(let (x 1) x)":                       impl.ErrForm,
		"(let (()) x)":                        impl.ErrForm,
		"(let ((x)) x)":                       impl.ErrForm,
		"(let ((x 1 2)) x)":                   impl.ErrForm,
		"(let ((1 x)) x)":                     impl.ErrForm,
		"(let (((x) 1)) x)":                   impl.ErrForm,
		"(let ((if 1)) x)":                    impl.ErrForm,
		"(let ((x 1) (x 2)) x)":               impl.ErrForm,
		"(let ((x 1) y) x)":                   impl.ErrForm,
		"(let 'x x)":                          impl.ErrForm,
		"(let ((a 1) (b 2) (c 3) (d 4)) a)":   impl.ErrMany,
		"(let ((a 1) (b 2) (c 3) (d)) a)":     impl.ErrForm,
		"(let ((a 1) (b 2) (c 3) (a 4)) a)":   impl.ErrForm,
		"(let ((a 1) (b 2) (c 3) (let 4)) a)": impl.ErrForm,
		"(let ((a 1) (b 2) (c 3) (d 4)))":     impl.ErrForm,
		"(let ((a 1) (b 2) (c 3) (d 4)) ())":  impl.ErrMany,
		"(let ((a 1) (b 2) (c 3) (d ())) a)":  impl.ErrMany,
		"(let ((x (f 1 2 3 4))) ())":          impl.ErrForm,
		"(let ((x ())) (f 1 2 3 4))":          impl.ErrMany,
		"(let ((x ()) (y (f 1 2 3 4))) x)":    impl.ErrForm,
		"(let ((x (f 1 2 3 4)) (y ())) x)":    impl.ErrMany,
		"(let ((x (let ((y ())) (f 1 2 3 4)))) x)": impl.ErrMany,
		"(let ((x (f 1 2 3 4))) (let ((y ())) y))": impl.ErrForm,
		"(let ((x ())) (let ((y (f 1 2 3 4))) y))": impl.ErrMany,
		"(let ((x (let ((y (f 1 2 3 4))) y))) if)": impl.ErrForm,
		"(begin (let ((x ())) x) (f 1 2 3 4))":     impl.ErrForm,
		"(begin (let ((x (f 1 2 3 4))) x) ())":     impl.ErrMany,
		"(define)":                                 impl.ErrForm,
		"(define x)":                               impl.ErrForm,
		"(define x 1 2)":                           impl.ErrForm,
		"(define 1 2)":                             impl.ErrForm,
		"(define #t 2)":                            impl.ErrForm,
		"(define (f x) x)":                         impl.ErrForm,
		"(define () 1)":                            impl.ErrForm,
		"(define 'x 1)":                            impl.ErrForm,
		"(define if 1)":                            impl.ErrForm,
		"(define define 1)":                        impl.ErrForm,
		"(define x (define y 1))":                  impl.ErrForm,
		"(begin (define x 1))":                     impl.ErrForm,
		"(begin 1 (define x 1))":                   impl.ErrForm,
		"(if (define x 1) 2 3)":                    impl.ErrForm,
		"(lambda () (define x 1))":                 impl.ErrForm,
		"(let () (define x 1))":                    impl.ErrForm,
		"(let ((x (define y 1))) x)":               impl.ErrForm,
		"(set! x (define y 1))":                    impl.ErrForm,
		"((define x 1))":                           impl.ErrForm,
		"(f (define x 1))":                         impl.ErrForm,
		"(f (define x (f 1 2 3 4)))":               impl.ErrForm,
		"(define x (f 1 2 3 4))":                   impl.ErrMany,
		"(set!)":                                   impl.ErrForm,
		"(set! x)":                                 impl.ErrForm,
		"(set! x 1 2)":                             impl.ErrForm,
		"(set! 1 2)":                               impl.ErrForm,
		"(set! (x) 2)":                             impl.ErrForm,
		"(set! set! 2)":                            impl.ErrForm,
		"(set! lambda (f 1 2 3 4))":                impl.ErrForm,
		"(set! x (f 1 2 3 4))":                     impl.ErrMany,
		"(lambda (x) (set! x 1))":                  impl.ErrForm,
		"(lambda (x) (set! x (f 1 2 3 4)))":        impl.ErrForm,
		"(lambda (x) (set! y (f 1 2 3 4)))":        impl.ErrMany,
		"(lambda (x) (lambda (y) (set! x 1)))":     impl.ErrForm,
		"(let ((x 1)) (set! x 1))":                 impl.ErrForm,
		"(let ((x (set! x 1))) x)":                 impl.OK,
		"(begin (lambda (x) x) (set! x 1))":        impl.OK,
		"(f 1 2 3 4)":                              impl.ErrMany,
		"(f 1 2 ())":                               impl.ErrForm,
		"(f 1 2 3 ())":                             impl.ErrMany,
		"(f 1 2 3 4 ())":                           impl.ErrMany,
		"(f () 2 3 4)":                             impl.ErrMany,
		"(() 1 2 3 4)":                             impl.ErrMany,
		"((if) 1 2 3 4)":                           impl.ErrMany,
		"((if) (f 1 2 3 4))":                       impl.ErrForm,
		"((f 1 2 3 4) (if))":                       impl.ErrMany,
		"(f (f 1 2 3 4) ())":                       impl.ErrMany,
		"(f () (f 1 2 3 4))":                       impl.ErrForm,
		"(f if)":                                   impl.ErrForm,
		"(f 1 2 lambda)":                           impl.ErrForm,
		"(if if if if)":                            impl.ErrForm,
		"(if (f 1 2 3 4) if 1)":                    impl.ErrMany,
		"(if if (f 1 2 3 4) 1)":                    impl.ErrForm,
		"(begin let)":                              impl.ErrForm,
	} {
		d := readOf(t, text)
		if got := impl.ExpandData(d); got.Code != want {
			t.Errorf("ExpandData(%s) tells %d, not %d", text, got.Code, want)
		}
		checkExpand(t, d, wantExpand(d))
	}
	for _, word := range allKeywords() {
		for _, text := range []string{"%", "(f %)", "(lambda (%) 1)", "(lambda (x %) 1)", "(let ((% 1)) 1)", "(define % 1)", "(set! % 1)", "(begin %)",
			"(if 1 2 %)", "(lambda () %)", "(let ((x %)) x)", "(let () %)", "(define x %)", "(set! x %)"} {
			d := readOf(t, strings.ReplaceAll(text, "%", word))
			checkExpand(t, d, impl.CoreResult{Code: impl.ErrForm})
		}
	}
}

// someParts: data that can stand as a part of a form, rightly or not.
func someParts() []string {
	return []string{"x", "y", "1", "#t", "if", "()", "(x)", "(x y)", "((x 1))", "((x y) (y x))", "((x 1) (x 2))", "'x", "(f 1 2 3 4)", "(define x 1)",
		"(set! x y)", "(lambda (x) x)", "(let ((x x)) x)", "(x y z w)", "((x 1) (y 2) (z 3) (w 4))", "((x) 1)", "(begin)"}
}

// All keywords, and a name, with all parts that matter, as they are and inside a lambda of x.
func TestExpandShort(t *testing.T) {
	parts := someParts()
	var try func(text string, left int)
	try = func(text string, left int) {
		for _, whole := range []string{text + ")", "(lambda (x) " + text + "))", "(let ((y " + text + "))) y)"} {
			d := impl.ReadData(whole).Data
			checkExpand(t, d, wantExpand(d))
		}
		if left > 0 {
			for _, part := range parts {
				try(text+" "+part, left-1)
			}
		}
	}
	for _, word := range append(allKeywords(), "f", "x") {
		try("("+word, 2)
	}
	parts = []string{"x", "1", "if", "()", "(x)", "(f 1 2 3 4)"}
	for _, word := range append(allKeywords(), "f") {
		try("("+word, 5)
	}
}

// form: a form of about so many data, with a fault every now and then.
func (s *dice) form(size, faults int) term {
	if faults > 0 && s.next(faults) == 0 {
		return s.badForm(size, faults)
	}
	names := []string{"x", "y", "z", "f", "g", "car", "+"}
	if size < 3 {
		switch s.next(4) {
		case 0:
			return term{datum: datNum(0, int64(s.next(100)))}
		case 1:
			return term{datum: datBool(0, int64(s.next(2)))}
		}
		return atom(names[s.next(len(names))])
	}
	some := func(n int) []term {
		var list []term
		for range n {
			list = append(list, s.form(size/(n+1), faults))
		}
		return list
	}
	params := slices.Clone(names[:4])
	s.mix(params)
	params = params[:s.next(4)]
	switch s.next(8) {
	case 0:
		return quoted(s.data(1+s.next(size), 3, 2))
	case 1:
		return group(append([]term{atom("if")}, some(3)...)...)
	case 2:
		return group(append([]term{atom("begin")}, some(1+s.next(4))...)...)
	case 3:
		return group(atom("set!"), atom(names[s.next(len(names))]), s.form(size-3, faults))
	case 4:
		var list []term
		for _, name := range params {
			list = append(list, atom(name))
		}
		return group(atom("lambda"), group(list...), s.form(size-3, faults))
	case 5:
		var list []term
		for i, e := range some(len(params)) {
			list = append(list, group(atom(params[i]), e))
		}
		return group(atom("let"), group(list...), s.form(size/2, faults))
	}
	return group(some(1 + s.next(4))...)
}

func (s *dice) badForm(size, faults int) term {
	parts := someParts()
	list := []term{atom(append(allKeywords(), "f", "f")[s.next(9)])}
	for range s.next(6) {
		if s.next(2) == 0 {
			list = append(list, termOf(impl.ReadData(parts[s.next(len(parts))]).Data, 0))
		} else {
			list = append(list, s.form(size/3, faults))
		}
	}
	return group(list...)
}

// someForms: data without fault, most of which mean something.
func someForms(count, faults int) [][]impl.Datum {
	s := dice(0x9E3779B97F4A7C15)
	var list [][]impl.Datum
	for len(list) < count {
		d := s.form(1+s.next(110), faults).data()
		if s.next(8) == 0 {
			d = group(atom("define"), atom("x"), termOf(d, 0)).data()
		}
		if wantDataFault(d) == impl.OK {
			list = append(list, d)
		}
	}
	return list
}

func TestExpandSome(t *testing.T) {
	told := map[int64]int{}
	for _, faults := range []int{0, 6, 12, 30} {
		for _, d := range someForms(8000, faults) {
			want := wantExpand(d)
			told[want.Code]++
			checkExpand(t, d, want)
		}
	}
	for _, d := range someData(3000) {
		checkExpand(t, d, wantExpand(d))
	}
	if told[impl.OK] < 1000 || told[impl.ErrForm] < 1000 || told[impl.ErrMany] < 1000 {
		t.Errorf("not all was tried: %v", told)
	}
}

// Data with a fault: it is told, whatever the data would mean.
func TestExpandFault(t *testing.T) {
	check := func(d []impl.Datum, want int64) {
		t.Helper()
		if got := impl.ExpandData(d); got.Code != want || got.Cores != nil {
			t.Fatalf("ExpandData(%.300s) = %+v, not %d", fmt.Sprintf("%+v", d), got, want)
		}
	}
	check(nil, impl.ErrMany)
	check(data(), impl.ErrMany)
	check(wideData(81), impl.ErrMany)
	check(deepData(13), impl.ErrMany)
	check(make([]impl.Datum, 1000), impl.ErrMany)
	check(data(datNum(-1, impl.MaxNum+1)), impl.ErrRange)
	check(data(datSym(-1, "A")), impl.ErrText)
	check(data(datSym(0, "a")), impl.ErrRange)
	check(data(datNum(-1, 1), datNum(0, 1)), impl.ErrForm)
	for _, w := range wrongData() {
		check(data(w.datum), w.code)
		behind := w.datum
		behind.Parent = 0
		check(data(datList(-1), datSym(0, "if"), behind), w.code)
		check(data(datList(-1), datSym(0, "quote"), behind), w.code)
		check(data(datList(-1), datList(0), behind), w.code)
	}
}

// checkCores: all that ask the fault tell it, and nothing beside it.
func checkCores(t *testing.T, c []impl.Core, want int64) {
	t.Helper()
	if got := impl.CoreFault(c); got != want {
		t.Fatalf("CoreFault(%.600s) = %d, not %d", fmt.Sprintf("%+v", c), got, want)
	}
	text, names := impl.CoreText(c), impl.GlobalsIn(c)
	if want != impl.OK {
		if text != (impl.TextResult{Code: want}) || names.Code != want || names.Texts != nil {
			t.Fatalf("of the fault %d: %+v, %+v", want, text, names)
		}
		return
	}
	written := impl.TextResult{Text: wantCoreText(c, 0)}
	if len(written.Text) > 1500 {
		written = impl.TextResult{Code: impl.ErrMany}
	}
	var globals []string
	for _, x := range c {
		if x.Name != "" {
			globals = append(globals, x.Name)
		}
	}
	if text != written || names.Code != impl.OK || !slices.Equal(names.Texts, firstOnes(globals)) {
		t.Fatalf("of %+v: %+v, not %+v; %+v of %v", c, text, written, names, globals)
	}
}

func firstOnes(list []string) []string {
	var firsts []string
	for i, text := range list {
		if slices.Index(list, text) == i {
			firsts = append(firsts, text)
		}
	}
	return firsts
}

// chainOf: cores each of which is the kid of the one ahead.
func chainOf(count int, kind int64) []impl.Core {
	var c []impl.Core
	for i := range count - 1 {
		c = append(c, corePlain(kind, int64(i)-1))
	}
	return append(c, coreGlobal(int64(count)-2, "x"))
}

// rowOf: a CoreSeq with globals.
func rowOf(count int) []impl.Core {
	c := cores(coreSeq(-1))
	for len(c) < count {
		c = append(c, coreGlobal(0, "x"))
	}
	return c
}

func TestCoreFaultExamples(t *testing.T) {
	one := data(datNum(-1, 1))
	for i, c := range []struct {
		c    []impl.Core
		want int64
	}{
		{nil, impl.ErrMany},
		{cores(), impl.ErrMany},
		{cores(coreGlobal(-1, "x")), impl.OK},
		{rowOf(160), impl.OK},
		{rowOf(161), impl.ErrMany},
		{chainOf(160, impl.CoreSeq), impl.OK},
		{chainOf(160, impl.CoreApp), impl.OK},
		{chainOf(160, impl.CoreLambda), impl.OK},
		{chainOf(161, impl.CoreLambda), impl.ErrMany},
		{make([]impl.Core, 160), impl.ErrForm},
		{make([]impl.Core, 161), impl.ErrMany},
		{make([]impl.Core, 100000), impl.ErrMany},
		// Lambdas and locals.
		{cores(coreLambda(-1, 0), coreGlobal(0, "x")), impl.OK},
		{cores(coreLambda(-1, 3), coreLocal(0, 0, 2)), impl.OK},
		{cores(coreLambda(-1, 4), coreGlobal(0, "x")), impl.ErrRange},
		{cores(coreLambda(-1, -1), coreGlobal(0, "x")), impl.ErrRange},
		{cores(coreLambda(-1, math.MinInt64), coreGlobal(0, "x")), impl.ErrRange},
		{cores(coreLambda(-1, math.MaxInt64), coreGlobal(0, "x")), impl.ErrRange},
		{cores(coreLambda(-1, 3), coreLocal(0, 0, 3)), impl.ErrRange},
		{cores(coreLambda(-1, 3), coreLocal(0, 0, -1)), impl.ErrRange},
		{cores(coreLambda(-1, 3), coreLocal(0, 1, 0)), impl.ErrRange},
		{cores(coreLambda(-1, 3), coreLocal(0, -1, 0)), impl.ErrRange},
		{cores(coreLambda(-1, 0), coreLocal(0, 0, 0)), impl.ErrRange},
		{cores(coreLocal(-1, 0, 0)), impl.ErrRange},
		{cores(coreLambda(-1, 2), coreLambda(0, 1), coreLocal(1, 1, 1)), impl.OK},
		{cores(coreLambda(-1, 2), coreLambda(0, 1), coreLocal(1, 0, 1)), impl.ErrRange},
		{cores(coreLambda(-1, 1), coreLambda(0, 2), coreLocal(1, 0, 1)), impl.OK},
		{cores(coreLambda(-1, 1), coreLambda(0, 2), coreLocal(1, 1, 1)), impl.ErrRange},
		{cores(coreLambda(-1, 1), coreApp(0), coreLambda(1, 2), coreLocal(2, 1, 0), coreLocal(1, 0, 0)), impl.OK},
		{cores(coreLambda(-1, 1), coreApp(0), coreLambda(1, 2), coreLocal(2, 1, 0), coreLocal(1, 0, 1)), impl.ErrRange},
		{cores(coreLambda(-1, 1), coreApp(0), coreLambda(1, 2), coreLocal(2, 1, 0), coreLocal(1, 1, 0)), impl.ErrRange},
		{cores(coreApp(-1), coreLambda(0, 1), coreLocal(1, 0, 0), coreLocal(0, 0, 0)), impl.ErrRange},
		{cores(coreLambda(-1, 1), coreLocal(0, math.MaxInt64, 0)), impl.ErrRange},
		{cores(coreLambda(-1, 1), coreLocal(0, math.MinInt64, 0)), impl.ErrRange},
		{cores(coreLambda(-1, 1), coreLocal(0, 0, math.MinInt64)), impl.ErrRange},
		{cores(coreLambda(-1, 1), coreLocal(0, 0, math.MaxInt64)), impl.ErrRange},
		{cores(coreLambda(-1, 1), coreLocal(0, 1<<32, 0)), impl.ErrRange},
		{cores(coreLambda(-1, 1), coreLocal(0, 0, 1<<32)), impl.ErrRange},
		// Kids.
		{cores(coreSeq(-1)), impl.ErrForm},
		{cores(coreApp(-1)), impl.ErrForm},
		{cores(coreIf(-1)), impl.ErrForm},
		{cores(coreLambda(-1, 1)), impl.ErrForm},
		{cores(coreName(impl.CoreSet, -1, "x")), impl.ErrForm},
		{cores(coreName(impl.CoreDef, -1, "x")), impl.ErrForm},
		{cores(coreName(impl.CoreSet, -1, "x"), coreGlobal(0, "y")), impl.OK},
		{cores(coreName(impl.CoreDef, -1, "x"), coreGlobal(0, "y")), impl.OK},
		{cores(coreName(impl.CoreSet, -1, "x"), coreGlobal(0, "y"), coreGlobal(0, "y")), impl.ErrForm},
		{cores(coreName(impl.CoreDef, -1, "x"), coreGlobal(0, "y"), coreGlobal(0, "y")), impl.ErrForm},
		{cores(coreLambda(-1, 1), coreGlobal(0, "y"), coreGlobal(0, "y")), impl.ErrForm},
		{cores(coreIf(-1), coreGlobal(0, "x"), coreGlobal(0, "x")), impl.ErrForm},
		{cores(coreIf(-1), coreGlobal(0, "x"), coreGlobal(0, "x"), coreGlobal(0, "x")), impl.OK},
		{cores(coreIf(-1), coreGlobal(0, "x"), coreGlobal(0, "x"), coreGlobal(0, "x"), coreGlobal(0, "x")), impl.ErrForm},
		{cores(coreApp(-1), coreGlobal(0, "x")), impl.OK},
		{cores(coreApp(-1), coreGlobal(0, "x"), coreGlobal(0, "x"), coreGlobal(0, "x"), coreGlobal(0, "x")), impl.OK},
		{cores(coreApp(-1), coreGlobal(0, "x"), coreGlobal(0, "x"), coreGlobal(0, "x"), coreGlobal(0, "x"), coreGlobal(0, "x")), impl.ErrForm},
		{cores(coreGlobal(-1, "x"), coreGlobal(0, "x")), impl.ErrForm},
		{cores(coreConst(-1, one...), coreGlobal(0, "x")), impl.ErrForm},
		{cores(coreLambda(-1, 1), coreLocal(0, 0, 0), coreGlobal(1, "x")), impl.ErrForm},
		// The kids are asked behind all else.
		{cores(coreSeq(-1), coreApp(0), coreGlobal(0, "A")), impl.ErrText},
		{cores(coreGlobal(-1, "x"), coreLocal(0, 0, 0)), impl.ErrRange},
		{cores(coreIf(-1), coreConst(0)), impl.ErrMany},
		{cores(coreIf(-1), coreGlobal(0, "x"), coreGlobal(7, "x")), impl.ErrRange},
		// Parents.
		{cores(coreGlobal(0, "x")), impl.ErrRange},
		{cores(coreGlobal(-2, "x")), impl.ErrRange},
		{cores(coreGlobal(math.MinInt64, "x")), impl.ErrRange},
		{cores(coreGlobal(math.MaxInt64, "x")), impl.ErrRange},
		{cores(coreSeq(-1), coreGlobal(1, "x")), impl.ErrRange},
		{cores(coreSeq(-1), coreGlobal(-1, "x")), impl.ErrRange},
		{cores(coreSeq(-1), coreGlobal(2, "x")), impl.ErrRange},
		{cores(coreSeq(-1), coreGlobal(1<<32, "x")), impl.ErrRange},
		{cores(coreSeq(-1), coreSeq(0), coreGlobal(1, "x"), coreGlobal(0, "x"), coreGlobal(1, "x")), impl.ErrForm},
		{cores(coreSeq(-1), coreSeq(0), coreGlobal(1, "x"), coreSeq(0), coreGlobal(3, "x"), coreGlobal(0, "x")), impl.OK},
		{cores(coreSeq(-1), coreSeq(0), coreSeq(0), coreGlobal(1, "x")), impl.ErrForm},
		// A definition inside.
		{cores(coreSeq(-1), coreName(impl.CoreDef, 0, "x"), coreGlobal(1, "y")), impl.ErrForm},
		{cores(coreName(impl.CoreDef, -1, "x"), coreName(impl.CoreDef, 0, "x"), coreGlobal(1, "y")), impl.ErrForm},
		{cores(coreSeq(-1), coreName(impl.CoreDef, 0, "A")), impl.ErrText},
		{cores(coreSeq(-1), coreName(impl.CoreDef, 0, "if")), impl.ErrText},
		{cores(coreSeq(-1), coreName(impl.CoreDef, 5, "if")), impl.ErrRange},
		{cores(coreSeq(-1), coreName(impl.CoreDef, 0, "x"), coreGlobal(9, "y")), impl.ErrForm},
		// Data.
		{cores(coreConst(-1)), impl.ErrMany},
		{cores(coreConst(-1, data()...)), impl.ErrMany},
		{cores(coreConst(-1, wideData(80)...)), impl.OK},
		{cores(coreConst(-1, wideData(81)...)), impl.ErrMany},
		{cores(coreConst(-1, deepData(13)...)), impl.ErrMany},
		{cores(coreConst(-1, datNum(-1, impl.MaxNum+1))), impl.ErrRange},
		{cores(coreConst(-1, datSym(-1, "A"))), impl.ErrText},
		{cores(coreConst(-1, datSym(-1, "if"))), impl.OK},
		{cores(coreConst(-1, datNum(0, 1))), impl.ErrRange},
		{cores(coreConst(-1, datNum(-1, 1), datNum(0, 1))), impl.ErrForm},
		{cores(coreConst(0, datSym(-1, "A"))), impl.ErrRange},
		{cores(coreSeq(-1), coreSeq(0), coreGlobal(0, "x"), coreConst(1)), impl.ErrForm},
	} {
		if want := wantCoreFault(c.c); want != c.want {
			t.Fatalf("example %d: %d, not %d", i, want, c.want)
		}
		checkCores(t, c.c, c.want)
	}
}

// Each kind with each thing that it has not, as the first one and behind; asked ahead of all else of that core.
func TestCoreFaultForm(t *testing.T) {
	for _, kind := range []int64{0, -1, 10, 11, 100, 1<<32 + 1, 1<<32 + 9, -9, math.MaxInt64, math.MinInt64} {
		checkCores(t, cores(corePlain(kind, -1)), impl.ErrForm)
		checkCores(t, cores(corePlain(kind, 7)), impl.ErrForm)
		checkCores(t, cores(coreSeq(-1), corePlain(kind, 0)), impl.ErrForm)
		checkCores(t, cores(coreSeq(-1), coreGlobal(0, "x"), corePlain(kind, 9)), impl.ErrForm)
	}
	for kind := int64(1); kind <= 9; kind++ {
		for has := range 16 {
			for _, n := range []int64{1, -1, math.MinInt64, 1 << 32} {
				x := impl.Core{Kind: kind}
				if has&1 > 0 {
					x.A = n
				}
				if has&2 > 0 {
					x.B = n
				}
				if has&4 > 0 {
					x.Name = []string{"x", "A", "if"}[has%3]
				}
				if has&8 > 0 {
					x.Data = data(datNum(-1, n))
				}
				for _, parent := range []int64{-1, 0, 1, 2, 5, -7} {
					x.Parent = parent
					alone := cores(x)
					checkCores(t, alone, wantCoreFault(alone))
					behind := cores(coreLambda(-1, 2), coreSeq(0), coreGlobal(1, "x"), x)
					checkCores(t, behind, wantCoreFault(behind))
				}
			}
		}
	}
}

func TestCoreFaultNames(t *testing.T) {
	for _, kind := range []int64{impl.CoreGlobal, impl.CoreSet, impl.CoreDef} {
		for _, name := range append(wrongNames(), allKeywords()...) {
			checkCores(t, cores(coreName(kind, -1, name)), impl.ErrText)
			checkCores(t, cores(coreSeq(-1), coreName(kind, 0, name)), impl.ErrText)
			checkCores(t, cores(coreName(kind, 0, name)), impl.ErrRange)
		}
		for _, name := range []string{"x", "abcdefghijkl", "car", "+", "iff", "set"} {
			c := cores(coreName(kind, -1, name))
			if kind != impl.CoreGlobal {
				c = append(c, coreConst(0, datNum(-1, 1)))
			}
			checkCores(t, c, impl.OK)
		}
	}
}

func TestCoreFaultData(t *testing.T) {
	for _, w := range wrongData() {
		checkCores(t, cores(coreConst(-1, w.datum)), w.code)
		checkCores(t, cores(coreSeq(-1), coreConst(0, datNum(-1, 1)), coreConst(0, w.datum), coreGlobal(0, "A")), w.code)
		checkCores(t, cores(coreGlobal(-1, "A"), coreConst(0, w.datum)), impl.ErrText)
		checkCores(t, cores(coreApp(-1), coreConst(0, w.datum), coreGlobal(9, "x")), w.code)
	}
}

// All short lists of some kinds with all Parents that matter.
func TestCoreFaultShort(t *testing.T) {
	var try func(c []impl.Core, left int)
	try = func(c []impl.Core, left int) {
		checkCores(t, c, wantCoreFault(c))
		if left == 0 {
			return
		}
		for parent := int64(-1); parent <= 4; parent++ {
			for _, x := range cores(coreLambda(parent, 1), coreLocal(parent, 0, 0), coreLocal(parent, 1, 0), coreName(impl.CoreSet, parent, "x"), coreName(impl.CoreDef, parent, "x"), coreSeq(parent)) {
				try(append(slices.Clone(c), x), left-1)
			}
		}
	}
	try(nil, 3)
	for _, first := range cores(coreIf(-1), coreApp(-1), coreLambda(-1, 2)) {
		try(cores(first, coreLambda(0, 1)), 2)
	}
}

// cores grows cores without fault but for their number of kids, which is then mended.
func (s *dice) cores(most int, deep int) []impl.Core {
	var c []impl.Core
	var grow func(parent int64, params []int64, deep int)
	names := []string{"x", "y", "car", "+", "abcdefghijkl"}
	grow = func(parent int64, params []int64, deep int) {
		place := int64(len(c))
		kids := func(n int) {
			for range n {
				grow(place, params, deep-1)
			}
		}
		lambda := func(parent int64) {
			a := int64(s.next(4))
			c = append(c, coreLambda(parent, a))
			grow(int64(len(c))-1, append([]int64{a}, params...), deep-1)
		}
		pick := s.next(11)
		if deep <= 1 || len(c) > most {
			pick = s.next(4)
		}
		switch pick {
		case 0:
			c = append(c, coreConst(parent, s.leaf(-1)))
		case 1:
			c = append(c, coreConst(parent, s.data(1+s.next(4), 3, 3)...))
		case 2:
			out := int64(s.next(len(params) + 1))
			if out < int64(len(params)) && params[out] > 0 {
				c = append(c, coreLocal(parent, out, int64(s.next(int(params[out])))))
				return
			}
			fallthrough
		case 3:
			c = append(c, coreGlobal(parent, names[s.next(len(names))]))
		case 4:
			c = append(c, coreIf(parent))
			kids(3)
		case 5, 6:
			lambda(parent)
		case 7:
			c = append(c, coreName(impl.CoreSet, parent, names[s.next(len(names))]))
			kids(1)
		case 8:
			c = append(c, coreSeq(parent))
			kids(1 + s.next(5))
		case 9: // what a let means
			c = append(c, coreApp(parent))
			lambda(place)
			kids(int(c[place+1].A))
		default:
			c = append(c, coreApp(parent))
			kids(1 + s.next(4))
		}
	}
	if s.next(8) == 0 {
		c = append(c, coreName(impl.CoreDef, -1, "x"))
		grow(0, nil, deep-1)
		return c
	}
	grow(-1, nil, deep)
	return c
}

// someCores: cores without fault.
func someCores(count int, most int, deep int) [][]impl.Core {
	s := dice(0xD1B54A32D192ED03)
	var list [][]impl.Core
	for len(list) < count {
		c := s.cores(s.next(most), 1+s.next(deep))
		if len(c) <= impl.MaxCores {
			list = append(list, c)
		}
	}
	return list
}

func TestCoreFaultSome(t *testing.T) {
	s := dice(4711)
	odd := []int64{-2, -1, 0, 1, 2, 3, 4, 5, 9, 10, math.MaxInt64, math.MinInt64}
	for _, c := range someCores(3000, 120, 9) {
		checkCores(t, c, impl.OK)
		for range 8 {
			turned := cloneCores(c)
			for range 1 + s.next(3) {
				i := s.next(len(turned))
				switch n := odd[s.next(len(odd))]; s.next(8) {
				case 0:
					turned[i].Kind = n
				case 1:
					turned[i].Parent = int64(s.next(len(turned)+3)) - 2
				case 2:
					turned[i].A = n
				case 3:
					turned[i].B = n
				case 4:
					turned[i].Name = []string{"", "A", "if", "x", "let"}[s.next(5)]
				case 5:
					turned[i].Data = append(turned[i].Data, s.leaf(int64(s.next(3))-1))
				case 6:
					turned = slices.Delete(turned, i, i+1)
				default:
					turned = slices.Insert(turned, i, s.cores(1, 1)...)
				}
				if len(turned) == 0 {
					break
				}
			}
			checkCores(t, turned, wantCoreFault(turned))
		}
	}
}

// rowText: a CoreSeq of names, whose text has just so many bytes.
func rowText(bytes int) []impl.Core {
	c := cores(coreSeq(-1))
	left := bytes - len("(seq)")
	for left > 0 {
		size := min(left, 13)
		if left == 14 { // a blank and no name is left behind 13 of these
			size = 7
		}
		c = append(c, coreGlobal(0, "abcdefghijkl"[:size-1]))
		left -= size
	}
	return c
}

func TestCoreTextBytes(t *testing.T) {
	for bytes := 1480; bytes <= 1520; bytes++ {
		c := rowText(bytes)
		if n := len(wantCoreText(c, 0)); n != bytes || wantCoreFault(c) != impl.OK {
			t.Fatalf("a text of %d bytes, not %d", n, bytes)
		}
		got := impl.CoreText(c)
		if want := (impl.TextResult{Text: wantCoreText(c, 0)}); bytes <= 1500 && got != want || bytes > 1500 && got != (impl.TextResult{Code: impl.ErrMany}) {
			t.Errorf("CoreText of %d bytes = %+v", bytes, got)
		}
		if names := impl.GlobalsIn(c); names.Code != impl.OK || len(names.Texts) < 1 {
			t.Errorf("GlobalsIn asks how long the text is: %+v", names)
		}
	}
	checkCores(t, chainOf(160, impl.CoreSeq), impl.OK)
	long := append(data(datList(-1)), slices.Repeat(data(datSym(0, "abcdefghijkl")), 79)...)
	checkCores(t, cores(coreConst(-1, long[:40]...)), impl.OK) // 508 bytes: more than are written of data alone
	checkCores(t, cores(coreConst(-1, long...)), impl.OK)
	checkCores(t, cores(coreSeq(-1), coreConst(0, long...), coreConst(0, long...)), impl.OK)
	if n := len(impl.CoreText(cores(coreConst(-1, long...))).Text); n != 1+1+79*13 {
		t.Errorf("a const of %d bytes", n)
	}
}

func TestGlobalsIn(t *testing.T) {
	for _, c := range []struct {
		text string
		want string
	}{
		{"1", ""},
		{"'x", ""},
		{"x", "x"},
		{"(lambda (x) x)", ""},
		{"(x x (x))", "x"},
		{"(f x (g x))", "f x g"},
		{"(define x (y x))", "x y"},
		{"(define y (set! x (y z x)))", "y x z"},
		{"(set! x (set! y (set! x x)))", "x y"},
		{"(begin x (set! x y) y)", "x y"},
		{"(let ((x y)) (x z))", "z y"},
		{"(let ((x x)) x)", "x"},
		{"((lambda (x) (lambda (y) (x y z))) y)", "z y"},
		{"(if c b a)", "c b a"},
	} {
		got := impl.GlobalsIn(impl.ExpandData(readOf(t, c.text)).Cores)
		if got.Code != impl.OK || strings.Join(got.Texts, " ") != c.want {
			t.Errorf("the globals in %s: %+v, not %s", c.text, got, c.want)
		}
	}
}

func TestSameCores(t *testing.T) {
	if !impl.SameCores(nil, nil) || !impl.SameCores(nil, cores()) || !impl.SameCores(cores(), nil) {
		t.Error("empty lists are not the same")
	}
	empty := cores(impl.Core{Data: data()})
	if !impl.SameCores(empty, make([]impl.Core, 1)) || !impl.SameCores(make([]impl.Core, 1), empty) {
		t.Error("empty Data are not the same")
	}
	odd := cores(impl.Core{Kind: -5, Parent: 77, A: math.MinInt64, B: -1, Name: "\xff", Data: data(datNum(9, impl.MaxNum+1))})
	for _, c := range append(someCores(200, 40, 6), empty, odd, make([]impl.Core, 300), rowOf(161)) {
		if !impl.SameCores(c, cloneCores(c)) {
			t.Fatalf("%+v is not the same as itself", c)
		}
		if impl.SameCores(c, nil) || impl.SameCores(nil, c) || impl.SameCores(c, c[1:]) || impl.SameCores(c[:len(c)-1], c) {
			t.Fatalf("%+v is the same as less of it", c)
		}
		for i := range c {
			for _, turn := range []func(*impl.Core){
				func(x *impl.Core) { x.Kind++ }, func(x *impl.Core) { x.Parent++ }, func(x *impl.Core) { x.A++ }, func(x *impl.Core) { x.B++ },
				func(x *impl.Core) { x.Name += "a" }, func(x *impl.Core) { x.Data = append(x.Data, datNum(0, 1)) },
				func(x *impl.Core) {
					if x.Data = slices.Clone(x.Data); len(x.Data) > 0 {
						x.Data[len(x.Data)-1].Parent++
					} else {
						x.Data = make([]impl.Datum, 1)
					}
				},
			} {
				turned := cloneCores(c)
				turn(&turned[i])
				if impl.SameCores(c, turned) || impl.SameCores(turned, c) {
					t.Fatalf("%+v is the same as %+v", c, turned)
				}
			}
		}
	}
}

// Promise 1: the same again behind other calls, in new memory that can be written into, and no argument is changed.
func TestPromise1Expand(t *testing.T) {
	list := append(someForms(400, 0), someForms(400, 8)...)
	for _, w := range wrongData() {
		list = append(list, data(w.datum), data(datList(-1), w.datum))
	}
	for _, d := range append(list, nil, wideData(81), deepData(13), data(datSym(-1, "abc"))) {
		kept := slices.Clone(d)
		first, again := impl.ExpandData(d), impl.ExpandData(d)
		if !slices.Equal(d, kept) || first.Code != again.Code || !equalCores(first.Cores, again.Cores) {
			t.Fatalf("ExpandData(%+v) = %+v, then %+v", kept, first, again)
		}
		for i := range first.Cores {
			for _, x := range d {
				if !apart(first.Cores[i].Name, x.Name) || slices.ContainsFunc(first.Cores[i].Data, func(y impl.Datum) bool { return !apart(x.Name, y.Name) }) {
					t.Fatalf("the name %q is handed on", x.Name)
				}
			}
			// A list with room behind it would be written into another one.
			first.Cores[i].Data = append(first.Cores[i].Data, datNum(-9, -9))
			for j := range first.Cores[i].Data {
				first.Cores[i].Data[j] = impl.Datum{Kind: -1, Parent: -9, Num: -1, Name: "changed"}
			}
			for j := i + 1; j < len(first.Cores); j++ {
				if !slices.Equal(first.Cores[j].Data, again.Cores[j].Data) {
					t.Fatalf("the Data of cores %d and %d share memory", i, j)
				}
			}
		}
		if third := impl.ExpandData(d); !slices.Equal(d, kept) || third.Code != again.Code || !equalCores(third.Cores, again.Cores) {
			t.Fatalf("ExpandData(%+v) = %+v behind a change of its answer, not %+v", d, third, again)
		}
	}
}

func TestPromise1Cores(t *testing.T) {
	list := someCores(300, 60, 7)
	for _, c := range someCores(300, 20, 4) {
		c[len(c)-1].Parent++
		list = append(list, c)
	}
	for _, c := range append(list, nil, rowOf(161), make([]impl.Core, 200), cores(coreGlobal(-1, "abc")), cores(coreConst(-1, datSym(-1, "abc")))) {
		kept := cloneCores(c)
		fault, text, names := impl.CoreFault(c), impl.CoreText(c), impl.GlobalsIn(c)
		impl.SameCores(c, kept)
		for _, x := range c {
			if !apart(x.Name, text.Text) || slices.ContainsFunc(names.Texts, func(name string) bool { return !apart(x.Name, name) }) {
				t.Fatalf("the name %q is handed on", x.Name)
			}
			if slices.ContainsFunc(x.Data, func(d impl.Datum) bool { return !apart(d.Name, text.Text) }) {
				t.Fatalf("a name of %+v is handed on", x.Data)
			}
		}
		told := slices.Clone(names.Texts)
		for i := range names.Texts {
			names.Texts[i] = "changed"
		}
		again := impl.GlobalsIn(c)
		if impl.CoreFault(c) != fault || impl.CoreText(c) != text || again.Code != names.Code || !slices.Equal(again.Texts, told) || !equalCores(c, kept) {
			t.Fatalf("%+v is not as it was, %+v", c, kept)
		}
	}
}

// naming: how the parameters of a form are called.
type naming struct {
	dice  *dice
	short bool // as few names as can be, the same one again and again
	lets  bool // an application of a lambda to as many is written as a let
}

// freeIn: the names that a core and all below it speak of, where around is how the parameters around it are called.
func freeIn(c []impl.Core, at int, around [][]string, inside int) []string {
	var names []string
	x := c[at]
	if x.Kind == impl.CoreLocal && x.A >= int64(inside) {
		names = append(names, around[x.A-int64(inside)][x.B])
	}
	if x.Name != "" {
		names = append(names, x.Name)
	}
	if x.Kind == impl.CoreLambda {
		inside++
	}
	for i := range c {
		if c[i].Parent == int64(at) {
			names = append(names, freeIn(c, i, around, inside)...)
		}
	}
	return names
}

// params calls the parameters of a lambda so that none of them hides what is spoken of below it.
func (n naming) params(c []impl.Core, at int, around [][]string) []string {
	taken := freeIn(c, at, around, 0)
	pool := []string{"x", "y", "car", "+", "a", "b", "c", "d", "e", "f", "g", "h", "i", "j", "k", "l", "m", "n", "o", "p", "q", "r", "s", "t", "u", "v", "w", "z"}
	if !n.short {
		n.dice.mix(pool)
	}
	var names []string
	for _, name := range pool {
		if int64(len(names)) < c[at].A && !slices.Contains(taken, name) {
			names = append(names, name)
		}
	}
	return names
}

func (s *dice) mix(list []string) {
	for i := range list {
		j := i + s.next(len(list)-i)
		list[i], list[j] = list[j], list[i]
	}
}

// unexpand: a form that means these cores.
func (n naming) unexpand(c []impl.Core, at int, around [][]string) term {
	var kids []int
	for i := range c {
		if c[i].Parent == int64(at) {
			kids = append(kids, i)
		}
	}
	list := func(words ...term) term {
		for _, kid := range kids {
			words = append(words, n.unexpand(c, kid, around))
		}
		return group(words...)
	}
	switch x := c[at]; x.Kind {
	case impl.CoreConst:
		return quoted(x.Data)
	case impl.CoreLocal:
		return atom(around[x.A][x.B])
	case impl.CoreGlobal:
		return atom(x.Name)
	case impl.CoreIf:
		return list(atom("if"))
	case impl.CoreSeq:
		return list(atom("begin"))
	case impl.CoreSet:
		return list(atom("set!"), atom(x.Name))
	case impl.CoreDef:
		return list(atom("define"), atom(x.Name))
	case impl.CoreLambda:
		names := n.params(c, at, around)
		var places []term
		for _, name := range names {
			places = append(places, atom(name))
		}
		return group(atom("lambda"), group(places...), n.unexpand(c, kids[0], append([][]string{names}, around...)))
	}
	whole := list()
	if first := c[kids[0]]; n.lets && first.Kind == impl.CoreLambda && int(first.A) == len(kids)-1 {
		lambda := whole.parts[0]
		var pairs []term
		for i, name := range lambda.parts[1].parts {
			pairs = append(pairs, group(name, whole.parts[1+i]))
		}
		return group(atom("let"), group(pairs...), lambda.parts[2])
	}
	return whole
}

// Promise 5: what a form means does not hang on the names of its parameters, nor on whether a let is written as what it means.
func TestPromise5Names(t *testing.T) {
	s := dice(99)
	tried, lets := 0, 0
	for _, c := range someCores(12000, 60, 9) {
		var texts []string
		for _, n := range []naming{{&s, true, false}, {&s, true, true}, {&s, false, false}, {&s, false, true}, {&s, false, true}} {
			d := n.unexpand(c, 0, nil).data()
			if wantDataFault(d) != impl.OK {
				continue
			}
			got := impl.ExpandData(d)
			if got.Code != impl.OK || !impl.SameCores(got.Cores, c) {
				t.Fatalf("%s means %+v, not %+v", wantText(d, 0), got, c)
			}
			checkMeaning(t, got.Cores)
			text := wantText(d, 0)
			if strings.Contains(text, "(let ") {
				lets++
			}
			texts = append(texts, text)
		}
		if len(firstOnes(texts)) > 2 {
			tried++
		}
	}
	if tried < 500 || lets < 500 {
		t.Errorf("only %d forms by several names and %d lets were tried", tried, lets)
	}
}

// Promise 5: by hand, with names that are bound twice, and lets inside out.
func TestPromise5Pairs(t *testing.T) {
	for _, c := range [][2]string{
		{"(lambda (x) x)", "(lambda (y) y)"},
		{"(lambda (x) (lambda (x) x))", "(lambda (x) (lambda (y) y))"},
		{"(lambda (x y) (lambda (y) (x y)))", "(lambda (a b) (lambda (c) (a c)))"},
		{"(let ((x x)) x)", "(let ((y x)) y)"},
		{"(let ((x y) (y x)) (x y))", "(let ((a y) (b x)) (a b))"},
		{"(let ((x 1)) (let ((x x)) x))", "(let ((x 1)) (let ((y x)) y))"},
		{"(let ((x (let ((x x)) x))) x)", "(let ((a (let ((b x)) b))) a)"},
		{"(let ((x (let ((x x)) x))) x)", "((lambda (x) x) ((lambda (x) x) x))"},
		{"(let () (let ((x 1)) x))", "((lambda () ((lambda (x) x) 1)))"},
		{"(let ((f (lambda (f) (f f)))) (f f))", "(let ((g (lambda (h) (h h)))) (g g))"},
		{"(define x (lambda (x) (x x)))", "(define x (lambda (y) (y y)))"},
		{"(lambda (car) (set! cdr car))", "(lambda (x) (set! cdr x))"},
		{"(lambda (x) '(x x))", "(lambda (y) '(x x))"},
	} {
		a, b := impl.ExpandData(readOf(t, c[0])), impl.ExpandData(readOf(t, c[1]))
		if a.Code != impl.OK || b.Code != impl.OK || !impl.SameCores(a.Cores, b.Cores) {
			t.Errorf("%s means %+v, %s %+v", c[0], a, c[1], b)
		}
	}
	for _, c := range [][2]string{
		{"(lambda (x y) x)", "(lambda (x y) y)"},
		{"(lambda (x) (lambda (y) x))", "(lambda (x) (lambda (y) y))"},
		{"(lambda (x) y)", "(lambda (y) y)"},
		{"(let ((x y)) y)", "(let ((x y)) x)"},
		{"(lambda (x) 'x)", "(lambda (y) 'y)"},
	} {
		a, b := impl.ExpandData(readOf(t, c[0])), impl.ExpandData(readOf(t, c[1]))
		if a.Code != impl.OK || b.Code != impl.OK || impl.SameCores(a.Cores, b.Cores) {
			t.Errorf("%s and %s mean the same: %+v", c[0], c[1], a)
		}
	}
}

// There are never more cores than data: the bound of cores is out of a form's reach.
func TestPromise5Largest(t *testing.T) {
	for _, text := range []string{"(begin " + times(78, "x ") + ")", "(" + times(10, "(") + "f" + times(10, ")") + ")",
		times(10, "(let () ") + "x" + times(10, ")"), "(begin " + times(26, "(f) ") + ")"} {
		d := readOf(t, text)
		got := impl.ExpandData(d)
		checkExpand(t, d, wantExpand(d))
		if got.Code != impl.OK || len(got.Cores) > len(d) {
			t.Errorf("%s means %d cores: %+v", text, len(got.Cores), got)
		}
	}
}
