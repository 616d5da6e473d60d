package tests

import (
	"fmt"
	"slices"
	"strconv"
	"strings"
	"testing"

	"loop.example/g00349/impl"
)

// numCommands: what is turned by a number, and its bounds.
type numCommand struct {
	word string
	kind int64
	from int64
	to   int64
}

func numCommands() []numCommand {
	return []numCommand{{":seg", 2, 1, 64}, {":table", 3, 0, 15}, {":peep", 4, 0, 1}, {":cache", 5, 0, 1}, {":fuel", 6, 0, 400}}
}

func isForm(line string) impl.CommandResult { return impl.CommandResult{Kind: 1, Form: line} }

// wantCommand goes through a line byte by byte.
func wantCommand(line string) impl.CommandResult {
	if line == "" || line[0] != ':' {
		return isForm(line)
	}
	at := 0
	for at < len(line) && line[at] != 32 {
		at++
	}
	word := line[:at]
	for at < len(line) && line[at] == 32 {
		at++
	}
	behind := line[at:]
	switch word {
	case ":core":
		return impl.CommandResult{Kind: 7, Form: behind}
	case ":code":
		return impl.CommandResult{Kind: 8, Form: behind}
	}
	for _, c := range numCommands() {
		if c.word != word || !number.MatchString(behind) {
			continue
		}
		n, _ := strconv.ParseInt(behind, 10, 64)
		switch {
		case max(n, -n) > 1000000000:
			return impl.CommandResult{Code: impl.ErrText}
		case n < c.from || n > c.to:
			return impl.CommandResult{Code: impl.ErrRange}
		}
		return impl.CommandResult{Kind: c.kind, Num: n}
	}
	return impl.CommandResult{Code: impl.ErrText}
}

func checkCommand(t *testing.T, line string, want impl.CommandResult) {
	t.Helper()
	if got, byHand := impl.CommandOf(line), wantCommand(line); got != want || byHand != want {
		t.Fatalf("CommandOf(%.90q) = %+v, by hand %+v, not %+v", line, got, byHand, want)
	}
}

func checkNoCommand(t *testing.T, code int64, lines ...string) {
	t.Helper()
	for _, line := range lines {
		checkCommand(t, line, impl.CommandResult{Code: code})
	}
}

func TestCommandKinds(t *testing.T) {
	if impl.CmdForm != 1 || impl.CmdSegment != 2 || impl.CmdTable != 3 || impl.CmdPeep != 4 || impl.CmdCache != 5 || impl.CmdFuel != 6 || impl.CmdCore != 7 || impl.CmdCode != 8 {
		t.Error("the kinds have other numbers")
	}
	for line, want := range map[string]impl.CommandResult{
		":seg 8": {Kind: 2, Num: 8}, ":table 10": {Kind: 3, Num: 10}, ":peep 1": {Kind: 4, Num: 1}, ":peep 0": {Kind: 4}, ":cache 1": {Kind: 5, Num: 1}, ":cache 0": {Kind: 5}, ":fuel 123": {Kind: 6, Num: 123},
		":core (f x)": {Kind: 7, Form: "(f x)"}, ":code (f x)": {Kind: 8, Form: "(f x)"}, ":core": {Kind: 7}, ":code": {Kind: 8}, ":core ": {Kind: 7}, ":code    ": {Kind: 8},
		":core   x ": {Kind: 7, Form: "x "}, ":code  1  2  ": {Kind: 8, Form: "1  2  "}, ":core :seg 3": {Kind: 7, Form: ":seg 3"}, ":code :code": {Kind: 8, Form: ":code"},
		":core \n\t": {Kind: 7, Form: "\n\t"}, ":code \x00\xff": {Kind: 8, Form: "\x00\xff"}, ":core )": {Kind: 7, Form: ")"}, ":code ; x": {Kind: 8, Form: "; x"},
		":seg   8": {Kind: 2, Num: 8}, ":fuel" + times(5000, " ") + "7": {Kind: 6, Num: 7}, ":core " + times(5000, "("): {Kind: 7, Form: times(5000, "(")},
	} {
		checkCommand(t, line, want)
	}
}

// What does not begin with the sign of commands is a form, whatever it is.
func TestCommandForms(t *testing.T) {
	lines := []string{"", " ", "    ", "\n", "\t", "x", "(f x)", "1", "seg 8", "core x", " :seg 8", "  :core x", "\t:seg 8", "\n:seg 8", "(:seg 8)", "';", ";:seg 8", "'x:", "x :seg 8", "\xff", "\x00:", "(", ")", times(401, " "), times(100000, "(")}
	for _, w := range wrongLines() {
		lines = append(lines, w.line)
	}
	for _, line := range append(append(lines, kindLines()...), someTexts(200, 40, rightPieces())...) {
		checkCommand(t, line, isForm(line))
	}
}

// The first word is a command's name, to the byte.
func TestCommandNames(t *testing.T) {
	checkNoCommand(t, impl.ErrText, ":", "::", ": ", ":    ", ": seg 8", ": 8", ":8", ":8 8", ":x", ":x 8", ":form x", ":form", ":(f x)", ":\n", ":\t", ":;", ":' x", ":\xff", ":seg:8", ":seg=8", ":#t")
	names := []string{":core", ":code"}
	for _, c := range numCommands() {
		names = append(names, c.word)
	}
	for _, name := range names {
		for at := 1; at < len(name); at++ {
			for _, near := range []string{name[:at] + name[at+1:], name[:at] + "x" + name[at:], name[:at] + " " + name[at:], name[:at] + strings.ToUpper(name[at:]), name[:at] + name[at:at+1] + name[at:], name[:at] + "\n" + name[at:]} {
				checkNoCommand(t, impl.ErrText, near, near+" ", near+" 1", near+" x")
			}
		}
		for _, end := range []string{"s", ":", "\t", "\n", "(", "1", "0", "-", ";", "'", "\x00", "\xa0"} {
			checkNoCommand(t, impl.ErrText, name+end, name+end+"1", name+end+" 1", ":"+name+" 1")
		}
		checkNoCommand(t, impl.ErrText, name[:len(name)-1], name[:len(name)-1]+" 1", strings.ToUpper(name)+" 1", ":"+name)
	}
}

// Numbers at the bounds, around them and far out.
func TestCommandNumbers(t *testing.T) {
	for _, c := range numCommands() {
		list := append(fromTo(-20, 500), 1000, 4096, 65536, 999999999, 1000000000, -999999999, -1000000000)
		for _, n := range append(list, 1<<8+c.from, 1<<16+c.from, -1<<8+c.to) {
			want := impl.CommandResult{Code: impl.ErrRange}
			if n >= c.from && n <= c.to {
				want = impl.CommandResult{Kind: c.kind, Num: n}
			}
			for _, blanks := range []string{" ", "  ", "         "} {
				checkCommand(t, fmt.Sprint(c.word, blanks, n), want)
			}
		}
		for _, n := range append(farOut(c.from)[1:], 1000000001, -1000000001, 1<<32, 1<<32+c.to) {
			checkNoCommand(t, impl.ErrText, fmt.Sprint(c.word, " ", n))
		}
	}
	checkNoCommand(t, impl.ErrRange, ":seg 0", ":seg 65", ":seg -1", ":table 16", ":table -1", ":peep 2", ":peep -1", ":cache 2", ":cache -1", ":fuel 401", ":fuel -1", ":fuel 1000000000", ":seg -1000000000")
	for _, line := range []string{":seg 1", ":seg 64", ":table 0", ":table 15", ":peep 0", ":peep 1", ":cache 0", ":cache 1", ":fuel 0", ":fuel 400"} {
		if got := impl.CommandOf(line); got.Code != impl.OK || got.Kind == 0 || !strings.HasSuffix(line, fmt.Sprint(" ", got.Num)) {
			t.Errorf("CommandOf(%q) = %+v", line, got)
		}
	}
}

// What is behind is no number, also where as a number it would be one.
func TestCommandNoNumbers(t *testing.T) {
	for _, c := range numCommands() {
		for _, behind := range []string{"", "x", "#t", "(1)", "'1", "1 ", "1  ", "1 1", "0 1", "1 x", "x 1", "+1", "-0", "+0", "-", "+", "--1", "01", "00", "-01", "0x1", "1.0", "1e0", "1_0", ".", "1;", "1\n", "1\t", "\t1", "\n1", "1\r", "1\x00", "\xff", "\xd9\xa1", "1,", "4 8", "99999999999999999999", "-99999999999999999999", "10000000000000000000000001", times(5000, "1"), times(3000, "0") + "1", "one", ":seg 1"} {
			for _, blanks := range []string{" ", "   "} {
				checkNoCommand(t, impl.ErrText, c.word+blanks+behind)
			}
		}
		checkNoCommand(t, impl.ErrText, c.word, c.word+" ", c.word+"     ", c.word+"1", c.word+"(1)")
	}
}

func commandPieces() []string {
	return []string{":", ":seg", ":table", ":peep", ":cache", ":fuel", ":core", ":code", " ", " ", " ", "  ", "1", "0", "15", "64", "400", "-", "x", "(f x)", "\n"}
}

// someCommands: right ones, and such as are nearly so.
func someCommands(s *dice, count int) []string {
	var list []string
	words := []string{":seg", ":table", ":peep", ":cache", ":fuel", ":seg", ":table", ":core", ":code", ":", "seg", ":x"}
	for range count {
		line := words[s.next(len(words))] + times(1+s.next(2)*s.next(3), " ") + []string{fmt.Sprint(s.next(3)), fmt.Sprint(s.next(18)), fmt.Sprint(s.next(70)), fmt.Sprint(s.next(450)), "x"}[s.next(5)]
		if s.next(8) == 0 {
			line += []string{" ", "0", " 1", "x", "\n"}[s.next(5)]
		}
		list = append(list, line)
	}
	return list
}

// Promise 16: a command is what it tells, and what is no command is a form.
func TestPromise16Commands(t *testing.T) {
	s := dice(16161)
	list := append(someTexts(5000, 5, commandPieces()), someTexts(1000, 10, append(commandPieces(), wrongPieces()...))...)
	codes, kinds := map[int64]int{}, map[int64]int{}
	for _, line := range append(list, someCommands(&s, 8000)...) {
		want := wantCommand(line)
		checkCommand(t, line, want)
		codes[want.Code]++
		kinds[want.Kind]++
		if starts := strings.HasPrefix(line, ":"); starts == (want.Kind == impl.CmdForm) {
			t.Fatalf("%q is of kind %d", line, want.Kind)
		}
	}
	for _, code := range []int64{impl.OK, impl.ErrText, impl.ErrRange} {
		if codes[code] < 1000 {
			t.Errorf("code %d: %d times", code, codes[code])
		}
	}
	for kind := range int64(9) {
		if kinds[kind] < 80 {
			t.Errorf("kind %d: %d times", kind, kinds[kind])
		}
	}
}

// wantLoopLines goes through a text byte by byte.
func wantLoopLines(text string) impl.TextsResult {
	if len(text) > 2000 {
		return impl.TextsResult{Code: impl.ErrMany}
	}
	var list []string
	line, told := "", false
	end := func() {
		if told {
			list = append(list, line)
		}
		line, told = "", false
	}
	for at := range len(text) {
		if text[at] == 10 {
			end()
			continue
		}
		line, told = line+text[at:at+1], told || text[at] != 32
	}
	end()
	if len(list) > 12 || slices.ContainsFunc(list, func(line string) bool { return len(line) > 400 }) {
		return impl.TextsResult{Code: impl.ErrMany}
	}
	return impl.TextsResult{Texts: list}
}

func checkLoopLines(t *testing.T, text string, code int64, lines ...string) {
	t.Helper()
	got, byHand := impl.LoopLines(text), wantLoopLines(text)
	if got.Code != code || !slices.Equal(got.Texts, lines) || byHand.Code != code || !slices.Equal(byHand.Texts, lines) {
		t.Fatalf("LoopLines(%.200q) = %+v, by hand %+v, not %d, %q", text, got, byHand, code, lines)
	}
	if code != impl.OK {
		for _, tree := range []bool{false, true} {
			if ran := impl.RunLoop(text, tree); ran != (impl.TextResult{Code: code}) {
				t.Fatalf("RunLoop(%.200q, %t) = %+v", text, tree, ran)
			}
		}
	}
}

func TestLoopLines(t *testing.T) {
	for _, text := range []string{"", " ", "     ", "\n", "\n\n\n", " \n", "\n ", "  \n \n    \n", times(2000, " "), times(2000, "\n"), times(1000, " \n"), times(500, " ") + "\n" + times(499, " ")} {
		checkLoopLines(t, text, impl.OK)
	}
	for text, lines := range map[string][]string{
		"x": {"x"}, "x\n": {"x"}, "x\n\n": {"x"}, "\nx": {"x"}, "\n\n x \n\n": {" x "}, "x\ny": {"x", "y"}, "x\ny\n": {"x", "y"}, "x\n \ny": {"x", "y"}, "x \n y\n  ": {"x ", " y"}, "x\nx\nx": {"x", "x", "x"},
		"  (f\n   x)  \n": {"  (f", "   x)  "}, ":seg 1\n:x\n;\n": {":seg 1", ":x", ";"}, "\t": {"\t"}, " \t \n\r\n": {" \t ", "\r"}, "x\r\ny": {"x\r", "y"}, "\x00\n\x0b\n\xa0": {"\x00", "\x0b", "\xa0"}, "\xff\xfe\n\xc2\xa0": {"\xff\xfe", "\xc2\xa0"},
	} {
		checkLoopLines(t, text, impl.OK, lines...)
	}
}

func TestLoopLinesBounds(t *testing.T) {
	// Bytes of the text, also of such as are in no line.
	for _, text := range []string{times(2001, " "), times(2001, "\n"), "x" + times(2000, "\n"), times(2000, " ") + "x", times(2001, "x"), times(1<<20, " \n"), times(401, " x\n  ")} {
		checkLoopLines(t, text, impl.ErrMany)
	}
	checkLoopLines(t, "x"+times(1999, "\n"), impl.OK, "x")
	checkLoopLines(t, times(1999, "\n")+"x", impl.OK, "x")
	checkLoopLines(t, times(1600, " ")+"\n"+times(398, " ")+"x", impl.OK, times(398, " ")+"x")
	five := slices.Repeat([]string{times(399, "x")}, 5)
	checkLoopLines(t, strings.Join(five, "\n")+"\n", impl.OK, five...)
	checkLoopLines(t, strings.Join(five, "\n")+"\n\n", impl.ErrMany)
	// Lines, with and without such as are blank between.
	twelve := strings.Fields("a b c d e f g h i j k l")
	for _, between := range []string{"\n", "\n\n", "\n  \n", "\n \n\n   \n"} {
		joined := strings.Join(twelve, between)
		for _, ends := range []string{"", "\n", "\n  ", between, "\n" + between} {
			checkLoopLines(t, joined+ends, impl.OK, twelve...)
			checkLoopLines(t, ends+"\n"+joined, impl.OK, twelve...)
			checkLoopLines(t, "x\n"+joined+ends, impl.ErrMany)
			checkLoopLines(t, joined+"\nx"+ends, impl.ErrMany)
		}
	}
	checkLoopLines(t, times(12, ":\n"), impl.OK, slices.Repeat([]string{":"}, 12)...)
	checkLoopLines(t, times(13, ":\n"), impl.ErrMany)
	checkLoopLines(t, times(1000, "x\n"), impl.ErrMany)
	// Bytes of a line; one of blanks alone is none.
	for _, rest := range []string{"x", " ", ":", "("} {
		long := "x" + times(399, rest)
		for _, text := range []string{long, long + "\n", "\n" + long, "  \n" + long + "\n  "} {
			checkLoopLines(t, text, impl.OK, long)
		}
		checkLoopLines(t, "y\n"+long+"\nz", impl.OK, "y", long, "z")
		for _, text := range []string{long + rest, long + " ", " " + long, "y\n" + long + rest + "\n", long + "\n" + long + rest, times(2, long)} {
			checkLoopLines(t, text, impl.ErrMany)
		}
	}
	checkLoopLines(t, times(401, " ")+"\nx\n"+times(800, " ")+"\n", impl.OK, "x")
	checkLoopLines(t, times(400, " ")+"x\n", impl.ErrMany)
	checkLoopLines(t, times(13, "y\n")+times(401, "x"), impl.ErrMany)
}

func TestLoopLinesSome(t *testing.T) {
	s := dice(15151)
	list := append(someTexts(2000, 30, []string{"\n", "\n", " ", "  ", "x", ":seg 1", "\t"}), someTexts(500, 60, wrongPieces())...)
	for range 600 {
		text := ""
		for range s.next(24) {
			text += times(s.next(2)*s.next(430), []string{" ", "x", "(f)", "\n"}[s.next(4)]) + []string{"\n", " ", "\n \n", "x\n"}[s.next(4)]
		}
		list = append(list, text)
	}
	codes := map[int64]int{}
	for _, text := range list {
		want := wantLoopLines(text)
		checkLoopLines(t, text, want.Code, want.Texts...)
		codes[want.Code]++
	}
	if codes[impl.OK] < 1000 || codes[impl.ErrMany] < 300 {
		t.Errorf("the codes: %v", codes)
	}
}

func wantCoreFor(line string) impl.TextResult {
	read := impl.ReadData(line)
	if read.Code != impl.OK {
		return impl.TextResult{Code: read.Code}
	}
	means := wantExpand(read.Data)
	if means.Code != impl.OK {
		return impl.TextResult{Code: means.Code}
	}
	return impl.TextResult{Text: wantCoreText(means.Cores, 0)}
}

func wantCodeFor(line string, c impl.Config) impl.TextResult {
	made := wantMake(line, c)
	if made.Code != impl.OK {
		return impl.TextResult{Code: made.Code}
	}
	return impl.TextResult{Text: wantCodeText(made.Blocks)}
}

func checkTextsFor(t *testing.T, line string, c impl.Config) {
	t.Helper()
	if got, want := impl.CoreFor(line), wantCoreFor(line); got != want {
		t.Fatalf("CoreFor(%.90q) = %+v, not %+v", line, got, want)
	}
	if got, want := impl.CodeFor(line, c), wantCodeFor(line, c); got != want {
		t.Fatalf("CodeFor(%.90q) by %+v = %+v, not %+v", line, c, got, want)
	}
}

func TestCoreFor(t *testing.T) {
	for line, want := range map[string]string{
		"(let ((x 1)) (+ x y))": "(app (fn 1 (app + %0.0 y)) '1)", "5": "'5", "x": "x", "'(a 1)": "'(a 1)", "(lambda (x) (lambda (y) (x y)))": "(fn 1 (fn 1 (app %1.0 %0.0)))", "(if 1 2 3)": "(if '1 '2 '3)",
		"(begin 1 x)": "(seq '1 x)", "(define x 1)": "(def x '1)", " (set! x #f) ; y": "(set x '#f)", "(f)\n": "(app f)",
	} {
		if got := impl.CoreFor(line); got != (impl.TextResult{Text: want}) {
			t.Errorf("CoreFor(%q) = %+v, not %q", line, got, want)
		}
	}
	for _, line := range append(kindLines(), someTexts(500, 30, rightPieces())...) {
		checkTextsFor(t, line, impl.Config{Segment: 1})
	}
}

func TestCodeFor(t *testing.T) {
	for _, w := range []struct {
		line string
		c    impl.Config
		want string
	}{
		{"1", impl.Config{Segment: 1}, "block 0 0\n0: const 1\n1: return\n"},
		{"1", impl.Config{Segment: 64, Table: 1, Cache: true}, "block 0 0\n0: constret 1\n"},
		{"(lambda (x) (f x 'y))", impl.Config{Segment: 8, Table: 14, Peep: true}, "block 0 0\n0: closure 1\n1: return\nblock 1 1\n0: global f\n1: local 0 0\n2: const y\n3: tail 2\n"},
		{"(f (if a (if b 1 2) 3))", impl.Config{Segment: 8}, "block 0 0\n0: global f\n1: global a\n2: ifnot 9\n3: global b\n4: ifnot 7\n5: const 1\n6: jump 8\n7: const 2\n8: jump 10\n9: const 3\n10: tail 1\n"},
		{"(f (if a (if b 1 2) 3))", impl.Config{Segment: 8, Peep: true}, "block 0 0\n0: global f\n1: global a\n2: ifnot 9\n3: global b\n4: ifnot 7\n5: const 1\n6: jump 10\n7: const 2\n8: jump 10\n9: const 3\n10: tail 1\n"},
	} {
		if got := impl.CodeFor(w.line, w.c); got != (impl.TextResult{Text: w.want}) {
			t.Errorf("CodeFor(%q) by %+v = %+v, not %q", w.line, w.c, got, w.want)
		}
	}
	for turn, line := range kindLines() {
		for _, c := range configsOf([]int64{1, 64}, fromTo(0, 15)) {
			checkTextsFor(t, line, c)
		}
		checkTextsFor(t, line, oneWay(turn))
	}
	for turn, d := range someForms(300, 20) {
		checkTextsFor(t, wantText(d, 0), oneWay(turn))
	}
}

// Several faults at once: the setting is asked first, then what is read, then what it means.
func TestTextsForFaults(t *testing.T) {
	right, wrong := configsOf([]int64{1, 64}, []int64{0, 15}), configsOf([]int64{0, 65}, []int64{-1, 0, 16})
	wrong = append(wrong, impl.Config{Segment: 1, Table: 16}, impl.Config{Segment: 64, Table: -1}, impl.Config{Segment: 8, Table: 1 << 32}, impl.Config{Segment: 1<<32 + 8})
	for _, w := range wrongLines() {
		if got := impl.CoreFor(w.line); got != (impl.TextResult{Code: w.code}) {
			t.Errorf("CoreFor(%.90q) = %+v, not %d", w.line, got, w.code)
		}
		for _, c := range right {
			if got := impl.CodeFor(w.line, c); got != (impl.TextResult{Code: w.code}) {
				t.Errorf("CodeFor(%.90q) by %+v = %+v, not %d", w.line, c, got, w.code)
			}
		}
		for _, c := range wrong {
			if got := impl.CodeFor(w.line, c); got != (impl.TextResult{Code: impl.ErrRange}) {
				t.Errorf("CodeFor(%.90q) by %+v = %+v", w.line, c, got)
			}
		}
	}
	for _, c := range configsOf(edgeSizes(), edgeTables()) {
		want := impl.TextResult{Code: wantConfigFault(c)}
		if want.Code == impl.OK {
			want = wantCodeFor("(lambda (x) (if x x 1))", c)
		}
		if got := impl.CodeFor("(lambda (x) (if x x 1))", c); got != want {
			t.Errorf("CodeFor by %+v = %+v, not %+v", c, got, want)
		}
	}
	for line, code := range map[string]int64{"(if A": impl.ErrText, "(if) )": impl.ErrForm, "(f 1 2 3 4": impl.ErrForm, "(f 1 2 3 4)": impl.ErrMany, "(f 1 2 3 4) A": impl.ErrText, ":seg 1": impl.ErrText, ":core x": impl.ErrText} {
		if got := impl.CoreFor(line); got != (impl.TextResult{Code: code}) {
			t.Errorf("CoreFor(%q) = %+v, not %d", line, got, code)
		}
	}
}

// A loop by hand runs its forms on the stack by hand, which no setting turns.
type loopByHand struct {
	run  *stackRun
	c    impl.Config
	fuel int64
}

func toldOf(r impl.TextResult) string {
	if r.Code != impl.OK {
		return fmt.Sprintf("! %d", r.Code)
	}
	return r.Text
}

func (x *loopByHand) answer(line string) string {
	asked := wantCommand(line)
	switch asked.Kind {
	case 0:
		return fmt.Sprintf("! %d", asked.Code)
	case impl.CmdForm:
		return x.run.line(asked.Form, x.fuel)
	case impl.CmdCore:
		return toldOf(wantCoreFor(asked.Form))
	case impl.CmdCode:
		return toldOf(wantCodeFor(asked.Form, x.c))
	case impl.CmdSegment:
		x.c.Segment = asked.Num
	case impl.CmdTable:
		x.c.Table = asked.Num
	case impl.CmdPeep:
		x.c.Peep = asked.Num > 0
	case impl.CmdCache:
		x.c.Cache = asked.Num > 0
	case impl.CmdFuel:
		x.fuel = asked.Num
	}
	return "ok"
}

func wantLoop(text string) impl.TextResult {
	lines := wantLoopLines(text)
	x := &loopByHand{run: newStackRun(), c: impl.Config{Segment: 8}, fuel: 100}
	told := ""
	for _, line := range lines.Texts {
		told += x.answer(line)
		if told[len(told)-1] != 10 {
			told += "\n"
		}
	}
	return impl.TextResult{Code: lines.Code, Text: told}
}

func checkLoop(t *testing.T, text string) impl.TextResult {
	t.Helper()
	want := wantLoop(text)
	for _, tree := range []bool{false, true} {
		if got := impl.RunLoop(text, tree); got != want {
			t.Fatalf("RunLoop(%q, %t) = %+v\nnot %+v", text, tree, got, want)
		}
	}
	return want
}

// checkToldLoop is given lines, and what each one comes to, in turn.
func checkToldLoop(t *testing.T, list ...string) {
	t.Helper()
	text, want := "", ""
	for at := 0; at < len(list); at += 2 {
		text, want = text+list[at]+"\n", want+list[at+1]+"\n"
	}
	if got := checkLoop(t, text); got != (impl.TextResult{Text: want}) {
		t.Fatalf("%q comes to %+v, not %q", text, got, want)
	}
	if got := checkLoop(t, text[:len(text)-1]); got.Text != want {
		t.Fatalf("without its last line feed %q comes to %+v", text, got)
	}
	if blank := "\n  \n" + strings.ReplaceAll(text, "\n", "\n \n\n"); len(blank) <= 2000 {
		if got := checkLoop(t, blank); got.Text != want {
			t.Fatalf("%q comes to %+v", blank, got)
		}
	}
}

func TestRunLoopExamples(t *testing.T) {
	checkToldLoop(t, "(define a 2)", "#none", ":seg 1", "ok", ":table 15", "ok", "(* a 4)", "8", ":seg 0", "! 3", ":fuel 0", "ok", "(+ 1 2)", "! 9", ":core (+ a 1)", "(app + a '1)", ":code 1", "block 0 0\n0: constret 1")
	checkToldLoop(t, "1", "1", "'(a b)", "(a b)", "x", "! 4", "(car 1)", "! 6", "(", "! 1", "A", "! 5", "car", "#prim", "; x", "! 1", "\t", "! 5", " 7 ", "7", "(f 1 2 3 4)", "! 2", "((lambda (x) x))", "! 8")
	checkToldLoop(t, ":", "! 5", ": ", "! 5", ":x", "! 5", ":seg", "! 5", ":seg ", "! 5", ":seg 65", "! 3", ":table 16", "! 3", ":peep 2", "! 3", ":cache -1", "! 3", ":fuel 401", "! 3", ":fuel 4 ", "! 5", " :fuel 4", "! 5")
	checkToldLoop(t, ":seg 64", "ok", ":seg 1", "ok", ":table 0", "ok", ":peep 1", "ok", ":peep 0", "ok", ":cache 1", "ok", ":cache 0", "ok", ":fuel 400", "ok", ":fuel  1", "ok", "(list)", "()", "(list (list))", "! 9")
	checkToldLoop(t, ":core", "! 1", ":code", "! 1", ":core   ", "! 1", ":core A", "! 5", ":code (if)", "! 1", ":code (f 1 2 3 4)", "! 2", ":core "+times(13, "("), "! 2", ":core (", "! 1", ":core :seg 1", "! 5", ":code :x", "! 5", ":core ; x", "! 1", ":coder 1", "! 5")
	checkToldLoop(t, ":core (begin 1 (if x 2 3))", "(seq '1 (if x '2 '3))", ":code (begin 1 x)", "block 0 0\n0: const 1\n1: pop\n2: global x\n3: return", ":code  (f)  ", "block 0 0\n0: global f\n1: tail 0", "2", "2")
	for _, text := range []string{"", " ", "\n", "\n\n \n", times(2000, " "), times(2000, "\n")} {
		if got := checkLoop(t, text); got != (impl.TextResult{}) {
			t.Errorf("RunLoop(%.20q) = %+v", text, got)
		}
	}
}

// `:code` by the tables and the peeping of its line: the first ones, those that were turned last, and not such as were refused.
func TestRunLoopCode(t *testing.T) {
	form := "(lambda (x) (f (if x (if x x 1) 2)))"
	code := func(table int64, peep bool) string {
		return strings.TrimSuffix(wantCodeFor(form, impl.Config{Segment: 1, Table: table, Peep: peep}).Text, "\n")
	}
	if code(0, false) == code(0, true) || code(0, false) == code(8, false) {
		t.Fatal("the code of all settings is the same")
	}
	first := "block 0 0\n0: closure 1\n1: return\nblock 1 1\n0: global f\n1: local 0 0\n2: ifnot 9\n3: local 0 0\n4: ifnot 7\n5: local 0 0\n6: jump 8\n7: const 1\n8: jump 10\n9: const 2\n10: tail 1"
	checkToldLoop(t, ":code "+form, first, ":peep 1", "ok", ":code "+form, code(0, true), ":table 8", "ok", ":code "+form, code(8, true), ":peep 0", "ok", ":code "+form, code(8, false), ":table 0", "ok", ":code "+form, first)
	checkToldLoop(t, ":table 8", "ok", ":table 16", "! 3", ":peep 1", "ok", ":peep 2", "! 3", ":peep 0 ", "! 5", ":code "+form, code(8, true), ":seg 1", "ok", ":cache 1", "ok", ":fuel 0", "ok", ":code "+form, code(8, true))
	for table := range int64(16) {
		for _, line := range []string{"1", "(lambda (x y) (if (if x 1 2) (y x) (if y x 3)))", "(f (if a (if b 1 2) (if c 3 4)))"} {
			plain, peeped := impl.Config{Segment: 8, Table: table}, impl.Config{Segment: 8, Table: table, Peep: true}
			text := fmt.Sprintf(":table %d\n:code %s\n:peep 1\n:code %s\n:core %s\n:peep 0\n:code %s\n", table, line, line, line, line)
			want := "ok\n" + wantCodeFor(line, plain).Text + "ok\n" + wantCodeFor(line, peeped).Text + wantCoreFor(line).Text + "\nok\n" + wantCodeFor(line, plain).Text
			if got := checkLoop(t, text); got.Text != want {
				t.Errorf("%q comes to %+v, not %q", text, got, want)
			}
		}
	}
}

// All forms are run in one machine: what one has left is there for the next ones, whatever is set between.
func TestRunLoopLeft(t *testing.T) {
	checkToldLoop(t, "(define f (lambda (n) (if (< n 1) 0 (+ n (f (- n 1))))))", "#none", "(f 3)", "6", ":seg 1", "ok", "(f 4)", "10", ":table 15", "ok", "(f 5)", "15", ":peep 1", "ok", "(f 6)", "21", ":cache 1", "ok", "(f 7)", "28", ":seg 64", "ok", "(f 8)", "36")
	checkToldLoop(t, ":cache 1", "ok", "(define f (lambda () x))", "#none", "(f)", "! 4", "(define x 1)", "#none", "(f)", "1", ":cache 0", "ok", "(set! x 2)", "#none", "(f)", "2", ":cache 1", "ok", "(f)", "2", "(define x 3)", "#none", "(f)", "3")
	checkToldLoop(t, ":cache 1", "ok", "(define f (lambda (x) (car x)))", "#none", "(f '(1 2))", "1", ":cache 0", "ok", "(define car cdr)", "#none", "(f '(1 2))", "(2)", ":cache 1", "ok", "(f '(3 4))", "(4)", "(set! car list)", "#none", "(f 7)", "(7)")
	checkToldLoop(t, "(define k 0)", "#none", ":seg 1", "ok", "(+ 1 (+ 2 (call/cc (lambda (c) (begin (set! k c) 3)))))", "6", ":seg 64", "ok", "(k 4)", "7", ":table 15", "ok", ":peep 1", "ok", "(* 2 (k 5))", "8", ":seg 2", "ok", ":cache 1", "ok", "(+ (k 1) 2)", "4", "(k k)", "! 6")
	checkToldLoop(t, ":seg 2", "ok", "(define k 0)", "#none", "(define x (list 1 (call/cc (lambda (c) (begin (set! k c) 2)))))", "#none", "x", "(1 2)", ":seg 1", "ok", "(k 3)", "#none", "x", "(1 3)", ":core (k 3)", "(app k '3)", "x", "(1 3)", ":code (k 4)", "block 0 0\n0: global k\n1: const 4\n2: tail 1", "x", "(1 3)")
	// What is told by `:core` and `:code` is not run, and a line with an error leaves what it did.
	checkToldLoop(t, ":core (define x 1)", "(def x '1)", "x", "! 4", ":code (define x 1)", "block 0 0\n0: const 1\n1: def x\n2: return", "x", "! 4", "(define x 1)", "#none", "(begin (set! x 2) (car x))", "! 6", ":seg 3", "ok", "x", "2")
	// Pairs, up to all that there may be.
	fill := fillLines(80)
	if len(fill) > 9 {
		t.Fatal("there are too many lines")
	}
	text := ":fuel 400\n" + strings.Join(fill, "\n") + "\n:seg 1\n(cons 1 2)\n'(1)\n"
	if got := checkLoop(t, text); !strings.HasSuffix(got.Text, "ok\n! 2\n! 2\n") {
		t.Errorf("%q comes to %q", text, got.Text)
	}
}

// Fuel is 100 at first, anew for each form, and that which was set last.
func TestRunLoopFuel(t *testing.T) {
	sum := "(define f (lambda (n) (if (< n 1) 0 (+ n (f (- n 1))))))"
	checkToldLoop(t, sum, "#none", "(f 24)", "300", "(f 25)", "! 9", "(f 24)", "300", ":fuel 10", "ok", "(f 2)", "3", "(f 3)", "! 9", ":fuel 400", "ok", "(f 99)", "4950", "(f 100)", "! 9", ":fuel 401", "! 3", "(f 99)", "4950")
	checkToldLoop(t, sum, "#none", "(list (list (f 24)))", "((300))", "(list (list (list (f 24))))", "! 9", ":fuel 101", "ok", "(list (list (list (f 24))))", "(((300)))")
	checkToldLoop(t, ":fuel 0", "ok", "(list)", "! 9", "'x", "x", "(lambda (x) (x))", "#proc", sum, "#none", "(f 0)", "! 9", ":core (f 0)", "(app f '0)", ":fuel 1", "ok", "(list)", "()", "(f 0)", "! 9", ":fuel 2", "ok", "(f 0)", "0")
	for _, line := range []string{"(+ 1 (+ 2 3))", "((lambda (x) (x x)) list)", "(call/cc (lambda (k) (* 5 (k 2))))", "(list (list) (list 1))"} {
		calls := impl.RunTree([]string{line}, 400).Calls[0]
		text := impl.RunOne(line, 400).Text
		checkToldLoop(t, fmt.Sprint(":fuel ", calls), "ok", line, text, fmt.Sprint(":fuel ", calls-1), "ok", line, "! 9", ":seg 1", "ok", line, "! 9", fmt.Sprint(":fuel ", calls), "ok", line, text)
	}
}

// The edges of a text, by both machines.
func TestRunLoopBounds(t *testing.T) {
	wide := "1" + times(399, " ")
	if got := checkLoop(t, "\n"+wide+"\n"+wide); got.Text != "1\n1\n" {
		t.Errorf("%+v", got)
	}
	form := ":core " + times(393, " ") + "x"
	if got := checkLoop(t, form+"\n:code "+times(393, " ")+"1"); got.Text != "x\nblock 0 0\n0: const 1\n1: return\n" {
		t.Errorf("%+v", got)
	}
	if got := checkLoop(t, times(12, "1\n")+times(900, " ")+"\n"); got.Text != times(12, "1\n") {
		t.Errorf("%+v", got)
	}
	for _, text := range []string{form + " ", wide + " ", times(13, "1\n"), times(13, ":\n"), times(2001, " "), "1\n" + times(1999, " "), times(401, "(") + "\n:x\n", times(1<<20, ":seg 1\n")} {
		if got := checkLoop(t, text); got != (impl.TextResult{Code: impl.ErrMany}) {
			t.Errorf("RunLoop(%.30q) = %+v", text, got)
		}
	}
	// The longest texts that code has, again and again.
	long := ":code (begin" + times(75, " x") + ")\n"
	if got := checkLoop(t, times(11, long)+":x"); got.Text != times(11, wantCodeFor(long[6:], impl.Config{Segment: 1}).Text)+"! 5\n" {
		t.Errorf("%.200q", got.Text)
	}
}

// Forms of every kind, by turned settings, as they are, as cores and as code.
func TestPromise16Kinds(t *testing.T) {
	for turn, line := range kindLines() {
		if strings.Contains(line, "\n") {
			line = strings.ReplaceAll(line, "\n", "")
		}
		c := oneWay(turn)
		set := fmt.Sprintf(":seg %d\n:table %d\n:peep %d\n:cache %d\n", c.Segment, c.Table, turn%2, turn/2%2)
		checkLoop(t, "(define a 1)\n(define f (lambda (x) (list x)))\n"+line+"\n"+set+line+"\n:core "+line+"\n:code "+line+"\n")
		checkLoop(t, ":cache 1\n"+line+"\n"+set+"(define x cons)\n(define f list)\n:fuel 7\n"+line+"\n:code "+line)
	}
}

// turnedLoop is a text of forms with commands between them.
func turnedLoop(s *speaker, forms []string) string {
	var lines []string
	for _, form := range forms {
		for s.next(2) == 0 {
			command := someCommands(&s.dice, 1)[0]
			if strings.HasPrefix(command, ":co") {
				command = command[:5] + " " + form
			}
			lines = append(lines, command)
		}
		lines = append(lines, form)
	}
	text := strings.Join(lines[:min(len(lines), 12)], []string{"\n", "\n\n", "\n  \n"}[s.next(3)])
	if s.next(2) == 0 {
		text += "\n"
	}
	return text
}

// Promise 16: a text comes to the same by both machines, whatever is set between its lines.
func TestPromise16Some(t *testing.T) {
	s := speaker{dice: 61616}
	seen := map[string]int{}
	for range 3000 {
		forms := startLines()
		forms = forms[s.next(5):]
		for len(forms) < 9 {
			forms = append(forms, s.line())
		}
		got := checkLoop(t, turnedLoop(&s, forms))
		for _, text := range strings.Split(got.Text, "\n") {
			seen[cut(text, 3)]++
		}
	}
	for _, text := range []string{"! 1", "! 3", "! 4", "! 5", "! 6", "! 7", "! 8", "! 9", "ok", "0", "3", "4", "-1", "#no", "#pr", "#co", "()", "blo", "(ap"} {
		if seen[text] < 4 {
			t.Errorf("%q was seen %d times", text, seen[text])
		}
	}
}

// Promise 16: what is set turns no text but that of fuel and of `:code`.
func TestPromise16Settings(t *testing.T) {
	s := speaker{dice: 26262}
	all := rightConfigs()
	for range 500 {
		forms := slices.DeleteFunc(append(startLines()[:4], s.line(), s.line(), s.line()), func(form string) bool { return strings.Trim(form, " ") == "" })
		plain := impl.RunLoop(strings.Join(forms, "\n"), true)
		told := strings.Split(plain.Text, "\n")
		for range 4 {
			at, c := 1+s.next(len(forms)-1), all[s.next(len(all))]
			set := []string{fmt.Sprint(":seg ", c.Segment), fmt.Sprint(":table ", c.Table), fmt.Sprint(":peep ", s.next(2)), fmt.Sprint(":cache ", s.next(2))}
			text := strings.Join(slices.Insert(slices.Clone(forms), at, set...), "\n")
			want := strings.Join(slices.Insert(slices.Clone(told), at, "ok", "ok", "ok", "ok"), "\n")
			for _, tree := range []bool{false, true} {
				if got := impl.RunLoop(text, tree); got.Text != want || got.Code != plain.Code {
					t.Fatalf("RunLoop(%q, %t) = %+v, not %q", text, tree, got, want)
				}
			}
		}
	}
}

// Promise 16: a text without commands is what its lines come to with fuel 100.
func TestPromise16Forms(t *testing.T) {
	for _, lines := range scripts()[:150] {
		lines = slices.DeleteFunc(slices.Clone(lines), func(line string) bool { return line == "" })
		text := strings.Join(lines, "\n")
		if len(text) > 2000 {
			continue
		}
		want := strings.Join(append(impl.RunTree(lines, 100).Texts, ""), "\n")
		for _, tree := range []bool{false, true} {
			if got := impl.RunLoop(text, tree); got != (impl.TextResult{Text: want}) {
				t.Fatalf("RunLoop(%q, %t) = %+v, not %q", text, tree, got, want)
			}
		}
	}
	for _, text := range someTexts(3000, 40, append(append(rightPieces(), wrongPieces()...), "\n", "\n", ":seg 1\n", "\n:table 15\n", "\n:", "(f f)\n", "\n:core ", "\n:code ")) {
		checkLoop(t, text)
	}
}

// Promise 1: the same again whatever was asked between, in new memory that can be written into, and no argument is changed.
func TestPromise1Loop(t *testing.T) {
	s := speaker{dice: 15115}
	texts := []string{"", " ", "abcdef", "'abcdef\nabcdef\n:core abcdef\n:code 'abcdef\n:abcdef\n", times(2001, " "), times(13, "abc\n"), ":core abc", ":code  (abc)", ":fuel 7", ":fuel 401"}
	for range 60 {
		texts = append(texts, turnedLoop(&s, append(startLines()[2:], s.line(), s.line())))
	}
	for turn, given := range texts {
		text, other := strings.Clone(given), texts[(turn+1)%len(texts)]
		c := oneWay(turn)
		command, core, code := impl.CommandOf(text), impl.CoreFor(text), impl.CodeFor(text, c)
		lines, ran, tree := impl.LoopLines(text), impl.RunLoop(text, false), impl.RunLoop(text, true)
		kept := slices.Clone(lines.Texts)
		checkNamesApart(t, "the loop", append(slices.Clone(lines.Texts), command.Form, core.Text, code.Text, ran.Text, tree.Text), text)
		checkNamesApart(t, "CommandOf", []string{command.Form}, impl.CommandOf(text).Form)
		for i := range lines.Texts[:cap(lines.Texts)] {
			lines.Texts[:cap(lines.Texts)][i] = "changed"
		}
		for _, asked := range []string{other, ":seg 1\n:table 15\n:peep 1\n:cache 1\n:fuel 0\n(define car cdr)"} {
			impl.RunLoop(asked, turn%2 == 0)
			impl.CommandOf(asked)
			impl.LoopLines(asked)
			impl.CodeFor(asked, impl.Config{Segment: 1, Table: 15, Peep: true})
		}
		again := impl.LoopLines(text)
		if again.Code != lines.Code || !slices.Equal(again.Texts, kept) || impl.CommandOf(text) != command || impl.CoreFor(text) != core || impl.CodeFor(text, c) != code || impl.RunLoop(text, true) != tree || impl.RunLoop(text, false) != ran {
			t.Fatalf("%q comes to something else behind %q", text, other)
		}
		if text != given || c != oneWay(turn) {
			t.Fatalf("%q is changed", given)
		}
	}
}
