package tests

import (
	"fmt"
	"math"
	"slices"
	"strings"
	"testing"

	"loop.example/g00349/impl"
)

// wantPlain reads, expands and compiles a line, each by itself.
func wantPlain(line string) impl.CodeResult {
	read := impl.ReadData(line)
	if read.Code != impl.OK {
		return impl.CodeResult{Code: read.Code}
	}
	means := impl.ExpandData(read.Data)
	if means.Code != impl.OK {
		return impl.CodeResult{Code: means.Code}
	}
	return impl.CompileCore(means.Cores)
}

func checkPlain(t *testing.T, line string) impl.CodeResult {
	t.Helper()
	got, want := impl.PlainCode(line), wantPlain(line)
	if got.Code != want.Code || !equalCode(got.Blocks, want.Blocks) || got.Code != impl.OK && got.Blocks != nil {
		t.Fatalf("PlainCode(%q) = %+v, not %+v", line, got, want)
	}
	return got
}

func TestPlainCode(t *testing.T) {
	for _, c := range []struct {
		line string
		want string
	}{
		{"5", "0: const 5, return"},
		{" (f 'x) ; f", "0: global f, const x, tail 1"},
		{"(define f (lambda (x) (g x)))", "0: closure 1, def f, return | 1: global g, local 0 0, tail 1"},
	} {
		if got := checkPlain(t, c.line); got.Code != impl.OK || !equalCode(got.Blocks, codeOf(c.want)) {
			t.Errorf("PlainCode(%q) = %+v, not %s", c.line, got, c.want)
		}
	}
	for _, c := range []struct {
		line string
		want int64
	}{
		{"", impl.ErrForm},
		{"(", impl.ErrForm},
		{"1 2", impl.ErrForm},
		{"A", impl.ErrText},
		{"(if A", impl.ErrText},
		{times(401, " "), impl.ErrMany},
		{times(13, "("), impl.ErrMany},
		{"()", impl.ErrForm},
		{"if", impl.ErrForm},
		{"(lambda (x x) 1)", impl.ErrForm},
		{"(begin (define x 1))", impl.ErrForm},
		{"(f 1 2 3 4)", impl.ErrMany},
	} {
		if got := checkPlain(t, c.line); got.Code != c.want {
			t.Errorf("PlainCode(%q) = %+v, not %d", c.line, got, c.want)
		}
	}
}

// Promise 1 and promise 10 of what is compiled of a line.
func TestPlainCodeSome(t *testing.T) {
	list := append(someTexts(500, 40, rightPieces()), someTexts(500, 10, wrongPieces())...)
	for _, lines := range scripts()[:100] {
		list = append(list, lines...)
	}
	held := 0
	for _, line := range list {
		kept := strings.Clone(line)
		got := checkPlain(t, line)
		if got.Code == impl.OK {
			if held++; impl.CodeFault(got.Blocks) != impl.OK {
				t.Fatalf("PlainCode(%q) does not hold: %+v", line, got.Blocks)
			}
		}
		for _, name := range namesIn(got.Blocks) {
			if !apart(name, line) {
				t.Fatalf("PlainCode(%q) hands a name on", line)
			}
		}
		spoilCode(got.Blocks)
		if checkPlain(t, line); line != kept {
			t.Fatalf("%q is changed", kept)
		}
	}
	if held < 200 {
		t.Errorf("only %d were compiled", held)
	}
}

func settingText(c impl.Config) string {
	text := fmt.Sprintf("seg %d table %d", c.Segment, c.Table)
	if c.Peep {
		text += " peep"
	} else {
		text += " plain"
	}
	if c.Cache {
		return text + " cache"
	}
	return text + " look"
}

func wantConfigFault(c impl.Config) int64 {
	if c.Segment < 1 || c.Segment > 64 || c.Table < 0 || c.Table > 15 {
		return impl.ErrRange
	}
	return impl.OK
}

// configsOf: all settings of these numbers, peeped and plain, with and without sites that remember.
func configsOf(sizes, tables []int64) []impl.Config {
	var list []impl.Config
	for _, size := range sizes {
		for _, table := range tables {
			for way := range 4 {
				list = append(list, impl.Config{Segment: size, Table: table, Peep: way&1 > 0, Cache: way&2 > 0})
			}
		}
	}
	return list
}

func fromTo(from, to int64) []int64 {
	var list []int64
	for ; from <= to; from++ {
		list = append(list, from)
	}
	return list
}

func rightConfigs() []impl.Config { return configsOf(fromTo(1, 64), fromTo(0, 15)) }

// configTexts: all texts that are of a setting.
func configTexts() map[string]impl.Config {
	known := map[string]impl.Config{}
	for _, c := range rightConfigs() {
		known[settingText(c)] = c
	}
	return known
}

// edgeSizes and edgeTables: those at the bounds, near to them and far out, also such as a float has not, or the low bits of which are in bounds.
func edgeSizes() []int64 {
	return append([]int64{-1, 0, 1, 2, 3, 32, 63, 64, 65, 66, 100, 128}, farOut(1)...)
}

func edgeTables() []int64 {
	return append([]int64{-16, -15, -2, -1, 0, 1, 2, 4, 8, 5, 10, 14, 15, 16, 17, 31, 32, 64}, farOut(5)...)
}

func farOut(low int64) []int64 {
	return []int64{1<<8 + low, 1<<32 + low, 1<<53 + low, 1<<62 + low, -1<<32 + low, -1<<62 + low, math.MaxInt64, math.MaxInt64 - 1, math.MinInt64, math.MinInt64 + 1, math.MinInt64 + low}
}

func TestConfigFault(t *testing.T) {
	list := configsOf(edgeSizes(), edgeTables())
	list = append(list, configsOf(fromTo(-70, 140), []int64{0, 7, 15, 16})...)
	list = append(list, configsOf([]int64{0, 1, 64, 65}, fromTo(-40, 80))...)
	for _, c := range append(list, rightConfigs()...) {
		want := impl.TextResult{Code: wantConfigFault(c)}
		if want.Code == impl.OK {
			want.Text = settingText(c)
		}
		if got := impl.ConfigFault(c); got != want.Code {
			t.Errorf("ConfigFault(%+v) = %d, not %d", c, got, want.Code)
		}
		if got := impl.ConfigText(c); got != want {
			t.Errorf("ConfigText(%+v) = %+v, not %+v", c, got, want)
		}
	}
	for _, c := range []impl.Config{{}, {Peep: true, Cache: true}, {Segment: 1, Table: -1}, {Segment: 1, Table: 16}, {Table: 1}, {Segment: 65}, {Segment: -1, Table: -1}, {Segment: 0, Table: 16},
		{Segment: math.MinInt64, Table: math.MaxInt64}, {Segment: 1, Table: math.MinInt64}, {Segment: math.MaxInt64, Table: 15}} {
		if got, text := impl.ConfigFault(c), impl.ConfigText(c); got != impl.ErrRange || text != (impl.TextResult{Code: impl.ErrRange}) {
			t.Errorf("%+v: %d, %+v", c, got, text)
		}
	}
}

func TestConfigExamples(t *testing.T) {
	for text, c := range map[string]impl.Config{
		"seg 1 table 0 plain look":    {Segment: 1},
		"seg 64 table 15 plain look":  {Segment: 64, Table: 15},
		"seg 64 table 0 peep look":    {Segment: 64, Peep: true},
		"seg 1 table 15 plain cache":  {Segment: 1, Table: 15, Cache: true},
		"seg 8 table 10 peep cache":   {Segment: 8, Table: 10, Peep: true, Cache: true},
		"seg 15 table 1 peep look":    {Segment: 15, Table: 1, Peep: true},
		"seg 10 table 10 plain cache": {Segment: 10, Table: 10, Cache: true},
	} {
		if got := impl.ConfigText(c); got != (impl.TextResult{Text: text}) {
			t.Errorf("ConfigText(%+v) = %+v", c, got)
		}
		if got := impl.ParseConfig(text); got != (impl.ConfigResult{Config: c}) {
			t.Errorf("ParseConfig(%q) = %+v", text, got)
		}
	}
}

func checkConfigText(t *testing.T, text string, known map[string]impl.Config) {
	t.Helper()
	want := impl.ConfigResult{Code: impl.ErrText}
	if c, ok := known[text]; ok {
		want = impl.ConfigResult{Config: c}
	}
	if got := impl.ParseConfig(text); got != want {
		t.Fatalf("ParseConfig(%.100q) = %+v, not %+v", text, got, want)
	}
}

// Promise 14: a setting is read back from its text.
func TestPromise14Texts(t *testing.T) {
	known := configTexts()
	if len(known) != 64*16*4 {
		t.Fatalf("%d texts", len(known))
	}
	for _, c := range rightConfigs() {
		text := impl.ConfigText(c)
		if impl.ConfigFault(c) != impl.OK || text.Code != impl.OK {
			t.Fatalf("%+v: %d, %+v", c, impl.ConfigFault(c), text)
		}
		checkConfigText(t, text.Text, known)
		if got := impl.ParseConfig(text.Text); got != (impl.ConfigResult{Config: c}) || impl.ConfigText(got.Config) != text {
			t.Fatalf("%+v is written as %q, and read as %+v", c, text.Text, got)
		}
	}
}

func TestParseConfigWrong(t *testing.T) {
	for _, text := range []string{
		"", " ", "\n", "seg", "seg 3", "seg 0", "seg 3 table 5", "seg 3 table 5 peep", "seg 3 table 5 look", "table 5 peep look", "3 5 peep look", "3 5",
		// A blank more, or another one.
		" seg 3 table 5 peep look", "seg 3 table 5 peep look ", "seg  3 table 5 peep look", "seg 3  table 5 peep look", "seg 3 table  5 peep look", "seg 3 table 5  peep look",
		"seg 3 table 5 peep  look", "seg\t3 table 5 peep look", "seg 3 table 5 peep\nlook", "seg 3 table 5 peep look\n", "\nseg 3 table 5 peep look", "seg 3 table 5 peep look\r\n",
		// A blank less.
		"seg3 table 5 peep look", "seg 3table 5 peep look", "seg 3 table5 peep look", "seg 3 table 5peep look", "seg 3 table 5 peeplook", "seg3table5peeplook",
		// A word more, a word less, and others.
		"seg 3 table 5 peep look look", "seg 3 table 5 peep plain look", "seg 3 table 5 peep look cache", "seg seg 3 table 5 peep look", "seg 3 4 table 5 peep look", "seg 3 table 5 peep look seg",
		"seg 3 table peep look", "seg table 5 peep look", "seg 3 5 peep look", "seg 3 table 5  look", "seg 3 table 5 peep ", "seg  table 5 peep look", "seg 3 table  peep look", " 3 table 5 peep look",
		"seg 3 table 5 pee look", "seg 3 table 5 peeps look", "seg 3 table 5 no look", "seg 3 table 5 #t #f", "seg 3 table 5 1 0", "seg 3 table 5 true false", "seg 3 table 5 peep loo", "seg 3 table 5 peep looks",
		"segment 3 table 5 peep look", "size 3 table 5 peep look", "seg 3 tab 5 peep look", "se 3 table 5 peep look", ":seg 3 table 5 peep look", "seg 3, table 5, peep, look", "seg=3 table=5 peep look", "(seg 3 table 5 peep look)",
		// Words in another order.
		"table 5 seg 3 peep look", "seg 3 table 5 look peep", "seg 3 table 5 cache peep", "peep look seg 3 table 5", "3 seg 5 table peep look", "seg table 3 5 peep look", "seg 3 peep table 5 look", "table 3 table 5 peep look", "seg 3 seg 5 peep look",
		"seg 3 table 5 peep peep", "seg 3 table 5 look look", "seg 3 table 5 plain peep", "seg 3 table 5 cache look",
		// Great letters.
		"Seg 3 table 5 peep look", "SEG 3 TABLE 5 PEEP LOOK", "seg 3 Table 5 peep look", "seg 3 table 5 Peep look", "seg 3 table 5 peep LOOK",
		// Numbers that are not written so.
		"seg +3 table 5 peep look", "seg -3 table 5 peep look", "seg 3 table +5 peep look", "seg 3 table -5 peep look", "seg 3 table -0 peep look", "seg 3 table +0 peep look", "seg -0 table 5 peep look",
		"seg 03 table 5 peep look", "seg 3 table 05 peep look", "seg 3 table 00 peep look", "seg 003 table 5 peep look", "seg 3 table 000000000005 peep look", "seg 00 table 5 peep look",
		"seg 3.0 table 5 peep look", "seg 3 table 5.0 peep look", "seg 3e0 table 5 peep look", "seg 0x3 table 5 peep look", "seg 3 table 0xf peep look", "seg 3 table 0b1 peep look", "seg 1_0 table 5 peep look", "seg 3 table 1_0 peep look",
		"seg ٣ table 5 peep look", "seg 3 table ５ peep look", "seg 3i table 5 peep look", "seg 3 table (3+5i) peep look", "seg 3 table NaN peep look", "seg Inf table 5 peep look",
		// Out of range, with too many digits, no number.
		"seg 0 table 5 peep look", "seg 65 table 5 peep look", "seg -1 table 5 peep look", "seg 3 table 16 peep look", "seg 3 table -1 peep look", "seg 0 table 0 plain look", "seg 65 table 16 plain look", "seg 64 table 16 plain look", "seg 65 table 15 plain look",
		"seg 1000000000 table 5 peep look", "seg 1000000001 table 5 peep look", "seg 3 table 1000000001 peep look", "seg 9223372036854775807 table 5 peep look", "seg 3 table -9223372036854775808 peep look",
		"seg 4294967297 table 5 peep look", "seg 3 table 4294967296 peep look", "seg 18446744073709551617 table 5 peep look", "seg 3 table 18446744073709551616 peep look", "seg 3 table 99999999999999999999999999 peep look", "seg 340282366920938463463374607431768211457 table 5 peep look",
		"seg x table 5 peep look", "seg 3 table x peep look", "seg three table five peep look", "seg #t table 5 peep look", "seg 3 table ' peep look", "seg - table 5 peep look", "seg 3 table - peep look", "seg 3x table 5 peep look", "seg 3 table 5x peep look",
		// A text of more than 400 bytes.
		times(401, " "), times(401, "s"), times(401, "0"), "seg 3 table 5 peep look" + times(400, " "), times(400, " ") + "seg 3 table 5 peep look", "seg " + times(400, "0") + "3 table 5 peep look", "seg 3 table " + times(400, "0") + " peep look",
		times(20, "seg 3 table 5 peep look "), times(20, "seg 3 table 5 peep look\n"), "seg 3 table 5 peep " + times(100, "look"), "seg" + times(400, " ") + "3 table 5 peep look", times(1<<20, "seg "), times(1<<20, " "), "seg " + times(1<<20, "9") + " table 5 peep look",
		// Bytes that are no letters.
		"\x00", "\xff\xfe", "seg 3 table 5 peep look\x00", "seg 3 table 5 peep l\xffok", "ѕeg 3 table 5 peep look", "seg\u00a03 table 5 peep look", "\ufeffseg 3 table 5 peep look",
	} {
		if got := impl.ParseConfig(text); got != (impl.ConfigResult{Code: impl.ErrText}) {
			t.Errorf("ParseConfig(%.100q) = %+v", text, got)
		}
	}
}

// textsNear: the text with one byte more, less, doubled, turned or moved, and with a word so.
func textsNear(text string) []string {
	var list []string
	bytes := " \n\t0123456789-+.abceghiklnopstPx'\x00\xff"
	for at := range len(text) + 1 {
		for _, b := range []byte(bytes) {
			list = append(list, text[:at]+string([]byte{b})+text[at:])
			if at < len(text) {
				list = append(list, text[:at]+string([]byte{b})+text[at+1:])
			}
		}
		list = append(list, text[:at], text[at:], text[:at]+text[min(at+1, len(text)):], text[at:]+text[:at])
	}
	all := strings.Split(text, " ")
	others := []string{"", "seg", "table", "peep", "plain", "cache", "look", "0", "1", "15", "16", "64", "65", "-1"}
	for at := range all {
		list = append(list, strings.Join(slices.Delete(slices.Clone(all), at, at+1), " "))
		for _, other := range others {
			list = append(list, strings.Join(slices.Insert(slices.Clone(all), at, other), " "), strings.Join(slices.Replace(slices.Clone(all), at, at+1, other), " "))
		}
		for to := range all {
			moved := slices.Clone(all)
			moved[at], moved[to] = moved[to], moved[at]
			list = append(list, strings.Join(moved, " "))
		}
	}
	return list
}

// The texts next to those of settings: some of them are of other settings.
func TestParseConfigNear(t *testing.T) {
	known := configTexts()
	s := dice(1301)
	list := configsOf([]int64{1, 9, 10, 64}, []int64{0, 1, 10, 15})
	for _, c := range rightConfigs() {
		if s.next(100) == 0 {
			list = append(list, c)
		}
	}
	of := map[bool]int{}
	for _, c := range list {
		for _, text := range textsNear(settingText(c)) {
			checkConfigText(t, text, known)
			_, ok := known[text]
			of[ok]++
		}
	}
	if of[true] < 1000 || of[false] < 100000 {
		t.Errorf("so many of settings: %v", of)
	}
	for _, text := range append(someTexts(3000, 12, []string{"seg", "table", "peep", "plain", "cache", "look", " ", " ", "1", "3", "15", "0"}), someTexts(500, 12, wrongPieces())...) {
		checkConfigText(t, text, known)
	}
}

// wantMake peeps and fuses by hand what is made of a line.
func wantMake(line string, c impl.Config) impl.CodeResult {
	if fault := wantConfigFault(c); fault != impl.OK {
		return impl.CodeResult{Code: fault}
	}
	made := wantPlain(line)
	if made.Code == impl.OK && c.Peep {
		made = wantPeep(made.Blocks)
	}
	if made.Code != impl.OK {
		return made
	}
	return wantFuse(made.Blocks, c.Table)
}

func checkMake(t *testing.T, line string, c impl.Config) impl.CodeResult {
	t.Helper()
	got, want := impl.MakeCode(line, c), wantMake(line, c)
	if got.Code != want.Code || !equalCode(got.Blocks, want.Blocks) || got.Code != impl.OK && got.Blocks != nil {
		t.Fatalf("MakeCode(%q) by %+v is %s\nnot %s", line, c, madeText(got), madeText(want))
	}
	return got
}

// checkPromise14 is for lines that mean something: by all tables, peeped and plain.
func checkPromise14(t *testing.T, line string) {
	t.Helper()
	plain := impl.PlainCode(line).Blocks
	for _, c := range configsOf([]int64{1, 64}, fromTo(0, 15)) {
		if c.Segment > 1 != c.Cache {
			continue
		}
		made := checkMake(t, line, c)
		if held := holdByHand(made.Blocks); made.Code != impl.OK || held.fault != impl.OK || impl.CodeFault(made.Blocks) != impl.OK {
			t.Fatalf("MakeCode(%q) by %+v does not hold (%s): %s", line, c, held.wrong, madeText(made))
		}
		want := plain
		if c.Peep {
			want = wantPeep(plain).Blocks
		}
		apart := impl.UnfuseCode(made.Blocks)
		if apart.Code != impl.OK || !equalCode(apart.Blocks, want) || !impl.SameCode(apart.Blocks, want) {
			t.Fatalf("MakeCode(%q) by %+v taken apart is %s\nnot %s", line, c, madeText(apart), someText(want))
		}
		checkSameDone(t, fmt.Sprintf("MakeCode(%q) by %+v", line, c), plain, made.Blocks)
	}
}

// What is made by all tables: each bit by itself, and together.
func TestMakeCodeTables(t *testing.T) {
	line := "(lambda (x y) (if x (if y (x y) y) 2))"
	for table, want := range map[int64]string{
		0:  "local 0 0, ifnot 9, local 0 1, ifnot 7, local 0 0, local 0 1, tail 1, local 0 1, return, const 2, return",
		1:  "local 0 0, ifnot 9, local 0 1, ifnot 7, local 0 0, local 0 1, tail 1, local 0 1, return, constret 2",
		2:  "local 0 0, ifnot 8, local 0 1, ifnot 7, local 0 0, local 0 1, tail 1, localret 0 1, const 2, return",
		4:  "local 0 0, ifnot 8, local 0 1, ifnot 6, locals 0 0 0 1, tail 1, local 0 1, return, const 2, return",
		8:  "localifnot 0 0 7, localifnot 0 1 5, local 0 0, local 0 1, tail 1, local 0 1, return, const 2, return",
		5:  "local 0 0, ifnot 8, local 0 1, ifnot 6, locals 0 0 0 1, tail 1, local 0 1, return, constret 2",
		10: "localifnot 0 0 6, localifnot 0 1 5, local 0 0, local 0 1, tail 1, localret 0 1, const 2, return",
		15: "localifnot 0 0 5, localifnot 0 1 4, locals 0 0 0 1, tail 1, localret 0 1, constret 2",
	} {
		for _, c := range configsOf([]int64{1, 7, 64}, []int64{table}) {
			if got := checkMake(t, line, c); got.Code != impl.OK || !equalCode(got.Blocks, codeOf("0: closure 1, return | 2: "+want)) {
				t.Errorf("by %+v: %s", c, madeText(got))
			}
		}
	}
	for _, c := range configsOf([]int64{1, 64}, fromTo(0, 15)) {
		twos := c.Table&1 + c.Table>>1&1 + c.Table>>2&1 + c.Table>>3*2
		if fused := impl.FusedIn(impl.MakeCode(line, c).Blocks); fused != (impl.IntResult{Value: twos}) {
			t.Errorf("by %+v: %+v", c, fused)
		}
	}
}

// What is peeped and what is plain, with all the same beside it.
func TestMakeCodePeep(t *testing.T) {
	line := "(lambda (x) (f (if x (if x x 1) 2)))"
	for _, w := range []struct {
		table int64
		peep  bool
		want  string
	}{
		{0, false, "global f, local 0 0, ifnot 9, local 0 0, ifnot 7, local 0 0, jump 8, const 1, jump 10, const 2, tail 1"},
		{0, true, "global f, local 0 0, ifnot 9, local 0 0, ifnot 7, local 0 0, jump 10, const 1, jump 10, const 2, tail 1"},
		{7, false, "global f, local 0 0, ifnot 9, local 0 0, ifnot 7, local 0 0, jump 8, const 1, jump 10, const 2, tail 1"},
		{7, true, "global f, local 0 0, ifnot 9, local 0 0, ifnot 7, local 0 0, jump 10, const 1, jump 10, const 2, tail 1"},
		{8, false, "global f, localifnot 0 0 7, localifnot 0 0 5, local 0 0, jump 6, const 1, jump 8, const 2, tail 1"},
		{8, true, "global f, localifnot 0 0 7, localifnot 0 0 5, local 0 0, jump 8, const 1, jump 8, const 2, tail 1"},
		{15, false, "global f, localifnot 0 0 7, localifnot 0 0 5, local 0 0, jump 6, const 1, jump 8, const 2, tail 1"},
		{15, true, "global f, localifnot 0 0 7, localifnot 0 0 5, local 0 0, jump 8, const 1, jump 8, const 2, tail 1"},
	} {
		for _, c := range configsOf([]int64{1, 33, 64}, []int64{w.table}) {
			if c.Peep != w.peep {
				continue
			}
			if got := checkMake(t, line, c); got.Code != impl.OK || !equalCode(got.Blocks, codeOf("0: closure 1, return | 1: "+w.want)) {
				t.Errorf("by %+v: %s", c, madeText(got))
			}
		}
	}
}

// kindLines: of each kind of core, alone and with others in it and around it.
func kindLines() []string {
	return []string{
		"1", "#f", "'x", "'(a (1 #t) ())", "'()", "x", "call/cc", "(lambda () 1)", "(lambda (x) x)", "(lambda (x y z) y)", "(lambda (x) (lambda (y) x))", "(lambda () (lambda () y))",
		"(if a b c)", "(if 1 2 3)", "(if (if a b c) (if d 1 2) (if e 'x '(y)))", "(f (if a (if b 1 2) (if c 3 4)))", "(lambda (x) (if x x x))", "(lambda (x) (if (if x 1 2) x 3))", "(lambda (x y) (f (if x (if y x y) (if y 1 2)) x y))",
		"(begin 1)", "(begin 1 2 x)", "(begin (if a 1 2) (f) 'z)", "(lambda (x) (begin x x))", "(begin (begin 1 (begin 2 3)) 4)", "(begin (lambda (x) x) (lambda (y) y))",
		"(set! x 1)", "(set! x (lambda (y) (set! x y)))", "(begin (set! x 1) (set! y x))", "(set! x (if a (if b 1 2) 3))", "(lambda (x) (set! y x))",
		"(define x 1)", "(define f (lambda (n) (if (< n 1) 0 (+ n (f (- n 1))))))", "(define x (if a (if b 1 2) 3))", "(define x (set! x x))",
		"(f)", "(f 1)", "(f x '(y))", "(f 1 2 3)", "((lambda (x y z) (x y z z)) 1 2 3)", "((f) (g 1))", "((if a f g) 1)", "(lambda (f x) (f x))", "(lambda (f x y) (f x y x))", "(lambda (x y) (+ (x y) (y x)))",
		"(let () 1)", "(let ((x 1)) x)", "(let ((x 1) (y 2)) (if x (if y x 3) (f y)))", "(let ((x (let ((y 1)) y))) (let ((z x)) (list x z)))", "(call/cc (lambda (k) (* 5 (k 2))))", "  (f ; x\n 1) ",
	}
}

// Promise 14: what is made of a line by a setting holds, and taken apart without peeping it is the plain code.
func TestPromise14Kinds(t *testing.T) {
	kinds := map[int64]int{}
	for _, line := range kindLines() {
		read := impl.ReadData(line)
		means := impl.ExpandData(read.Data)
		if read.Code != impl.OK || means.Code != impl.OK {
			t.Fatalf("%q: %d, %d", line, read.Code, means.Code)
		}
		for _, c := range means.Cores {
			kinds[c.Kind]++
		}
		checkPromise14(t, line)
	}
	for kind := int64(impl.CoreConst); kind <= impl.CoreApp; kind++ {
		if kinds[kind] < 4 {
			t.Errorf("kind %d: %d times", kind, kinds[kind])
		}
	}
}

func TestPromise14Some(t *testing.T) {
	made := 0
	for _, lines := range scripts()[:15] {
		for _, line := range lines {
			if impl.PlainCode(line).Code == impl.OK {
				made++
				checkPromise14(t, line)
			}
		}
	}
	for _, d := range someForms(100, 0) {
		line := impl.WriteData(d)
		if line.Code == impl.OK && impl.PlainCode(line.Text).Code == impl.OK {
			made++
			checkPromise14(t, line.Text)
		}
	}
	if made < 100 {
		t.Errorf("only %d were made", made)
	}
}

// nest: so many lambdas, one in the other.
func nest(lambdas int) string { return times(lambdas, "(lambda()") + "1" + times(lambdas, ")") }

// The greatest lines that can be read: their code is within all bounds of blocks and operations, so that a line alone is never too great for its code.
func TestMakeCodeGreat(t *testing.T) {
	for _, c := range []struct {
		line  string
		bytes int
		data  int
		ops   []int
	}{
		{"(begin" + times(78, " 1") + ")", 163, 80, []int{156}},
		{"(begin" + times(77, " x") + " x)" + times(237, " "), 400, 80, []int{156}},
		{"(lambda()(begin" + times(75, " 1") + "))", 167, 80, []int{2, 150}},
		{"(begin" + times(39, "(f)") + ")", 124, 80, []int{116}},
		{"(begin" + times(15, "(if 1 1 1)") + "(begin 1))", 166, 80, []int{92}},
		{"(" + nest(8) + nest(8) + nest(7) + ")", 235, 73, append([]int{4}, slices.Repeat([]int{2}, 23)...)},
		{nest(11), 111, 34, []int{2, 2, 2, 2, 2, 2, 2, 2, 2, 2, 2, 2}},
	} {
		plain := checkPlain(t, c.line)
		var ops []int
		for _, b := range plain.Blocks {
			ops = append(ops, len(b.Ops))
		}
		if plain.Code != impl.OK || len(c.line) != c.bytes || len(impl.ReadData(c.line).Data) != c.data || !slices.Equal(ops, c.ops) {
			t.Errorf("%q: %d, %d bytes, %d data, %v", c.line, plain.Code, len(c.line), len(impl.ReadData(c.line).Data), ops)
		}
		checkPromise14(t, c.line)
	}
}

type wrongLine struct {
	line string
	code int64
}

// wrongLines: those that cannot be read, that mean nothing, and that are too great.
func wrongLines() []wrongLine {
	return []wrongLine{
		{"", impl.ErrForm}, {" ", impl.ErrForm}, {"; x", impl.ErrForm}, {"(", impl.ErrForm}, {")", impl.ErrForm}, {"(f", impl.ErrForm}, {"f)", impl.ErrForm}, {"1 2", impl.ErrForm}, {"'", impl.ErrForm}, {"(')", impl.ErrForm},
		{"A", impl.ErrText}, {"(if A", impl.ErrText}, {"01", impl.ErrText}, {"1000000001", impl.ErrText}, {"(f #x)", impl.ErrText}, {"abcdefghijklm", impl.ErrText}, {"1 2 \xff", impl.ErrText}, {"\t1", impl.ErrText},
		{times(401, " "), impl.ErrMany}, {"1" + times(400, " "), impl.ErrMany}, {times(401, "A"), impl.ErrMany}, {times(1<<20, "("), impl.ErrMany}, {times(121, ")"), impl.ErrMany},
		{times(13, "("), impl.ErrMany}, {"(begin" + times(79, " 1") + ")", impl.ErrMany}, {"(f" + times(118, " 1") + ")", impl.ErrMany}, {nest(12), impl.ErrMany}, {"(" + nest(8) + nest(8) + nest(8) + ")", impl.ErrMany},
		{"()", impl.ErrForm}, {"if", impl.ErrForm}, {"(if 1 2)", impl.ErrForm}, {"(lambda (x x) 1)", impl.ErrForm}, {"(lambda x 1)", impl.ErrForm}, {"(begin)", impl.ErrForm}, {"(begin (define x 1))", impl.ErrForm}, {"(f (define x 1))", impl.ErrForm},
		{"(lambda (x) (set! x 1))", impl.ErrForm}, {"(set! 1 2)", impl.ErrForm}, {"(set! if 2)", impl.ErrForm}, {"(let ((x)) 1)", impl.ErrForm}, {"(quote)", impl.ErrForm}, {"(f lambda)", impl.ErrForm},
		{"(f 1 2 3 4)", impl.ErrMany}, {"(lambda (a b c d) 1)", impl.ErrMany}, {"(let ((a 1) (b 2) (c 3) (d 4)) 1)", impl.ErrMany},
	}
}

func TestMakeCodeWrongLines(t *testing.T) {
	list := configsOf([]int64{1, 64}, fromTo(0, 15))
	for _, w := range wrongLines() {
		for _, c := range list {
			if got := checkMake(t, w.line, c); got.Code != w.code || got.Blocks != nil {
				t.Errorf("MakeCode(%.60q) by %+v is %s", w.line, c, madeText(got))
			}
		}
		if got := checkPlain(t, w.line); got.Code != w.code || got.Blocks != nil {
			t.Errorf("PlainCode(%.60q) is %s", w.line, madeText(got))
		}
	}
}

// A setting with a fault: it is told ahead of what is wrong with the line.
func TestMakeCodeWrongSettings(t *testing.T) {
	lines := []string{"1", "(lambda (x) (if x x 2))", nest(11)}
	for _, w := range wrongLines() {
		lines = append(lines, w.line)
	}
	faults := 0
	for _, c := range configsOf(edgeSizes(), edgeTables()) {
		if wantConfigFault(c) == impl.OK {
			continue
		}
		faults++
		for i, line := range lines {
			if (i+faults)%7 > 0 && i > 2 {
				continue
			}
			if got := checkMake(t, line, c); got.Code != impl.ErrRange || got.Blocks != nil {
				t.Fatalf("MakeCode(%.60q) by %+v is %s", line, c, madeText(got))
			}
		}
	}
	if faults < 1000 {
		t.Errorf("only %d settings have a fault", faults)
	}
}

// What is made hangs neither on the size of stacks nor on whether sites remember.
func TestMakeCodeBySize(t *testing.T) {
	for i, line := range kindLines() {
		for _, peep := range []bool{false, true} {
			table := int64(i) % 16
			first := impl.MakeCode(line, impl.Config{Segment: 1, Table: table, Peep: peep})
			for _, c := range configsOf(fromTo(1, 64), []int64{table}) {
				if got := impl.MakeCode(line, c); c.Peep == peep && (got.Code != impl.OK || !equalCode(got.Blocks, first.Blocks)) {
					t.Fatalf("MakeCode(%q) by %+v is %s", line, c, madeText(got))
				}
			}
		}
	}
}

func checkNamesApart(t *testing.T, what string, names []string, others ...string) {
	t.Helper()
	for _, name := range names {
		for _, other := range others {
			if !apart(name, other) {
				t.Fatalf("%s hands %q on", what, name)
			}
		}
	}
}

// Promise 1: the same again whatever was asked between, in new memory that can be written into, and the line is as it was.
func TestPromise1Make(t *testing.T) {
	s := dice(1302)
	all := configsOf([]int64{0, 1, 8, 64, 65}, fromTo(-1, 16))
	lines := append(kindLines(), someTexts(100, 40, rightPieces())...)
	for _, w := range wrongLines() {
		lines = append(lines, w.line)
	}
	for _, line := range lines {
		kept := strings.Clone(line)
		for range 6 {
			c := all[s.next(len(all))]
			first, other := impl.MakeCode(line, c), impl.MakeCode(line, c)
			told := cloneCode(first.Blocks)
			checkNamesApart(t, "MakeCode", namesIn(first.Blocks), append(namesIn(other.Blocks), line)...)
			spoilCode(first.Blocks)
			impl.MakeCode(lines[s.next(len(lines))], all[s.next(len(all))])
			impl.ParseConfig(line)
			spoilCode(impl.PlainCode(line).Blocks)
			again := checkMake(t, line, c)
			if again.Code != first.Code || !equalCode(again.Blocks, told) || !equalCode(other.Blocks, told) || line != kept {
				t.Fatalf("MakeCode(%q) by %+v is %s\nthen %s", kept, c, someText(told), madeText(again))
			}
		}
	}
}

// Promise 1 of what is written and read.
func TestPromise1Settings(t *testing.T) {
	for _, c := range configsOf([]int64{0, 1, 8, 64, 65}, fromTo(-1, 16)) {
		kept := c
		first, other := impl.ConfigText(c), impl.ConfigText(c)
		read := impl.ParseConfig(first.Text)
		checkNamesApart(t, "ConfigText", []string{first.Text}, other.Text)
		impl.ConfigText(impl.Config{Segment: 65 - c.Segment, Table: 15 - c.Table, Peep: !c.Peep})
		impl.ParseConfig("seg 7 table 7 peep look")
		impl.MakeCode("(f x)", impl.Config{Segment: 3, Table: 9})
		if impl.ConfigText(c) != first || other != first || impl.ParseConfig(other.Text) != read || impl.ConfigFault(c) != first.Code || c != kept {
			t.Fatalf("%+v: %+v, then %+v; %+v, then %+v", kept, first, impl.ConfigText(c), read, impl.ParseConfig(other.Text))
		}
	}
	for _, text := range []string{"seg 3 table 5 peep look", "seg 3 table 5", "", times(500, "seg ")} {
		kept := strings.Clone(text)
		first := impl.ParseConfig(text)
		impl.ParseConfig("seg 64 table 15 plain cache")
		if again := impl.ParseConfig(text); again != first || text != kept {
			t.Errorf("ParseConfig(%.60q) = %+v, then %+v", kept, first, again)
		}
	}
}
