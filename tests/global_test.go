package tests

import (
	"math"
	"slices"
	"strings"
	"testing"

	"loop.example/g00349/impl"
)

func global(name string, v impl.Value, version int64) impl.Global {
	return impl.Global{Name: name, Value: v, Version: version}
}

func globals(list ...impl.Global) []impl.Global { return list }

func site(version int64, v impl.Value) impl.Site { return impl.Site{Version: version, Value: v} }

// someGlobals: so many with names of three bytes, each with a value and a version of its own.
func someGlobals(count int) []impl.Global {
	var list []impl.Global
	for i := range count {
		name := "g" + string(rune('a'+i/26)) + string(rune('a'+i%26))
		list = append(list, global(name, valNum(int64(i)), int64(i+1)))
	}
	return list
}

func cloneGlobals(list []impl.Global) []impl.Global {
	list = slices.Clone(list)
	for i, g := range list {
		list[i] = global(strings.Clone(g.Name), cloneValue(g.Value), g.Version)
	}
	return list
}

func placeOf(list []impl.Global, name string) int {
	return slices.IndexFunc(list, func(g impl.Global) bool { return g.Name == name })
}

func sameGlobals(a, b impl.GlobalsResult) bool {
	return a.Code == b.Code && slices.Equal(a.Globals, b.Globals)
}

func wrongVersions() []int64 {
	return []int64{0, -1, -99999, 100000, 100001, 1 << 32, 1<<32 + 1, math.MaxInt64, math.MinInt64}
}

func wantGlobalsFault(list []impl.Global) int64 {
	if len(list) > 60 {
		return impl.ErrMany
	}
	for i, g := range list {
		switch fault := wantValueFault(g.Value); {
		case !symbol.MatchString(g.Name):
			return impl.ErrText
		case fault != impl.OK:
			return fault
		case g.Version < 1 || g.Version > 99999:
			return impl.ErrRange
		case placeOf(list[:i], g.Name) >= 0:
			return impl.ErrForm
		}
	}
	return impl.OK
}

// wantNamed: what is asked ahead of all else by those that are given a name.
func wantNamed(list []impl.Global, name string) int64 {
	if code := wantGlobalsFault(list); code != impl.OK {
		return code
	}
	if !symbol.MatchString(name) {
		return impl.ErrText
	}
	return impl.OK
}

func wantLook(list []impl.Global, name string) impl.GlobalResult {
	if code := wantNamed(list, name); code != impl.OK {
		return impl.GlobalResult{Code: code}
	}
	at := placeOf(list, name)
	if at < 0 {
		return impl.GlobalResult{Code: impl.ErrNone}
	}
	return impl.GlobalResult{Global: list[at]}
}

func wantDefine(list []impl.Global, name string, v impl.Value, isSet bool) impl.GlobalsResult {
	fail := func(code int64) impl.GlobalsResult { return impl.GlobalsResult{Code: code} }
	if code := wantNamed(list, name); code != impl.OK {
		return fail(code)
	}
	if code := wantValueFault(v); code != impl.OK {
		return fail(code)
	}
	at := placeOf(list, name)
	switch {
	case at < 0 && isSet:
		return fail(impl.ErrNone)
	case at < 0 && len(list) == 60:
		return fail(impl.ErrMany)
	case at < 0:
		return impl.GlobalsResult{Globals: append(slices.Clone(list), global(name, v, 1))}
	case list[at].Version == 99999:
		return fail(impl.ErrRange)
	}
	turned := slices.Clone(list)
	turned[at] = global(name, v, list[at].Version+1)
	return impl.GlobalsResult{Globals: turned}
}

func wantSiteFault(list []impl.Global, name string, s impl.Site) int64 {
	if code := wantNamed(list, name); code != impl.OK {
		return code
	}
	if s.Version < 0 || s.Version > 99999 {
		return impl.ErrRange
	}
	if code := wantValueFault(s.Value); s.Version != 0 && code != impl.OK {
		return code
	}
	if s.Version == 0 && s.Value != (impl.Value{}) {
		return impl.ErrForm
	}
	if at := placeOf(list, name); at >= 0 && list[at].Version == s.Version && list[at].Value != s.Value {
		return impl.ErrForm
	}
	return impl.OK
}

func wantFetch(list []impl.Global, name string, s impl.Site) impl.FetchResult {
	if code := wantSiteFault(list, name, s); code != impl.OK {
		return impl.FetchResult{Code: code}
	}
	at := placeOf(list, name)
	if at < 0 {
		return impl.FetchResult{Code: impl.ErrNone}
	}
	g := list[at]
	return impl.FetchResult{Hit: s.Version == g.Version, Value: g.Value, Site: site(g.Version, g.Value)}
}

func checkGlobals(t *testing.T, list []impl.Global, want int64) {
	t.Helper()
	if got, byHand := impl.GlobalsFault(list), wantGlobalsFault(list); got != want || byHand != want {
		t.Fatalf("GlobalsFault(%+v) = %d, by hand %d, not %d", list, got, byHand, want)
	}
	if want == impl.OK {
		return
	}
	// A fault of the list is told by all others ahead of whatever else is wrong.
	for _, name := range []string{"a", "none", "A", ""} {
		for _, v := range values(valNum(1), valSym("A"), impl.Value{}) {
			checkTurned(t, list, name, v, impl.GlobalsResult{Code: want}, impl.GlobalsResult{Code: want})
			for _, version := range []int64{0, 1, -1, 100000} {
				checkSite(t, list, name, site(version, v), want)
				checkFetch(t, list, name, site(version, v), impl.FetchResult{Code: want})
			}
		}
		checkLook(t, list, name, impl.GlobalResult{Code: want})
	}
}

func checkLook(t *testing.T, list []impl.Global, name string, want impl.GlobalResult) {
	t.Helper()
	if got, byHand := impl.LookGlobal(list, name), wantLook(list, name); got != want || byHand != want {
		t.Fatalf("LookGlobal(%+v, %.40q) = %+v, by hand %+v, not %+v", list, name, got, byHand, want)
	}
}

func checkTurned(t *testing.T, list []impl.Global, name string, v impl.Value, defined, set impl.GlobalsResult) {
	t.Helper()
	if got, byHand := impl.DefineGlobal(list, name, v), wantDefine(list, name, v, false); !sameGlobals(got, defined) || !sameGlobals(byHand, defined) {
		t.Fatalf("DefineGlobal(%+v, %.40q, %+v) = %+v, by hand %+v, not %+v", list, name, v, got, byHand, defined)
	}
	if got, byHand := impl.SetGlobal(list, name, v), wantDefine(list, name, v, true); !sameGlobals(got, set) || !sameGlobals(byHand, set) {
		t.Fatalf("SetGlobal(%+v, %.40q, %+v) = %+v, by hand %+v, not %+v", list, name, v, got, byHand, set)
	}
}

func checkSite(t *testing.T, list []impl.Global, name string, s impl.Site, want int64) {
	t.Helper()
	if got, byHand := impl.SiteFault(list, name, s), wantSiteFault(list, name, s); got != want || byHand != want {
		t.Fatalf("SiteFault(%+v, %.40q, %+v) = %d, by hand %d, not %d", list, name, s, got, byHand, want)
	}
}

func checkFetch(t *testing.T, list []impl.Global, name string, s impl.Site, want impl.FetchResult) {
	t.Helper()
	if got, byHand := impl.FetchSite(list, name, s), wantFetch(list, name, s); got != want || byHand != want {
		t.Fatalf("FetchSite(%+v, %.40q, %+v) = %+v, by hand %+v, not %+v", list, name, s, got, byHand, want)
	}
}

// checkAll holds all that is asked of a list, a name, a value and a site against what is reckoned by hand.
func checkAll(t *testing.T, list []impl.Global, name string, v impl.Value, s impl.Site) {
	t.Helper()
	if got, want := impl.GlobalsFault(list), wantGlobalsFault(list); got != want {
		t.Fatalf("GlobalsFault(%+v) = %d, not %d", list, got, want)
	}
	checkLook(t, list, name, wantLook(list, name))
	checkTurned(t, list, name, v, wantDefine(list, name, v, false), wantDefine(list, name, v, true))
	checkSite(t, list, name, s, wantSiteFault(list, name, s))
	checkFetch(t, list, name, s, wantFetch(list, name, s))
}

func TestNewGlobals(t *testing.T) {
	if impl.MaxGlobals != 60 {
		t.Errorf("MaxGlobals is %d", impl.MaxGlobals)
	}
	for _, version := range []int64{1, 2, 7, 256, 65536, 99998, 99999} {
		var want []impl.Global
		for prim, name := range primNames() {
			want = append(want, global(name, valPrim(int64(prim)), version))
		}
		if got := impl.NewGlobals(version); !sameGlobals(got, impl.GlobalsResult{Globals: want}) {
			t.Errorf("NewGlobals(%d) = %+v", version, got)
		}
		checkGlobals(t, want, impl.OK)
	}
	for _, version := range wrongVersions() {
		if got := impl.NewGlobals(version); got.Code != impl.ErrRange || got.Globals != nil {
			t.Errorf("NewGlobals(%d) = %+v", version, got)
		}
	}
}

func TestGlobalsFaultOne(t *testing.T) {
	checkGlobals(t, nil, impl.OK)
	checkGlobals(t, globals(), impl.OK)
	for _, v := range append(rightValues(), valPair(0), valPair(4000), valPair(99999)) {
		for _, version := range []int64{1, 2, 99998, 99999} {
			checkGlobals(t, globals(global("a", v, version)), impl.OK)
			checkGlobals(t, globals(global("abcdefghijkl", v, version), global("b", v, version)), impl.OK)
		}
	}
	// Keywords are symbols as well: what may be defined is asked where forms are expanded.
	for _, name := range append(allKeywords(), primNames()...) {
		checkGlobals(t, globals(global(name, valNil(), 1)), impl.OK)
	}
	good := globals(global("a", valNum(1), 1), global("b", valNil(), 99999))
	behind := func(g impl.Global) []impl.Global { return append(slices.Clone(good), g) }
	for _, name := range wrongNames() {
		checkGlobals(t, globals(global(name, valNum(1), 1)), impl.ErrText)
		checkGlobals(t, behind(global(name, valNum(1), 1)), impl.ErrText)
		checkGlobals(t, behind(global(name, impl.Value{}, 0)), impl.ErrText)
	}
	for _, w := range wrongValues() {
		checkGlobals(t, globals(global("c", w.value, 1)), w.code)
		checkGlobals(t, behind(global("c", w.value, 1)), w.code)
		checkGlobals(t, behind(global("c", w.value, 0)), w.code)
		checkGlobals(t, behind(global("a", w.value, 1)), w.code)
	}
	for _, version := range wrongVersions() {
		checkGlobals(t, globals(global("c", valNum(1), version)), impl.ErrRange)
		checkGlobals(t, behind(global("c", valNum(1), version)), impl.ErrRange)
		checkGlobals(t, behind(global("a", valNum(1), version)), impl.ErrRange)
	}
}

func TestGlobalsFaultTwice(t *testing.T) {
	a, b, c := global("a", valNum(1), 1), global("b", valNum(1), 1), global("c", valNil(), 5)
	for _, list := range [][]impl.Global{
		globals(a, a),
		globals(a, b, a),
		globals(a, b, c, b),
		globals(a, b, c, c),
		globals(a, global("a", valNum(2), 1)),
		globals(a, global("a", valNum(1), 2)),
		globals(a, global("a", valNil(), 99999)),
		append(someGlobals(59), global("gaa", valNum(1), 1)),
		append(someGlobals(59), global("gcg", valNum(1), 1)),
	} {
		checkGlobals(t, list, impl.ErrForm)
	}
	// Names that are near to each other are not the same.
	near := []string{"a", "aa", "aaa", "b", "ab", "ba", "abc", "acb", "a-b", "a+b", "aaaaaaaaaaaa", "aaaaaaaaaaab", "baaaaaaaaaaa", "aaaaaaaaaaa", "!", "!!", "?", "a?", "a!", "!!!!!!!!!!!!", "!!!!!!!!!!!?"}
	var list []impl.Global
	for _, name := range near {
		list = append(list, global(name, valNum(1), 1))
	}
	checkGlobals(t, list, impl.OK)
	for i, name := range near {
		checkLook(t, list[:i], name, impl.GlobalResult{Code: impl.ErrNone})
		checkLook(t, list, name, impl.GlobalResult{Global: list[i]})
	}
}

func TestGlobalsFaultMany(t *testing.T) {
	for _, count := range []int{0, 1, 58, 59, 60} {
		checkGlobals(t, someGlobals(count), impl.OK)
	}
	for _, count := range []int{61, 62, 100, 600} {
		checkGlobals(t, someGlobals(count), impl.ErrMany)
	}
	wrong := []impl.Global{global("A", valNum(1), 1), global("", impl.Value{}, 0), global("z", impl.Value{}, 1), global("z", valSym("A"), 1), global("z", valNum(1), 0), global("gaa", valNum(1), 1)}
	for _, g := range wrong {
		full, over := someGlobals(60), someGlobals(61)
		full[59], over[0], over[60] = g, g, g
		checkGlobals(t, full, wantGlobalsFault(globals(someGlobals(1)[0], g)))
		checkGlobals(t, over, impl.ErrMany)
	}
}

// The first global with a fault tells it, by the first of its faults.
func TestGlobalsFaultOrder(t *testing.T) {
	a := global("a", valNum(1), 1)
	text, form, span, version := global("A", valNum(1), 1), global("b", impl.Value{}, 1), global("b", valNum(impl.MaxNum+1), 1), global("b", valNum(1), 0)
	for _, c := range []struct {
		list []impl.Global
		want int64
	}{
		{globals(a, text, form), impl.ErrText},
		{globals(a, form, text), impl.ErrForm},
		{globals(a, span, text), impl.ErrRange},
		{globals(a, version, text), impl.ErrRange},
		{globals(a, a, text), impl.ErrForm},
		{globals(text, a, a), impl.ErrText},
		{globals(version, a, a), impl.ErrRange},
		{globals(a, a, version), impl.ErrForm},
		{globals(global("A", impl.Value{}, 0)), impl.ErrText},
		{globals(global("b", impl.Value{}, 0)), impl.ErrForm},
		{globals(global("b", valSym("A"), 0)), impl.ErrText},
		{globals(global("A", valNum(1), 1), global("A", valNum(1), 1)), impl.ErrText},
		{globals(a, global("a", valNum(1), 0)), impl.ErrRange},
		{globals(a, global("a", valNum(1), 100000)), impl.ErrRange},
		{globals(a, global("a", valSym(""), 0)), impl.ErrText},
		{globals(a, global("a", impl.Value{Kind: 10}, 100000)), impl.ErrForm},
	} {
		checkGlobals(t, c.list, c.want)
	}
}

func TestGlobalsFaultShort(t *testing.T) {
	var pool []impl.Global
	for _, name := range []string{"a", "b", "A"} {
		for _, v := range values(valNum(1), valSym("A"), impl.Value{}) {
			for _, version := range []int64{0, 1, 99999} {
				pool = append(pool, global(name, v, version))
			}
		}
	}
	for _, x := range pool {
		checkGlobals(t, globals(x), wantGlobalsFault(globals(x)))
		for _, y := range pool {
			checkGlobals(t, globals(x, y), wantGlobalsFault(globals(x, y)))
		}
	}
}

func TestLookGlobal(t *testing.T) {
	checkLook(t, nil, "a", impl.GlobalResult{Code: impl.ErrNone})
	for _, count := range []int{1, 2, 59, 60} {
		list := someGlobals(count)
		for _, g := range list {
			checkLook(t, list, g.Name, impl.GlobalResult{Global: g})
		}
		for _, name := range []string{"a", "g", "ga", "gaaa", "gzz", "car", "if", "aaaaaaaaaaaa"} {
			checkLook(t, list, name, impl.GlobalResult{Code: impl.ErrNone})
		}
		for _, name := range wrongNames() {
			checkLook(t, list, name, impl.GlobalResult{Code: impl.ErrText})
		}
	}
	for _, v := range append(rightValues(), valPair(0), valPair(99999)) {
		g := global("x", v, 99999)
		checkLook(t, globals(global("y", valNil(), 1), g), "x", impl.GlobalResult{Global: g})
	}
}

func TestDefineNew(t *testing.T) {
	none := impl.GlobalsResult{Code: impl.ErrNone}
	for _, v := range append(rightValues(), valPair(0), valPair(99999)) {
		for _, count := range []int{0, 1, 16, 58, 59} {
			list := someGlobals(count)
			checkTurned(t, list, "new", v, impl.GlobalsResult{Globals: append(slices.Clone(list), global("new", v, 1))}, none)
		}
		checkTurned(t, someGlobals(60), "new", v, impl.GlobalsResult{Code: impl.ErrMany}, none)
	}
	// One by one until there is no room.
	var list []impl.Global
	for i, g := range someGlobals(60) {
		made := impl.DefineGlobal(list, g.Name, g.Value)
		if made.Code != impl.OK || len(made.Globals) != i+1 || made.Globals[i] != global(g.Name, g.Value, 1) || !slices.Equal(made.Globals[:i], list) {
			t.Fatalf("of %d: %+v", i, made)
		}
		list = made.Globals
	}
	if got := impl.DefineGlobal(list, "new", valNil()); got.Code != impl.ErrMany || got.Globals != nil {
		t.Errorf("one more: %+v", got)
	}
}

// A name that is there already, with room, with just room enough and with none: nothing is added.
func TestDefineAgain(t *testing.T) {
	for _, count := range []int{1, 2, 59, 60} {
		list := someGlobals(count)
		for at, g := range list {
			for _, v := range values(valNum(7), valNil(), g.Value, valSym("gaa"), valPair(3)) {
				want := slices.Clone(list)
				want[at] = global(g.Name, v, g.Version+1)
				checkTurned(t, list, g.Name, v, impl.GlobalsResult{Globals: want}, impl.GlobalsResult{Globals: want})
			}
		}
	}
}

func TestDefineVersions(t *testing.T) {
	span := impl.GlobalsResult{Code: impl.ErrRange}
	for _, count := range []int{1, 2, 59, 60} {
		for _, at := range []int{0, count / 2, count - 1} {
			list := someGlobals(count)
			name := list[at].Name
			for _, version := range []int64{1, 2, 255, 65535, 99997, 99998} {
				list[at].Version = version
				want := slices.Clone(list)
				want[at] = global(name, valNil(), version+1)
				checkTurned(t, list, name, valNil(), impl.GlobalsResult{Globals: want}, impl.GlobalsResult{Globals: want})
			}
			list[at].Version = 99999
			checkTurned(t, list, name, valNil(), span, span)
			checkTurned(t, list, name, list[at].Value, span, span)
			checkTurned(t, list, name, impl.Value{}, impl.GlobalsResult{Code: impl.ErrForm}, impl.GlobalsResult{Code: impl.ErrForm})
			// The greatest version of one global is nothing to the others.
			if other := (at + 1) % count; other != at {
				checkTurned(t, list, list[other].Name, valNil(), wantDefine(list, list[other].Name, valNil(), false), wantDefine(list, list[other].Name, valNil(), true))
			}
		}
	}
	// The greatest version is asked of what is there, the room of what is not.
	full := someGlobals(60)
	for i := range full {
		full[i].Version = 99999
	}
	checkTurned(t, full, "gaa", valNil(), span, span)
	checkTurned(t, full, "new", valNil(), impl.GlobalsResult{Code: impl.ErrMany}, impl.GlobalsResult{Code: impl.ErrNone})
}

func TestDefineWrong(t *testing.T) {
	fail := func(code int64) impl.GlobalsResult { return impl.GlobalsResult{Code: code} }
	top := someGlobals(60)
	top[0].Version = 99999
	for _, list := range [][]impl.Global{nil, someGlobals(2), someGlobals(59), someGlobals(60), top} {
		for _, name := range wrongNames() {
			checkTurned(t, list, name, valNum(1), fail(impl.ErrText), fail(impl.ErrText))
			checkTurned(t, list, name, impl.Value{}, fail(impl.ErrText), fail(impl.ErrText))
			checkTurned(t, list, name, valNum(impl.MaxNum+1), fail(impl.ErrText), fail(impl.ErrText))
		}
		// A fault of the value ahead of a name of no global, of no room and of the greatest version.
		for _, w := range wrongValues() {
			checkTurned(t, list, "new", w.value, fail(w.code), fail(w.code))
			checkTurned(t, list, "gaa", w.value, fail(w.code), fail(w.code))
		}
	}
}

func TestSiteFault(t *testing.T) {
	list := globals(global("b", valNum(5), 3), global("a", valNum(7), 4), global("c", valSym("x"), 99999))
	nothing := impl.Value{}
	for _, c := range []struct {
		name string
		site impl.Site
		want int64
	}{
		{"a", site(0, nothing), impl.OK},
		{"a", site(4, valNum(7)), impl.OK},
		{"a", site(4, valNum(5)), impl.ErrForm},
		{"a", site(4, valNil()), impl.ErrForm},
		{"a", site(4, nothing), impl.ErrForm},
		{"a", site(3, valNum(7)), impl.OK},
		{"a", site(3, valNum(5)), impl.OK},
		{"a", site(5, valNum(7)), impl.OK},
		{"a", site(5, valNum(5)), impl.OK},
		{"a", site(1, valNil()), impl.OK},
		{"a", site(99999, valSym("x")), impl.OK},
		{"b", site(3, valNum(5)), impl.OK},
		{"b", site(3, valNum(7)), impl.ErrForm},
		{"b", site(4, valNum(7)), impl.OK},
		{"c", site(99999, valSym("x")), impl.OK},
		{"c", site(99999, valSym("xx")), impl.ErrForm},
		{"c", site(99999, valSym("y")), impl.ErrForm},
		{"c", site(99998, valSym("y")), impl.OK},
		// Of no global any version can have been.
		{"d", site(0, nothing), impl.OK},
		{"d", site(4, valNum(7)), impl.OK},
		{"d", site(99999, valNil()), impl.OK},
		{"d", site(3, valNum(8)), impl.OK},
		{"d", site(0, valNum(7)), impl.ErrForm},
		{"d", site(-1, nothing), impl.ErrRange},
	} {
		checkSite(t, list, c.name, c.site, c.want)
		checkFetch(t, list, c.name, c.site, wantFetch(list, c.name, c.site))
	}
}

func TestSiteWrong(t *testing.T) {
	list := globals(global("a", valNum(7), 4), global("b", valNum(7), 5))
	fails := func(name string, s impl.Site, code int64) {
		t.Helper()
		checkSite(t, list, name, s, code)
		checkFetch(t, list, name, s, impl.FetchResult{Code: code})
	}
	for _, name := range []string{"a", "b", "d"} {
		for _, version := range []int64{-1, -4, 100000, 100001, 1<<32 + 4, math.MaxInt64, math.MinInt64} {
			fails(name, site(version, valNum(7)), impl.ErrRange)
			fails(name, site(version, impl.Value{}), impl.ErrRange)
			fails(name, site(version, valSym("A")), impl.ErrRange)
		}
		for _, w := range wrongValues() {
			for _, version := range []int64{1, 3, 4, 5, 99999} {
				fails(name, site(version, w.value), w.code)
			}
			// Where nothing is remembered the value is not asked for its own fault.
			if w.value != (impl.Value{}) {
				fails(name, site(0, w.value), impl.ErrForm)
			}
		}
		for _, v := range append(rightValues(), valPair(0), impl.Value{Num: 1}, impl.Value{Name: "a"}, impl.Value{Name: "A"}) {
			fails(name, site(0, v), impl.ErrForm)
		}
	}
	for _, name := range wrongNames() {
		for _, s := range []impl.Site{{}, site(4, valNum(7)), site(4, valNum(8)), site(-1, valNil()), site(1, valSym("A")), site(0, valNil())} {
			fails(name, s, impl.ErrText)
		}
	}
}

func TestFetchSite(t *testing.T) {
	list := globals(global("b", valNum(5), 3), global("a", valNum(7), 4), global("c", valSym("x"), 99999))
	told := func(hit bool, v impl.Value, version int64) impl.FetchResult {
		return impl.FetchResult{Hit: hit, Value: v, Site: site(version, v)}
	}
	none := impl.FetchResult{Code: impl.ErrNone}
	for _, c := range []struct {
		name string
		site impl.Site
		want impl.FetchResult
	}{
		{"a", impl.Site{}, told(false, valNum(7), 4)},
		{"a", site(4, valNum(7)), told(true, valNum(7), 4)},
		{"a", site(3, valNum(5)), told(false, valNum(7), 4)},
		{"a", site(3, valNum(7)), told(false, valNum(7), 4)},
		{"a", site(5, valNum(9)), told(false, valNum(7), 4)},
		{"a", site(5, valNum(7)), told(false, valNum(7), 4)},
		{"a", site(99999, valNil()), told(false, valNum(7), 4)},
		{"a", site(4, valNum(5)), impl.FetchResult{Code: impl.ErrForm}},
		{"b", site(3, valNum(5)), told(true, valNum(5), 3)},
		{"b", site(4, valNum(7)), told(false, valNum(5), 3)},
		{"c", site(99999, valSym("x")), told(true, valSym("x"), 99999)},
		{"c", impl.Site{}, told(false, valSym("x"), 99999)},
		{"d", impl.Site{}, none},
		{"d", site(4, valNum(7)), none},
		{"d", site(1, valNil()), none},
		{"d", site(0, valNil()), impl.FetchResult{Code: impl.ErrForm}},
	} {
		checkFetch(t, list, c.name, c.site, c.want)
	}
	checkFetch(t, nil, "a", impl.Site{}, none)
	checkFetch(t, nil, "a", site(1, valNil()), none)
	for _, v := range append(rightValues(), valPair(0), valPair(99999)) {
		for _, version := range []int64{1, 2, 99998, 99999} {
			list := append(someGlobals(59), global("x", v, version))
			checkFetch(t, list, "x", impl.Site{}, told(false, v, version))
			checkFetch(t, list, "x", site(version, v), told(true, v, version))
			checkFetch(t, list, "x", site(version/2+7, v), told(false, v, version))
		}
	}
}

// globals: a list with few names, versions near to each other, and now and then a fault.
func (s *dice) globals(most int, faults []wrongValue) []impl.Global {
	names := []string{"a", "b", "c", "aa", "ab", "ba", "+", "car", "set!", "call/cc", "abcdefghijkl", "x", "y", "z"}
	s.mix(names)
	leaves := rightValues()
	var list []impl.Global
	for i := range s.next(most + 1) {
		version := int64(s.next(4) + 1)
		if s.next(6) == 0 {
			version = 99999 - int64(s.next(2))
		}
		g := global(names[i%len(names)], leaves[s.next(len(leaves))], version)
		switch s.next(60) {
		case 0:
			g.Name = wrongNames()[s.next(len(wrongNames()))]
		case 1:
			g.Value = faults[s.next(len(faults))].value
		case 2:
			g.Version = wrongVersions()[s.next(len(wrongVersions()))]
		case 3:
			g.Name = names[s.next(len(names))]
		}
		list = append(list, g)
	}
	return list
}

func TestGlobalsSome(t *testing.T) {
	s := dice(70707)
	faults, leaves, seen := wrongValues(), rightValues(), map[int64]int{}
	for range 6000 {
		list := s.globals(14, faults)
		name, v, remembered := "none", leaves[s.next(len(leaves))], impl.Site{}
		if len(list) > 0 && s.next(5) > 0 {
			g := list[s.next(len(list))]
			name, remembered = g.Name, site(g.Version, g.Value)
		}
		switch s.next(8) {
		case 0:
			v = faults[s.next(len(faults))].value
			remembered.Value = v
		case 1:
			remembered.Version += int64(s.next(5) - 2)
		case 2:
			remembered.Version = int64(s.next(5))
		case 3:
			remembered = impl.Site{}
		case 4:
			remembered.Value = leaves[s.next(len(leaves))]
		}
		checkAll(t, list, name, v, remembered)
		seen[wantFetch(list, name, remembered).Code]++
	}
	for _, code := range []int64{impl.OK, impl.ErrForm, impl.ErrRange, impl.ErrNone, impl.ErrText} {
		if seen[code] < 20 {
			t.Errorf("the code %d was seen %d times", code, seen[code])
		}
	}
}

// spoilGlobals writes into an answer, also where it has room behind its end.
func spoilGlobals(list []impl.Global) {
	list = list[:cap(list)]
	for i := range list {
		list[i] = global("changed", impl.Value{Kind: -1}, -7)
	}
}

// checkNewNames asks the names of an answer whether they are in memory that no argument has.
func checkNewNames(t *testing.T, given []impl.Global, others []string, answer ...impl.Global) {
	t.Helper()
	for _, g := range given {
		others = append(others, g.Name, g.Value.Name)
	}
	for _, a := range answer {
		for _, name := range others {
			if !apart(a.Name, name) || !apart(a.Value.Name, name) {
				t.Fatalf("the name %q is handed on", name)
			}
		}
	}
}

// Promise 1: the same again behind other calls, in new memory that can be written into, and no argument is changed.
func TestPromise1Globals(t *testing.T) {
	s := dice(171717)
	faults := wrongValues()
	lists := [][]impl.Global{nil, someGlobals(59), someGlobals(60), someGlobals(61), globals(global("sym", valSym("value"), 1), global("other", valSym("another"), 2))}
	for range 150 {
		lists = append(lists, s.globals(12, faults))
	}
	for _, given := range lists {
		list := append(make([]impl.Global, 0, len(given)+5), cloneGlobals(given)...)
		kept := cloneGlobals(list)
		for _, asked := range []string{"sym", "new", "gaa", "gch", "car", "a", "abcdefghijkl", "A", ""} {
			name, v := strings.Clone(asked), valSym(strings.Clone("word"))
			remembered := site(1, valSym(strings.Clone("value")))
			defined, set, look := impl.DefineGlobal(list, name, v), impl.SetGlobal(list, name, v), impl.LookGlobal(list, name)
			fetched, first := impl.FetchSite(list, name, remembered), impl.FetchSite(list, name, impl.Site{})
			others := []string{name, v.Name, remembered.Value.Name}
			checkNewNames(t, list, others, append(defined.Globals, set.Globals...)...)
			checkNewNames(t, list, others, look.Global, global("", fetched.Value, 0), global("", fetched.Site.Value, 0), global("", first.Value, 0), global("", first.Site.Value, 0))
			spoilGlobals(defined.Globals)
			spoilGlobals(set.Globals)
			if !slices.Equal(list, kept) || !slices.Equal(list[:cap(list)][len(list):], make([]impl.Global, cap(list)-len(list))) {
				t.Fatalf("the globals are changed: %+v", list)
			}
			checkAll(t, list, name, v, remembered)
			checkAll(t, list, name, v, impl.Site{})
		}
	}
	for range 3 {
		made := impl.NewGlobals(1)
		if made.Code != impl.OK || len(made.Globals) != 16 || made.Globals[8] != global("car", valPrim(8), 1) {
			t.Fatalf("NewGlobals(1) = %+v", made)
		}
		spoilGlobals(made.Globals)
	}
}

// Promise 8: what is defined is there, with another version, and all others stay.
func TestPromise8Defined(t *testing.T) {
	s := dice(8888)
	leaves := append(rightValues(), valPair(0), valPair(99999))
	names := append(primNames(), "a", "b", "aa", "x", "abcdefghijkl", "set!", "if")
	for _, g := range someGlobals(45) {
		names = append(names, g.Name)
	}
	for _, turn := range []func([]impl.Global, string, impl.Value) impl.GlobalsResult{impl.DefineGlobal, impl.SetGlobal} {
		list := impl.NewGlobals(99900).Globals
		for range 2500 {
			name, v := names[s.next(len(names))], leaves[s.next(len(leaves))]
			before := impl.LookGlobal(list, name)
			made := turn(list, name, v)
			if made.Code != impl.OK {
				continue
			}
			after := impl.LookGlobal(made.Globals, name)
			if after.Code != impl.OK || after.Global.Value != v || after.Global.Version == before.Global.Version || impl.GlobalsFault(made.Globals) != impl.OK {
				t.Fatalf("%q of %+v: %+v ahead, %+v behind", name, v, before, after)
			}
			for i, g := range list {
				if g.Name != name && made.Globals[i] != g || g.Name == name && made.Globals[i] != after.Global {
					t.Fatalf("behind %q the global %+v is %+v", name, g, made.Globals[i])
				}
			}
			if more := len(made.Globals) - len(list); more != 0 && before.Code == impl.OK || more > 1 || more < 0 {
				t.Fatalf("%d more globals behind %q", more, name)
			}
			list = made.Globals
		}
	}
}

// Promise 8: sites that are handed on from fetch to fetch tell what the global is, whatever is defined between.
func TestPromise8Fetched(t *testing.T) {
	s := dice(1888)
	leaves := rightValues()
	for _, start := range []int64{1, 99990} {
		list := impl.NewGlobals(start).Globals
		names := append(primNames(), "new", "other")
		sites := make([]impl.Site, 3*len(names))
		hits := 0
		for range 4000 {
			at := s.next(len(sites))
			name := names[at%len(names)]
			look, got := impl.LookGlobal(list, name), impl.FetchSite(list, name, sites[at])
			if got.Code != look.Code || got.Value != look.Global.Value {
				t.Fatalf("%q is fetched as %+v, and is %+v", name, got, look)
			}
			if look.Code == impl.OK {
				if got.Hit != (sites[at].Version == look.Global.Version) || got.Site != site(look.Global.Version, look.Global.Value) || impl.SiteFault(list, name, got.Site) != impl.OK {
					t.Fatalf("%q by %+v: %+v", name, sites[at], got)
				}
				if again := impl.FetchSite(list, name, got.Site); !again.Hit || again.Value != got.Value || again.Site != got.Site {
					t.Fatalf("%q once more: %+v", name, again)
				}
				sites[at] = got.Site
			}
			if got.Hit {
				hits++
			}
			if s.next(4) == 0 {
				if made := impl.DefineGlobal(list, names[s.next(len(names))], leaves[s.next(len(leaves))]); made.Code == impl.OK {
					list = made.Globals
				}
			}
		}
		if hits == 0 || hits == 4000 {
			t.Errorf("%d hits", hits)
		}
	}
}

// Promise 8: also where the same value is defined once more, a site has to look again, and finds it.
func TestPromise8SameValue(t *testing.T) {
	list := impl.NewGlobals(1).Globals
	first := impl.FetchSite(list, "car", impl.Site{})
	again := impl.DefineGlobal(list, "car", first.Value).Globals
	second := impl.FetchSite(again, "car", first.Site)
	if first.Hit || second.Hit || second.Value != first.Value || second.Site.Version != 2 {
		t.Errorf("%+v, then %+v", first, second)
	}
	// A definition of another name leaves the site as it is.
	other := impl.DefineGlobal(list, "cdr", valNil()).Globals
	if got := impl.FetchSite(other, "car", first.Site); !got.Hit || got.Value != first.Value || got.Site != first.Site {
		t.Errorf("behind another name: %+v", got)
	}
	// What a site remembers of a later version is not what an earlier list has.
	if got := impl.FetchSite(list, "car", second.Site); got.Hit || got.Value != first.Value || got.Site != first.Site {
		t.Errorf("ahead of it: %+v", got)
	}
}

// Promise 8: at the beginning each primitive is known by its name, and nothing else is.
func TestPromise8Beginning(t *testing.T) {
	for _, version := range []int64{1, 2, 99999} {
		list := impl.NewGlobals(version).Globals
		if len(list) != 16 || impl.GlobalsFault(list) != impl.OK {
			t.Fatalf("at the beginning: %+v", list)
		}
		for prim := int64(0); prim <= 15; prim++ {
			name := impl.PrimText(prim).Text
			want := global(name, valPrim(prim), version)
			if got := impl.LookGlobal(list, name); got != (impl.GlobalResult{Global: want}) {
				t.Errorf("%q is %+v", name, got)
			}
			if got := impl.FetchSite(list, name, impl.Site{}); got != (impl.FetchResult{Value: want.Value, Site: site(version, want.Value)}) {
				t.Errorf("%q is fetched as %+v", name, got)
			}
		}
		const letters = "abcdefghijklmnopqrstuvwxyz+-*/<=?!"
		names := append(allKeywords(), "none", "cons?", "null", "pair", "call", "cadr", "list?", "abcdefghijkl", "callcc", "eq")
		for _, a := range letters {
			for _, b := range " " + letters {
				names = append(names, strings.TrimSpace(string(a)+string(b)))
			}
		}
		for _, name := range names {
			if slices.Contains(primNames(), name) {
				continue
			}
			if got := impl.LookGlobal(list, name); got != (impl.GlobalResult{Code: impl.ErrNone}) {
				t.Errorf("%q is %+v", name, got)
			}
			if got := impl.FetchSite(list, name, impl.Site{}); got != (impl.FetchResult{Code: impl.ErrNone}) {
				t.Errorf("%q is fetched as %+v", name, got)
			}
		}
	}
}
