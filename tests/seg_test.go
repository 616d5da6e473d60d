package tests

import (
	"fmt"
	"math"
	"slices"
	"strings"
	"testing"

	"loop.example/g00349/impl"
)

// segsText: the size, a colon, and the items, with a bar between two parts.
func segsText(s impl.Segs) string {
	var parts []string
	for _, part := range s.Parts {
		parts = append(parts, strings.Trim(fmt.Sprint(part.Items), "[]"))
	}
	return strings.TrimSuffix(fmt.Sprintf("%d: %s", s.Size, strings.Join(parts, " | ")), " ")
}

// segsIn reads what segsText writes; two bars side by side have a part of no items between.
func segsIn(text string) impl.Segs {
	size, rest, _ := strings.Cut(text, ":")
	s := impl.Segs{Size: intOf(size)}
	if strings.TrimSpace(rest) == "" {
		return s
	}
	for _, part := range strings.Split(rest, "|") {
		var items []int64
		for _, item := range strings.Fields(part) {
			items = append(items, intOf(item))
		}
		s.Parts = append(s.Parts, impl.SegPart{Items: items})
	}
	return s
}

// segsOfCounts: parts of so many items each, which are counted through.
func segsOfCounts(size int64, counts ...int) impl.Segs {
	s := impl.Segs{Size: size}
	next := int64(100)
	for _, count := range counts {
		var part impl.SegPart
		for range count {
			part.Items = append(part.Items, next)
			next++
		}
		s.Parts = append(s.Parts, part)
	}
	return s
}

func cloneSegs(s impl.Segs) impl.Segs {
	parts := slices.Clone(s.Parts)
	for i := range parts {
		parts[i].Items = slices.Clone(parts[i].Items)
	}
	return impl.Segs{Size: s.Size, Parts: parts}
}

func equalSegs(a, b impl.Segs) bool {
	return a.Size == b.Size && slices.EqualFunc(a.Parts, b.Parts, func(p, q impl.SegPart) bool { return slices.Equal(p.Items, q.Items) })
}

func equalSegsResults(a, b impl.SegsResult) bool {
	return a.Code == b.Code && a.Value == b.Value && equalSegs(a.Segs, b.Segs)
}

// itemsByHand: all items of a stack, whatever its parts are like.
func itemsByHand(s impl.Segs) []int64 {
	var list []int64
	for _, part := range s.Parts {
		list = append(list, part.Items...)
	}
	return list
}

// openByHand puts one item behind the other into the part that it is in by its place.
func openByHand(size int64, list []int64) impl.SegsResult {
	if size < 1 || size > 64 {
		return impl.SegsResult{Code: impl.ErrRange}
	}
	if len(list) > 4000 {
		return impl.SegsResult{Code: impl.ErrMany}
	}
	s := impl.Segs{Size: size, Parts: make([]impl.SegPart, (len(list)+int(size)-1)/int(size))}
	for i, item := range list {
		part := &s.Parts[i/int(size)]
		part.Items = append(part.Items, item)
	}
	return impl.SegsResult{Segs: s}
}

// segsFaultByHand asks whether a stack is the one that its items make, but for how many they are.
func segsFaultByHand(s impl.Segs) int64 {
	if s.Size < 1 || s.Size > 64 {
		return impl.ErrRange
	}
	for i, part := range s.Parts {
		isLast := i == len(s.Parts)-1
		if !isLast && len(part.Items) != int(s.Size) || isLast && (len(part.Items) == 0 || len(part.Items) > int(s.Size)) {
			return impl.ErrForm
		}
	}
	if len(itemsByHand(s)) > 4000 {
		return impl.ErrMany
	}
	return impl.OK
}

func pushByHand(s impl.Segs, item int64) impl.SegsResult {
	if fault := segsFaultByHand(s); fault != impl.OK {
		return impl.SegsResult{Code: fault}
	}
	return openByHand(s.Size, append(itemsByHand(s), item))
}

func popByHand(s impl.Segs) impl.SegsResult {
	if fault := segsFaultByHand(s); fault != impl.OK {
		return impl.SegsResult{Code: fault}
	}
	list := itemsByHand(s)
	if len(list) == 0 {
		return impl.SegsResult{Code: impl.ErrNone}
	}
	left := openByHand(s.Size, list[:len(list)-1])
	left.Value = list[len(list)-1]
	return left
}

func resizeByHand(s impl.Segs, size int64) impl.SegsResult {
	if fault := segsFaultByHand(s); fault != impl.OK {
		return impl.SegsResult{Code: fault}
	}
	return openByHand(size, itemsByHand(s))
}

func shortSegs(s impl.Segs) string { return fmt.Sprintf("%.200s", segsText(s)) }

func checkOpen(t *testing.T, size int64, list []int64) {
	t.Helper()
	if got, want := impl.OpenSegs(size, list), openByHand(size, list); !equalSegsResults(got, want) {
		t.Fatalf("OpenSegs(%d, %d items) = %d, %s, not %d, %s", size, len(list), got.Code, shortSegs(got.Segs), want.Code, shortSegs(want.Segs))
	}
}

// checkSegs asks every function about one stack, whether it has a fault or not, and tells the fault.
func checkSegs(t *testing.T, s impl.Segs, sizes ...int64) int64 {
	t.Helper()
	kept := cloneSegs(s)
	fault := segsFaultByHand(s)
	if got := impl.SegsFault(s); got != fault {
		t.Fatalf("SegsFault(%s) = %d, not %d", shortSegs(s), got, fault)
	}
	list, depth := impl.IntsResult{Code: fault}, impl.IntResult{Code: fault}
	if fault == impl.OK {
		list.List, depth.Value = itemsByHand(s), int64(len(itemsByHand(s)))
	}
	if got := impl.ListSegs(s); got.Code != list.Code || !slices.Equal(got.List, list.List) {
		t.Fatalf("ListSegs(%s) = %.200s, not %.200s", shortSegs(s), fmt.Sprint(got), fmt.Sprint(list))
	}
	if got := impl.DepthSegs(s); got != depth {
		t.Fatalf("DepthSegs(%s) = %+v, not %+v", shortSegs(s), got, depth)
	}
	for _, item := range []int64{7, 0, math.MinInt64, math.MaxInt64} {
		if got, want := impl.PushSegs(s, item), pushByHand(s, item); !equalSegsResults(got, want) {
			t.Fatalf("PushSegs(%s, %d) = %d, %d, %s, not %d, %s", shortSegs(s), item, got.Code, got.Value, shortSegs(got.Segs), want.Code, shortSegs(want.Segs))
		}
	}
	if got, want := impl.PopSegs(s), popByHand(s); !equalSegsResults(got, want) {
		t.Fatalf("PopSegs(%s) = %d, %d, %s, not %d, %d, %s", shortSegs(s), got.Code, got.Value, shortSegs(got.Segs), want.Code, want.Value, shortSegs(want.Segs))
	}
	for _, size := range sizes {
		if got, want := impl.ResizeSegs(s, size), resizeByHand(s, size); !equalSegsResults(got, want) {
			t.Fatalf("ResizeSegs(%s, %d) = %d, %s, not %d, %s", shortSegs(s), size, got.Code, shortSegs(got.Segs), want.Code, shortSegs(want.Segs))
		}
	}
	if !equalSegs(s, kept) {
		t.Fatalf("%s is changed to %s", shortSegs(kept), shortSegs(s))
	}
	return fault
}

func segSizes() []int64 { return []int64{1, 2, 3, 63, 64} }

func noSegSizes() []int64 {
	return []int64{0, -1, 65, -2, 66, -64, 128, 1<<32 + 1, 1 << 62, math.MinInt64, math.MinInt64 + 1, math.MaxInt64, 1<<63 - 64}
}

// upTo: so many items, no two alike, the least and the greatest number among them.
func upTo(count int) []int64 {
	var list []int64
	for i := range count {
		list = append(list, []int64{int64(i) + 1, -int64(i), math.MaxInt64 - int64(i), math.MinInt64 + int64(i)}[i%4])
	}
	return list
}

func wantSegs(t *testing.T, got impl.SegsResult, value int64, text string) {
	t.Helper()
	if got.Code != impl.OK || got.Value != value || segsText(got.Segs) != text {
		t.Errorf("%d, %d, %s, not 0, %d, %s", got.Code, got.Value, segsText(got.Segs), value, text)
	}
}

func wantNoSegs(t *testing.T, got impl.SegsResult, code int64) {
	t.Helper()
	if got.Code != code || got.Value != 0 || got.Segs.Size != 0 || got.Segs.Parts != nil {
		t.Errorf("%d, %d, %s, not %d and all else zero", got.Code, got.Value, shortSegs(got.Segs), code)
	}
}

func TestSegsExamples(t *testing.T) {
	wantSegs(t, impl.OpenSegs(2, []int64{1, 2, 3}), 0, "2: 1 2 | 3")
	wantSegs(t, impl.OpenSegs(2, []int64{1, 2, 3, 4}), 0, "2: 1 2 | 3 4")
	wantSegs(t, impl.OpenSegs(1, []int64{1, 2, 3}), 0, "1: 1 | 2 | 3")
	wantSegs(t, impl.OpenSegs(3, []int64{5}), 0, "3: 5")
	wantSegs(t, impl.OpenSegs(64, nil), 0, "64:")
	wantSegs(t, impl.OpenSegs(1, []int64{}), 0, "1:")
	wantSegs(t, impl.PushSegs(segsIn("2: 1 2 | 3"), 4), 0, "2: 1 2 | 3 4")
	wantSegs(t, impl.PushSegs(segsIn("2: 1 2 | 3 4"), 5), 0, "2: 1 2 | 3 4 | 5")
	wantSegs(t, impl.PushSegs(segsIn("2:"), 5), 0, "2: 5")
	wantSegs(t, impl.PushSegs(segsIn("1: 4"), 5), 0, "1: 4 | 5")
	wantSegs(t, impl.PopSegs(segsIn("2: 1 2 | 3")), 3, "2: 1 2")
	wantSegs(t, impl.PopSegs(segsIn("2: 1 2 | 3 4")), 4, "2: 1 2 | 3")
	wantSegs(t, impl.PopSegs(segsIn("2: 1 2")), 2, "2: 1")
	wantSegs(t, impl.PopSegs(segsIn("2: 1")), 1, "2:")
	wantSegs(t, impl.PopSegs(segsIn("1: 4 | 5")), 5, "1: 4")
	wantSegs(t, impl.PopSegs(segsIn("64: -9223372036854775808 9223372036854775807")), math.MaxInt64, "64: -9223372036854775808")
	wantSegs(t, impl.ResizeSegs(segsIn("2: 1 2 | 3 4"), 3), 0, "3: 1 2 3 | 4")
	wantSegs(t, impl.ResizeSegs(segsIn("2: 1 2 | 3"), 1), 0, "1: 1 | 2 | 3")
	wantSegs(t, impl.ResizeSegs(segsIn("1: 1 | 2 | 3"), 64), 0, "64: 1 2 3")
	wantSegs(t, impl.ResizeSegs(segsIn("2: 1 2 | 3"), 2), 0, "2: 1 2 | 3")
	wantSegs(t, impl.ResizeSegs(segsIn("5:"), 6), 0, "6:")
	wantNoSegs(t, impl.PopSegs(segsIn("1:")), impl.ErrNone)
	wantNoSegs(t, impl.PopSegs(impl.Segs{Size: 64, Parts: []impl.SegPart{}}), impl.ErrNone)
	wantNoSegs(t, impl.OpenSegs(0, nil), impl.ErrRange)
	wantNoSegs(t, impl.OpenSegs(65, []int64{1}), impl.ErrRange)
	wantNoSegs(t, impl.ResizeSegs(segsIn("2: 1 2 | 3"), 0), impl.ErrRange)
	wantNoSegs(t, impl.ResizeSegs(segsIn("2: 1 2 | 3"), 65), impl.ErrRange)
	if got := impl.ListSegs(segsIn("2: 1 2 | 3")); got.Code != impl.OK || !slices.Equal(got.List, []int64{1, 2, 3}) {
		t.Errorf("ListSegs: %+v", got)
	}
	if got := impl.DepthSegs(segsIn("2: 1 2 | 3")); got != (impl.IntResult{Value: 3}) {
		t.Errorf("DepthSegs: %+v", got)
	}
	if got := impl.DepthSegs(segsIn("2:")); got != (impl.IntResult{}) {
		t.Errorf("DepthSegs of none: %+v", got)
	}
}

func TestSegsFaultExamples(t *testing.T) {
	for text, want := range map[string]int64{
		"1:": impl.OK, "64:": impl.OK, "0:": impl.ErrRange, "-1:": impl.ErrRange, "65:": impl.ErrRange,
		"1: 5": impl.OK, "1: 5 6": impl.ErrForm, "1: 5 | 6": impl.OK, "1: 5 | 6 7": impl.ErrForm, "1: 5 6 | 7": impl.ErrForm,
		"2: 5": impl.OK, "2: 5 6": impl.OK, "2: 5 6 7": impl.ErrForm, "2: 5 | 6": impl.ErrForm, "2: 5 | 6 7": impl.ErrForm,
		"3: 1 2 3 | 4 5 6 | 7": impl.OK, "3: 1 2 3 | 4 5 6 | 7 8": impl.OK, "3: 1 2 3 | 4 5 6 | 7 8 9": impl.OK,
		"3: 1 2 3 | 4 5 6 | 7 8 9 10": impl.ErrForm, "3: 1 2 3 | 4 5 | 6": impl.ErrForm, "3: 1 2 3 | 4 5 6 7 | 8": impl.ErrForm,
		"3: 1 2 | 4 5 6 | 7": impl.ErrForm, "3: 1 2 3 4 | 5 6 7 | 8": impl.ErrForm,
		"3: | 1": impl.ErrForm, "3: 1 2 3 |": impl.ErrForm, "3: 1 2 3 | | 4": impl.ErrForm, "1: |": impl.ErrForm,
	} {
		s := segsIn(text)
		if got := impl.SegsFault(s); got != want {
			t.Errorf("SegsFault(%s) = %d, not %d", text, got, want)
		}
		checkSegs(t, s, 0, 1, 2, 3, 64, 65)
	}
	for _, parts := range [][]impl.SegPart{{{}}, {{Items: []int64{}}}} {
		for _, size := range segSizes() {
			if got := checkSegs(t, impl.Segs{Size: size, Parts: parts}, 1); got != impl.ErrForm {
				t.Errorf("a part of no items as the only one, size %d: %d", size, got)
			}
		}
	}
}

func TestSegsSizes(t *testing.T) {
	for size := int64(-3); size <= 70; size++ {
		right := size >= 1 && size <= 64
		for _, count := range []int{0, 1, 2, 63, 64, 65, 130} {
			checkOpen(t, size, upTo(count))
			if got := impl.OpenSegs(size, upTo(count)).Code == impl.OK; got != right {
				t.Fatalf("OpenSegs(%d, %d items) is right: %t", size, count, got)
			}
			s := openByHand(3, upTo(count)).Segs
			checkSegs(t, s, size)
			s.Size = size
			if checkSegs(t, s, 1, size) == impl.ErrRange == right {
				t.Fatalf("size %d: out of range: %t", size, right)
			}
		}
	}
	for _, size := range noSegSizes() {
		checkOpen(t, size, nil)
		checkOpen(t, size, upTo(3))
		wantNoSegs(t, impl.OpenSegs(size, upTo(3)), impl.ErrRange)
		wantNoSegs(t, impl.ResizeSegs(segsIn("1: 5"), size), impl.ErrRange)
		for _, text := range []string{"1:", "1: 5", "1: 5 | 6"} {
			s := segsIn(text)
			s.Size = size
			if got := checkSegs(t, s, 1, 64); got != impl.ErrRange {
				t.Errorf("size %d: %d", size, got)
			}
		}
	}
}

// A part that has one item less or more than it has to have, or another number of them, wherever it stands.
func TestSegsParts(t *testing.T) {
	for _, size := range segSizes() {
		for parts := 1; parts <= 4; parts++ {
			for at := range parts {
				for _, last := range []int{1, int(size)} {
					for _, count := range []int{0, 1, int(size) - 1, int(size), int(size) + 1, 2 * int(size), 65, 4000, 4001} {
						counts := slices.Repeat([]int{int(size)}, parts)
						counts[parts-1] = last
						counts[at] = count
						fault := checkSegs(t, segsOfCounts(size, counts...), 1, size, 64)
						right := count == int(size) || at == parts-1 && count >= 1 && count < int(size)
						if right != (fault == impl.OK) || !right && fault != impl.ErrForm {
							t.Fatalf("size %d, parts of %v items: %d", size, counts, fault)
						}
					}
				}
			}
		}
	}
}

// Every stack of few parts of few items, with and without a fault.
func TestSegsSmall(t *testing.T) {
	counts := [][]int{{}}
	for at := 0; at < len(counts); at++ {
		if len(counts[at]) < 4 {
			for count := range 5 {
				counts = append(counts, append(slices.Clone(counts[at]), count))
			}
		}
	}
	right := 0
	for _, list := range counts {
		for size := int64(-1); size <= 5; size++ {
			if checkSegs(t, segsOfCounts(size, list...), -1, 0, 1, 2, 3, 4, 64, 65) == impl.OK {
				right++
			}
		}
	}
	// Of a size the lowest parts are full, so that the last one alone can be chosen; 5 items have none.
	if want := 5 + 4*(1+2+3+4) + 4; right != want {
		t.Errorf("%d stacks are right, not %d", right, want)
	}
}

func TestSegsMany(t *testing.T) {
	for _, size := range []int64{1, 2, 3, 7, 63, 64} {
		for _, count := range []int{3998, 3999, 4000, 4001, 4002, 4096, 5000} {
			list := upTo(count)
			checkOpen(t, size, list)
			s := impl.Segs{Size: size}
			for part := range slices.Chunk(list, int(size)) {
				s.Parts = append(s.Parts, impl.SegPart{Items: part})
			}
			want := int64(impl.OK)
			if count > 4000 {
				want = impl.ErrMany
				wantNoSegs(t, impl.OpenSegs(size, list), want)
			}
			if got := checkSegs(t, s, 1, 2, 64, 0, 65); got != want {
				t.Fatalf("size %d, %d items: %d, not %d", size, count, got, want)
			}
			pushed := impl.PushSegs(s, 9)
			if wantCode := map[bool]int64{true: impl.OK, false: impl.ErrMany}[count < 4000]; pushed.Code != wantCode {
				t.Fatalf("size %d, one item put on %d: %d, not %d", size, count, pushed.Code, wantCode)
			}
		}
		for _, no := range noSegSizes() {
			wantNoSegs(t, impl.OpenSegs(no, upTo(4001)), impl.ErrRange)
		}
	}
	wantNoSegs(t, impl.PushSegs(impl.OpenSegs(64, upTo(4000)).Segs, 1), impl.ErrMany)
	wantNoSegs(t, impl.PushSegs(impl.OpenSegs(1, upTo(4000)).Segs, 1), impl.ErrMany)
}

// Of several faults the first one by the order of the codes: the size, then the parts, then how many items there are.
func TestSegsSeveral(t *testing.T) {
	many := openByHand(64, upTo(4000)).Segs.Parts
	many = append(many[:62:62], many[0], impl.SegPart{Items: upTo(64)}, impl.SegPart{Items: upTo(2)})
	wrong := append(slices.Clone(many), impl.SegPart{})
	early := append([]impl.SegPart{{Items: upTo(65)}}, many...)
	wide := []impl.SegPart{{Items: upTo(4001)}}
	for _, test := range []struct {
		size  int64
		parts []impl.SegPart
		want  int64
	}{
		{64, many, impl.ErrMany}, {64, wrong, impl.ErrForm}, {64, early, impl.ErrForm}, {64, wide, impl.ErrForm}, {63, many, impl.ErrForm},
		{0, many, impl.ErrRange}, {65, wrong, impl.ErrRange}, {-1, early, impl.ErrRange}, {4001, wide, impl.ErrRange}, {0, []impl.SegPart{{}}, impl.ErrRange},
		{65, []impl.SegPart{{Items: upTo(65)}}, impl.ErrRange}, {0, nil, impl.ErrRange}, {64, []impl.SegPart{{Items: upTo(64)}, {}, {Items: upTo(70)}}, impl.ErrForm},
	} {
		s := impl.Segs{Size: test.size, Parts: test.parts}
		if got := checkSegs(t, s, append(noSegSizes(), segSizes()...)...); got != test.want {
			t.Errorf("size %d, %d parts: %d, not %d", test.size, len(test.parts), got, test.want)
		}
		for _, size := range []int64{0, 1, 64, 65} {
			wantNoSegs(t, impl.ResizeSegs(s, size), test.want)
		}
		wantNoSegs(t, impl.PushSegs(s, 1), test.want)
		wantNoSegs(t, impl.PopSegs(s), test.want)
	}
}

// Items put and taken in turn, against a plain list.
func TestSegsInTurn(t *testing.T) {
	s := dice(1212)
	for _, size := range []int64{1, 2, 3, 4, 5, 8, 63, 64} {
		stack, list := impl.OpenSegs(size, nil), []int64(nil)
		for step := range 900 {
			up := 3
			if step%300 > 150 {
				up = 1
			}
			if s.next(4) < up {
				item := int64(s.next(1000)) - 500
				stack, list = impl.PushSegs(stack.Segs, item), append(list, item)
			} else if len(list) == 0 {
				wantNoSegs(t, impl.PopSegs(stack.Segs), impl.ErrNone)
				continue
			} else {
				stack = impl.PopSegs(stack.Segs)
				if stack.Value != list[len(list)-1] {
					t.Fatalf("size %d: %d is taken, not %d", size, stack.Value, list[len(list)-1])
				}
				list = list[:len(list)-1]
			}
			if want := openByHand(size, list).Segs; stack.Code != impl.OK || !equalSegs(stack.Segs, want) {
				t.Fatalf("size %d: %d, %s, not %s", size, stack.Code, shortSegs(stack.Segs), shortSegs(want))
			}
			if step%30 == 0 {
				checkSegs(t, stack.Segs, 0, 1, 2, 3, 64, 65)
			}
		}
	}
}

func someSegs(count int) []impl.Segs {
	s := dice(1313)
	var list []impl.Segs
	for range count {
		list = append(list, openByHand(int64(s.next(64))+1, upTo(s.next(200))).Segs)
	}
	return list
}

// checkPromise13 is for stacks without fault.
func checkPromise13(t *testing.T, s impl.Segs, items ...int64) {
	t.Helper()
	kept := cloneSegs(s)
	// What stands behind is put on last, and so is taken first.
	up := []impl.Segs{s}
	for _, item := range items {
		put := impl.PushSegs(up[len(up)-1], item)
		if put.Code != impl.OK || put.Value != 0 || impl.SegsFault(put.Segs) != impl.OK {
			t.Fatalf("%d put on %s: %d, %s", item, shortSegs(kept), put.Code, shortSegs(put.Segs))
		}
		up = append(up, put.Segs)
	}
	now := up[len(up)-1]
	for i := len(items) - 1; i >= 0; i-- {
		taken := impl.PopSegs(now)
		if taken.Code != impl.OK || taken.Value != items[i] || !equalSegs(taken.Segs, up[i]) {
			t.Fatalf("%d is taken from %s, and leaves %s, not %d and %s", taken.Value, shortSegs(now), shortSegs(taken.Segs), items[i], shortSegs(up[i]))
		}
		now = taken.Segs
	}
	if !equalSegs(now, kept) || !equalSegs(s, kept) {
		t.Fatalf("%s has come to %s", shortSegs(kept), shortSegs(now))
	}
	all := impl.ListSegs(s).List
	for size := int64(1); size <= 64; size++ {
		other := impl.ResizeSegs(s, size)
		if other.Code != impl.OK || other.Segs.Size != size || impl.SegsFault(other.Segs) != impl.OK || !slices.Equal(impl.ListSegs(other.Segs).List, all) {
			t.Fatalf("%s by size %d: %d, %s", shortSegs(s), size, other.Code, shortSegs(other.Segs))
		}
		if impl.DepthSegs(other.Segs).Value != int64(len(all)) {
			t.Fatalf("%s by size %d is %d deep", shortSegs(s), size, impl.DepthSegs(other.Segs).Value)
		}
		if back := impl.ResizeSegs(other.Segs, s.Size); back.Code != impl.OK || !equalSegs(back.Segs, kept) {
			t.Fatalf("%s by size %d and back: %d, %s", shortSegs(s), size, back.Code, shortSegs(back.Segs))
		}
	}
}

// Promise 13: what is put on is taken first, what is left is as it was; another size has the same items, and is the same again.
func TestPromise13(t *testing.T) {
	for size := int64(1); size <= 64; size++ {
		for _, count := range []int{0, 1, 2, 3, int(size) - 1, int(size), int(size) + 1, 2*int(size) - 1, 2 * int(size), 2*int(size) + 1, 130} {
			checkPromise13(t, impl.OpenSegs(size, upTo(count)).Segs, math.MinInt64, 0, math.MaxInt64, 5, 5)
		}
	}
	for _, size := range segSizes() {
		checkPromise13(t, impl.OpenSegs(size, nil).Segs, upTo(200)...)
		for count := 3990; count <= 4000; count++ {
			checkPromise13(t, impl.OpenSegs(size, upTo(count)).Segs, upTo(4000-count)...)
		}
	}
	for _, s := range someSegs(60) {
		checkPromise13(t, s, upTo(70)...)
	}
}

// Promise 13: all of a great stack are taken, the highest one first, down to none.
func TestPromise13DownToNone(t *testing.T) {
	for _, size := range segSizes() {
		list := upTo(1000)
		s := impl.OpenSegs(size, list).Segs
		for left := len(list) - 1; left >= 0; left-- {
			taken := impl.PopSegs(s)
			if taken.Code != impl.OK || taken.Value != list[left] || !slices.Equal(impl.ListSegs(taken.Segs).List, list[:left]) {
				t.Fatalf("size %d, %d are left: %d, %d, not %d", size, left, taken.Code, taken.Value, list[left])
			}
			s = taken.Segs
		}
		if len(s.Parts) != 0 || s.Size != size {
			t.Errorf("%s is left", segsText(s))
		}
		wantNoSegs(t, impl.PopSegs(s), impl.ErrNone)
	}
}

// spoilSegs writes over all that a stack has, and over the room behind it.
func spoilSegs(s impl.Segs) {
	parts := s.Parts[:cap(s.Parts)]
	for i := range parts {
		items := parts[i].Items[:cap(parts[i].Items)]
		for k := range items {
			items[k] = -77
		}
		parts[i].Items = nil
	}
}

// roomySegs: the same stack, in lists that have room behind, in which other numbers are.
func roomySegs(s impl.Segs) impl.Segs {
	parts := make([]impl.SegPart, 0, len(s.Parts)+3)
	for _, part := range s.Parts {
		items := append(slices.Clone(part.Items), 901, 902, 903)
		parts = append(parts, impl.SegPart{Items: items[:len(part.Items)]})
	}
	parts = append(parts, impl.SegPart{Items: []int64{904, 905}}, impl.SegPart{Items: []int64{906}})
	return impl.Segs{Size: s.Size, Parts: parts[:len(s.Parts)]}
}

// roomBehind: all that lies in the lists of a stack and behind them.
func roomBehind(s impl.Segs) string {
	all := cloneSegs(impl.Segs{Size: s.Size, Parts: s.Parts[:cap(s.Parts)]})
	for i, part := range s.Parts[:cap(s.Parts)] {
		all.Parts[i].Items = slices.Clone(part.Items[:cap(part.Items)])
	}
	return segsText(all)
}

// segWays: whatever answers a stack, by a stack and a list.
func segWays() []func(s impl.Segs, list []int64) impl.SegsResult {
	ways := []func(s impl.Segs, list []int64) impl.SegsResult{
		func(s impl.Segs, list []int64) impl.SegsResult { return impl.PopSegs(s) },
		func(s impl.Segs, list []int64) impl.SegsResult { return impl.PushSegs(s, 7) },
		func(s impl.Segs, list []int64) impl.SegsResult { return impl.OpenSegs(s.Size, list) },
		func(s impl.Segs, list []int64) impl.SegsResult {
			return impl.SegsResult{Code: impl.ListSegs(s).Code, Segs: impl.Segs{Parts: []impl.SegPart{{Items: impl.ListSegs(s).List}}}}
		},
	}
	for _, size := range []int64{0, 1, 2, 3, 64, 65} {
		ways = append(ways, func(s impl.Segs, list []int64) impl.SegsResult { return impl.ResizeSegs(s, size) })
	}
	return ways
}

func checkSegsApart(t *testing.T, s impl.Segs) {
	t.Helper()
	list := append(itemsByHand(s), 907, 908)[:len(itemsByHand(s))]
	kept, behind := roomBehind(s), fmt.Sprint(list[:cap(list)])
	fault, depth := impl.SegsFault(s), impl.DepthSegs(s)
	for i, way := range segWays() {
		first, other := way(s, list), way(s, list)
		told, code, value := cloneSegs(first.Segs), first.Code, first.Value
		// A part that is written behind its end leaves the next one as it is.
		for k := range first.Segs.Parts {
			_ = append(first.Segs.Parts[k].Items, -78, -78, -78)
		}
		if !equalSegs(first.Segs, told) {
			t.Fatalf("way %d of %s: parts share memory: %s", i, shortSegs(s), shortSegs(first.Segs))
		}
		spoilSegs(first.Segs)
		if !equalSegs(other.Segs, told) || other.Code != code || other.Value != value {
			t.Fatalf("way %d of %s: two answers share memory", i, shortSegs(s))
		}
		if again := way(s, list); again.Code != code || again.Value != value || !equalSegs(again.Segs, told) {
			t.Fatalf("way %d of %s: %s, then %d, %d, %s", i, shortSegs(s), shortSegs(told), again.Code, again.Value, shortSegs(again.Segs))
		}
		if roomBehind(s) != kept || fmt.Sprint(list[:cap(list)]) != behind {
			t.Fatalf("way %d changes its argument, of %.200s to %.200s", i, kept, roomBehind(s))
		}
	}
	if impl.SegsFault(s) != fault || impl.DepthSegs(s) != depth {
		t.Fatalf("%s: another fault or depth behind other calls", shortSegs(s))
	}
}

// Promise 1: the same again behind other calls, in new memory that can be written into, and no argument is changed.
func TestPromise1Segs(t *testing.T) {
	list := []impl.Segs{{}, {Size: 1}, {Size: 65}, {Size: 3, Parts: []impl.SegPart{}}, {Size: 3, Parts: []impl.SegPart{{}}}, {Size: 3, Parts: make([]impl.SegPart, 5)}}
	for _, size := range segSizes() {
		for _, count := range []int{0, 1, 2, 3, 62, 63, 64, 65, 128, 3999, 4000} {
			list = append(list, openByHand(size, upTo(count)).Segs)
		}
		list = append(list, segsOfCounts(size, int(size)+1, 1), segsOfCounts(size, int(size), 0), segsOfCounts(0, int(size)))
	}
	for _, s := range append(list, someSegs(60)...) {
		checkSegsApart(t, s)
		checkSegsApart(t, roomySegs(s))
	}
}

// Promise 1: a stack that one list lies behind, and whose parts are the same list.
func TestPromise1SegsShared(t *testing.T) {
	list := upTo(9)
	s := impl.Segs{Size: 3, Parts: []impl.SegPart{{Items: list[:3]}, {Items: list[3:6]}, {Items: list[6:8]}}}
	checkSegsApart(t, s)
	checkSegs(t, s, 1, 2, 4)
	wantSegs(t, impl.PushSegs(s, 55), 0, segsText(openByHand(3, append(upTo(8), 55)).Segs))
	if !slices.Equal(list, upTo(9)) {
		t.Errorf("an item is put into the list of the argument: %v", list)
	}
	same := impl.Segs{Size: 2, Parts: []impl.SegPart{{Items: list[:2]}, {Items: list[:2]}, {Items: list[:1]}}}
	checkSegsApart(t, same)
	for _, made := range []impl.SegsResult{impl.PushSegs(same, 5), impl.ResizeSegs(same, 2), impl.PopSegs(same)} {
		made.Segs.Parts[0].Items[0] = -77
		if made.Segs.Parts[1].Items[0] == -77 || list[0] == -77 {
			t.Errorf("two parts of %s share memory", segsText(made.Segs))
		}
	}
}

// Promise 1: two items put on the same stack, and one put where another was taken, leave each other as they are.
func TestPromise1SegsBranches(t *testing.T) {
	for _, size := range segSizes() {
		for count := range 130 {
			s := impl.OpenSegs(size, upTo(count)).Segs
			for range 3 {
				s = impl.PushSegs(s, 1).Segs
			}
			kept := segsText(s)
			taken := impl.PopSegs(s).Segs
			left := segsText(taken)
			one, two := impl.PushSegs(taken, 21).Segs, impl.PushSegs(taken, 22).Segs
			ones, twos := segsText(one), segsText(two)
			for range 3 {
				one, two = impl.PopSegs(one).Segs, impl.PopSegs(two).Segs
				impl.PushSegs(one, 23)
				impl.PushSegs(two, 24)
			}
			if segsText(s) != kept || segsText(taken) != left || !strings.HasSuffix(ones, " 21") || !strings.HasSuffix(twos, " 22") || !equalSegs(one, two) {
				t.Fatalf("%s has come to %s, %s to %s, and %s, %s", kept, segsText(s), left, segsText(taken), ones, twos)
			}
		}
	}
}
