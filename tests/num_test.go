package tests

import (
	"math"
	"math/big"
	"regexp"
	"strconv"
	"strings"
	"testing"

	"loop.example/g00349/impl"
)

type numCall struct {
	name string
	call func(int64, int64) impl.IntResult
}

func numCalls() []numCall {
	return []numCall{
		{"AddNum", impl.AddNum},
		{"SubNum", impl.SubNum},
		{"MulNum", impl.MulNum},
		{"QuoNum", impl.QuoNum},
		{"RemNum", impl.RemNum},
	}
}

// edgeNums: numbers at which signs, bounds and roundings turn.
func edgeNums() []int64 {
	list := []int64{0}
	for _, n := range []int64{1, 2, 3, 5, 7, 10, 31622, 31623, 99999, 500000000, 500000001, 999999937, impl.MaxNum - 1, impl.MaxNum} {
		list = append(list, n, -n)
	}
	return list
}

// wildNums: what is no number, up to the ends of int64.
func wildNums() []int64 {
	list := []int64{math.MaxInt64, math.MinInt64, math.MinInt64 + 1}
	for _, n := range []int64{impl.MaxNum + 1, impl.MaxNum + 2, 2 * impl.MaxNum, math.MaxInt32, 1 << 32, 1<<32 + 1, 1 << 62, math.MaxInt64 - 1} {
		list = append(list, n, -n)
	}
	return list
}

// someNums: many numbers by a fixed rule, with small ones among them so that quotients vary.
func someNums(count int) []int64 {
	state := uint64(88172645463325252)
	list := make([]int64, count)
	for i := range list {
		state ^= state << 13
		state ^= state >> 7
		state ^= state << 17
		span := int64(impl.MaxNum) >> (i % 30)
		list[i] = int64(state>>1)%(2*span+1) - span
	}
	return list
}

// wantNum reckons with numbers that have no bounds, so that no overflow can hide.
func wantNum(name string, a, b int64) impl.IntResult {
	bound := big.NewInt(impl.MaxNum)
	x, y, z := big.NewInt(a), big.NewInt(b), new(big.Int)
	if x.CmpAbs(bound) > 0 || y.CmpAbs(bound) > 0 {
		return impl.IntResult{Code: impl.ErrRange}
	}
	switch name {
	case "AddNum":
		z.Add(x, y)
	case "SubNum":
		z.Sub(x, y)
	case "MulNum":
		z.Mul(x, y)
	default:
		if b == 0 {
			return impl.IntResult{Code: impl.ErrValue}
		}
		if b < 0 { // big's quotient is rounded down where what is divided by is above 0
			x.Neg(x)
			y.Neg(y)
		}
		rest := new(big.Int)
		z.DivMod(x, y, rest)
		if name == "RemNum" {
			z = rest
			if b < 0 {
				z.Neg(z)
			}
		}
	}
	if z.CmpAbs(bound) > 0 {
		return impl.IntResult{Code: impl.ErrValue}
	}
	return impl.IntResult{Value: z.Int64()}
}

func TestNumFault(t *testing.T) {
	for _, n := range append(edgeNums(), someNums(200)...) {
		if got := impl.NumFault(n); got != impl.OK {
			t.Errorf("NumFault(%d) = %d", n, got)
		}
	}
	for _, n := range wildNums() {
		if got := impl.NumFault(n); got != impl.ErrRange {
			t.Errorf("NumFault(%d) = %d", n, got)
		}
	}
}

func TestNumExamples(t *testing.T) {
	const max = impl.MaxNum
	cases := []struct {
		name string
		a, b int64
		want impl.IntResult
	}{
		{"AddNum", 2, 3, impl.IntResult{Value: 5}},
		{"AddNum", max, 0, impl.IntResult{Value: max}},
		{"AddNum", max - 1, 1, impl.IntResult{Value: max}},
		{"AddNum", max, 1, impl.IntResult{Code: impl.ErrValue}},
		{"AddNum", -max, -1, impl.IntResult{Code: impl.ErrValue}},
		{"AddNum", max, -max, impl.IntResult{}},
		{"SubNum", 2, 5, impl.IntResult{Value: -3}},
		{"SubNum", -max, 0, impl.IntResult{Value: -max}},
		{"SubNum", -max, 1, impl.IntResult{Code: impl.ErrValue}},
		{"SubNum", max, -max, impl.IntResult{Code: impl.ErrValue}},
		{"SubNum", 0, math.MinInt64, impl.IntResult{Code: impl.ErrRange}},
		{"MulNum", 3, -4, impl.IntResult{Value: -12}},
		{"MulNum", max, -1, impl.IntResult{Value: -max}},
		{"MulNum", 31622, 31622, impl.IntResult{Value: 999950884}},
		{"MulNum", 31623, 31623, impl.IntResult{Code: impl.ErrValue}},
		{"MulNum", max, max, impl.IntResult{Code: impl.ErrValue}},
		{"MulNum", -max, max, impl.IntResult{Code: impl.ErrValue}},
		{"MulNum", 1 << 32, 1 << 32, impl.IntResult{Code: impl.ErrRange}},
		{"MulNum", math.MinInt64, -1, impl.IntResult{Code: impl.ErrRange}},
		{"QuoNum", 7, 2, impl.IntResult{Value: 3}},
		{"QuoNum", -7, 2, impl.IntResult{Value: -4}},
		{"QuoNum", 7, -2, impl.IntResult{Value: -4}},
		{"QuoNum", -7, -2, impl.IntResult{Value: 3}},
		{"QuoNum", -8, 2, impl.IntResult{Value: -4}},
		{"QuoNum", -1, max, impl.IntResult{Value: -1}},
		{"QuoNum", -max, -1, impl.IntResult{Value: max}},
		{"QuoNum", 1, 0, impl.IntResult{Code: impl.ErrValue}},
		{"QuoNum", 0, 0, impl.IntResult{Code: impl.ErrValue}},
		{"QuoNum", max + 1, 0, impl.IntResult{Code: impl.ErrRange}},
		{"QuoNum", 0, max + 1, impl.IntResult{Code: impl.ErrRange}},
		{"QuoNum", math.MinInt64, -1, impl.IntResult{Code: impl.ErrRange}},
		{"RemNum", 7, 2, impl.IntResult{Value: 1}},
		{"RemNum", -7, 2, impl.IntResult{Value: 1}},
		{"RemNum", 7, -2, impl.IntResult{Value: -1}},
		{"RemNum", -7, -2, impl.IntResult{Value: -1}},
		{"RemNum", -8, 2, impl.IntResult{}},
		{"RemNum", -1, max, impl.IntResult{Value: max - 1}},
		{"RemNum", 1, -max, impl.IntResult{Value: 1 - max}},
		{"RemNum", 5, 0, impl.IntResult{Code: impl.ErrValue}},
		{"RemNum", -max - 1, 0, impl.IntResult{Code: impl.ErrRange}},
	}
	for _, c := range cases {
		for _, f := range numCalls() {
			if f.name == c.name && f.call(c.a, c.b) != c.want {
				t.Errorf("%s(%d, %d) = %+v, not %+v", c.name, c.a, c.b, f.call(c.a, c.b), c.want)
			}
		}
	}
}

// Promise 1: each call answers at every argument, with nothing beside a code, and the same again behind other calls.
func TestPromise1Numbers(t *testing.T) {
	nums := append(append(edgeNums(), wildNums()...), someNums(120)...)
	first := map[[3]int64]impl.IntResult{}
	for round := range 2 {
		for i, f := range numCalls() {
			for _, a := range nums {
				for _, b := range nums {
					got := f.call(a, b)
					if want := wantNum(f.name, a, b); got != want {
						t.Fatalf("%s(%d, %d) = %+v, not %+v", f.name, a, b, got, want)
					}
					key := [3]int64{int64(i), a, b}
					if round == 0 {
						first[key] = got
					} else if first[key] != got {
						t.Fatalf("%s(%d, %d) = %+v, ahead %+v", f.name, a, b, got, first[key])
					}
				}
			}
		}
	}
}

func TestPromise1Texts(t *testing.T) {
	for range 2 {
		for _, n := range wildNums() {
			if got := impl.NumText(n); got != (impl.TextResult{Code: impl.ErrRange}) {
				t.Errorf("NumText(%d) = %+v", n, got)
			}
		}
		for _, text := range wrongTexts() {
			if got := impl.ParseNum(text); got != (impl.IntResult{Code: impl.ErrText}) {
				t.Errorf("ParseNum(%.40q) = %+v", text, got)
			}
		}
	}
}

func wrongTexts() []string {
	list := []string{
		"", "-", "--", "--1", "-0", "00", "000", "01", "020", "-01", "-020", "+", "+0", "+1", "-+1", "+-1",
		" ", " 1", "1 ", "1\n", "\n1", "\t1", "1 2", "- 1", "1-", "1-2", "1+2",
		"a", "1a", "a1", "0x10", "0b1", "0o7", "1_000", "1,000", "1.0", "1.", ".5", "1e3", "1E9", "Inf", "NaN", "nil",
		"#t", "(1)", "'1", "1;", "\x00", "1\x00", "\x001", "\xff", "1\xff", "٣", "１", "−1", "½", "/", ":", "1/", "1:",
		"1000000001", "-1000000001", "1000000010", "2000000000", "9999999999", "-9999999999", "10000000000", "01000000000",
		"4294967296", "4294967297", "-4294967297", "9223372036854775807", "-9223372036854775808", "9223372036854775808",
		"18446744073709551616", "18446744073709551617", "-18446744073709551615",
	}
	return append(list, strings.Repeat("0", 5000), strings.Repeat("1", 5000), strings.Repeat("9", 1000000),
		"-"+strings.Repeat("7", 1000000), strings.Repeat("-", 1000), strings.Repeat("0", 5000)+"1", strings.Repeat("a", 1000))
}

// Promise 2: a number is read back from its text.
func TestPromise2Texts(t *testing.T) {
	for _, n := range append(edgeNums(), someNums(3000)...) {
		text := impl.NumText(n)
		if text != (impl.TextResult{Text: strconv.FormatInt(n, 10)}) {
			t.Fatalf("NumText(%d) = %+v", n, text)
		}
		if got := impl.ParseNum(text.Text); got != (impl.IntResult{Value: n}) {
			t.Fatalf("ParseNum(%q) = %+v", text.Text, got)
		}
	}
}

// Promise 2: all short texts of the signs that matter, held against what a number's text looks like.
func TestPromise2ShortTexts(t *testing.T) {
	right := regexp.MustCompile(`\A(0|-?[1-9][0-9]*)\z`)
	var try func(text string, left int)
	try = func(text string, left int) {
		got, want := impl.ParseNum(text), impl.IntResult{Code: impl.ErrText}
		if right.MatchString(text) {
			n, err := strconv.ParseInt(text, 10, 64)
			if err != nil {
				t.Fatal(err)
			}
			want = impl.IntResult{Value: n}
		}
		if got != want {
			t.Fatalf("ParseNum(%q) = %+v, not %+v", text, got, want)
		}
		if left > 0 {
			for _, c := range "-+_ 0189ax" {
				try(text+string(c), left-1)
			}
		}
	}
	try("", 4)
}

// Promise 2: texts on both sides of each bound.
func TestPromise2Bounds(t *testing.T) {
	for d := int64(-30); d <= 30; d++ {
		for _, n := range []int64{impl.MaxNum + d, -impl.MaxNum + d} {
			want := impl.IntResult{Value: n}
			if n > impl.MaxNum || n < -impl.MaxNum {
				want = impl.IntResult{Code: impl.ErrText}
			}
			if got := impl.ParseNum(strconv.FormatInt(n, 10)); got != want {
				t.Errorf("ParseNum of %d = %+v, not %+v", n, got, want)
			}
		}
	}
}

// Promise 2: what is added is taken away again.
func TestPromise2Sums(t *testing.T) {
	nums := append(edgeNums(), someNums(400)...)
	for _, a := range nums {
		for _, b := range nums {
			sum := impl.AddNum(a, b)
			if sum.Code != impl.OK {
				continue
			}
			if got := impl.SubNum(sum.Value, b); got != (impl.IntResult{Value: a}) {
				t.Fatalf("%d and %d, less that: %+v", a, b, got)
			}
		}
	}
}

// Promise 2: a quotient and a rest make the number again; the rest lies between 0 and what is divided by, on its side.
func TestPromise2Quotients(t *testing.T) {
	nums := append(edgeNums(), someNums(400)...)
	for n := int64(-12); n <= 12; n++ {
		nums = append(nums, n)
	}
	for _, a := range nums {
		for _, b := range nums {
			if b == 0 {
				continue
			}
			quotient, rest := impl.QuoNum(a, b), impl.RemNum(a, b)
			if quotient.Code != impl.OK || rest.Code != impl.OK {
				t.Fatalf("%d by %d: %+v, %+v", a, b, quotient, rest)
			}
			if b*quotient.Value+rest.Value != a {
				t.Fatalf("%d by %d: %d and %d do not make it again", a, b, quotient.Value, rest.Value)
			}
			if b > 0 && (rest.Value < 0 || rest.Value >= b) || b < 0 && (rest.Value > 0 || rest.Value <= b) {
				t.Fatalf("%d by %d: the rest is %d", a, b, rest.Value)
			}
		}
	}
}
