package tests

import (
	"strings"
	"testing"

	"loop.example/g00349/impl"
)

// wantPlain reads, expands and compiles a line, each by itself.
func wantPlain(line string) impl.CodeResult {
	read := impl.ReadData(line)
	if read.Code != impl.OK {
		return impl.CodeResult{Code: read.Code}
	}
	means := impl.ExpandData(read.Data)
	if means.Code != impl.OK {
		return impl.CodeResult{Code: means.Code}
	}
	return impl.CompileCore(means.Cores)
}

func checkPlain(t *testing.T, line string) impl.CodeResult {
	t.Helper()
	got, want := impl.PlainCode(line), wantPlain(line)
	if got.Code != want.Code || !equalCode(got.Blocks, want.Blocks) || got.Code != impl.OK && got.Blocks != nil {
		t.Fatalf("PlainCode(%q) = %+v, not %+v", line, got, want)
	}
	return got
}

func TestPlainCode(t *testing.T) {
	for _, c := range []struct {
		line string
		want string
	}{
		{"5", "0: const 5, return"},
		{" (f 'x) ; f", "0: global f, const x, tail 1"},
		{"(define f (lambda (x) (g x)))", "0: closure 1, def f, return | 1: global g, local 0 0, tail 1"},
	} {
		if got := checkPlain(t, c.line); got.Code != impl.OK || !equalCode(got.Blocks, codeOf(c.want)) {
			t.Errorf("PlainCode(%q) = %+v, not %s", c.line, got, c.want)
		}
	}
	for _, c := range []struct {
		line string
		want int64
	}{
		{"", impl.ErrForm},
		{"(", impl.ErrForm},
		{"1 2", impl.ErrForm},
		{"A", impl.ErrText},
		{"(if A", impl.ErrText},
		{times(401, " "), impl.ErrMany},
		{times(13, "("), impl.ErrMany},
		{"()", impl.ErrForm},
		{"if", impl.ErrForm},
		{"(lambda (x x) 1)", impl.ErrForm},
		{"(begin (define x 1))", impl.ErrForm},
		{"(f 1 2 3 4)", impl.ErrMany},
	} {
		if got := checkPlain(t, c.line); got.Code != c.want {
			t.Errorf("PlainCode(%q) = %+v, not %d", c.line, got, c.want)
		}
	}
}

// Promise 1 and promise 10 of what is compiled of a line.
func TestPlainCodeSome(t *testing.T) {
	list := append(someTexts(500, 40, rightPieces()), someTexts(500, 10, wrongPieces())...)
	for _, lines := range scripts()[:100] {
		list = append(list, lines...)
	}
	held := 0
	for _, line := range list {
		kept := strings.Clone(line)
		got := checkPlain(t, line)
		if got.Code == impl.OK {
			if held++; impl.CodeFault(got.Blocks) != impl.OK {
				t.Fatalf("PlainCode(%q) does not hold: %+v", line, got.Blocks)
			}
		}
		for _, name := range namesIn(got.Blocks) {
			if !apart(name, line) {
				t.Fatalf("PlainCode(%q) hands a name on", line)
			}
		}
		spoilCode(got.Blocks)
		if checkPlain(t, line); line != kept {
			t.Fatalf("%q is changed", kept)
		}
	}
	if held < 200 {
		t.Errorf("only %d were compiled", held)
	}
}
