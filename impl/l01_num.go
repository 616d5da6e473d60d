package impl

import (
	"errors"
	"strconv"
)

const OK = 0
const ErrForm = 1
const ErrMany = 2
const ErrRange = 3
const ErrNone = 4
const ErrText = 5
const ErrType = 6
const ErrValue = 7
const ErrArgs = 8
const ErrFuel = 9
const MaxNum = 1000000000

type IntResult struct {
	Code  int64
	Value int64
}
type IntsResult struct {
	Code int64
	List []int64
}
type TextResult struct {
	Code int64
	Text string
}
type TextsResult struct {
	Code  int64
	Texts []string
}

// The longest text of a number is that of -MaxNum.
const maxNumBytes = 11

// notNumber is its own type so that each face can ask any error for the code it has to tell.
type notNumber struct {
	code int64
}

func (e notNumber) Error() string {
	return "not a number: code " + strconv.FormatInt(e.code, 10)
}

// The code hangs on where the number stands: what comes in and what comes of it tell different ones.
func checkNum(n int64, code int64) error {
	if n < -MaxNum || n > MaxNum {
		return notNumber{code: code}
	}
	return nil
}

// The bounds are asked ahead of the operation: a product of two numbers fits an int64, one of any two int64 does not.
func combine(a int64, b int64, operate func(int64, int64) (int64, error)) (int64, error) {
	if err := checkNum(a, ErrRange); err != nil {
		return 0, err
	}
	if err := checkNum(b, ErrRange); err != nil {
		return 0, err
	}
	n, err := operate(a, b)
	if err != nil {
		return 0, err
	}
	return n, checkNum(n, ErrValue)
}

func plus(a int64, b int64) (int64, error) {
	return a + b, nil
}

func minus(a int64, b int64) (int64, error) {
	return a - b, nil
}

func times(a int64, b int64) (int64, error) {
	return a * b, nil
}

// Go rounds toward 0, so an uneven quotient below 0 is one too high.
func floorQuotient(a int64, b int64) (int64, error) {
	if b == 0 {
		return 0, notNumber{code: ErrValue}
	}
	quotient := a / b
	if a%b != 0 && (a < 0) != (b < 0) {
		quotient--
	}
	return quotient, nil
}

func floorRest(a int64, b int64) (int64, error) {
	quotient, err := floorQuotient(a, b)
	if err != nil {
		return 0, err
	}
	return a - b*quotient, nil
}

func writeNum(n int64) (string, error) {
	if err := checkNum(n, ErrRange); err != nil {
		return "", err
	}
	return strconv.FormatInt(n, 10), nil
}

// Writing the number again refuses every other way to spell it: a sign +, a 0 ahead, -0.
func readNum(text string) (int64, error) {
	if len(text) > maxNumBytes {
		return 0, notNumber{code: ErrText}
	}
	n, err := strconv.ParseInt(text, 10, 64)
	if err != nil {
		return 0, notNumber{code: ErrText}
	}
	written, err := writeNum(n)
	if err != nil || written != text {
		return 0, notNumber{code: ErrText}
	}
	return n, nil
}

func numCode(err error) int64 {
	var not notNumber
	if errors.As(err, &not) {
		return not.code
	}
	return OK
}

// Beside a code all else is zero, whatever was reckoned up to the fault.
func intAnswer(n int64, err error) IntResult {
	if code := numCode(err); code != OK {
		return IntResult{Code: code}
	}
	return IntResult{Value: n}
}

func NumFault(n int64) int64 {
	return numCode(checkNum(n, ErrRange))
}

func AddNum(a int64, b int64) IntResult {
	return intAnswer(combine(a, b, plus))
}

func SubNum(a int64, b int64) IntResult {
	return intAnswer(combine(a, b, minus))
}

func MulNum(a int64, b int64) IntResult {
	return intAnswer(combine(a, b, times))
}

func QuoNum(a int64, b int64) IntResult {
	return intAnswer(combine(a, b, floorQuotient))
}

func RemNum(a int64, b int64) IntResult {
	return intAnswer(combine(a, b, floorRest))
}

func NumText(n int64) TextResult {
	text, err := writeNum(n)
	if code := numCode(err); code != OK {
		return TextResult{Code: code}
	}
	return TextResult{Text: text}
}

func ParseNum(text string) IntResult {
	return intAnswer(readNum(text))
}
