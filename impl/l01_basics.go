package impl

import (
	"strconv"
	"strings"
)

// Codes of results.
const (
	OK = iota
	ErrInvalid
	ErrRange
	ErrNotFound
	ErrFull
	ErrState
	ErrSyntax
	ErrName
	ErrType
	ErrLevel
	ErrLinear
	ErrClash
	ErrBudget
	ErrRead
	ErrFormat
)

// Operators of the language.
const (
	OpAdd = iota + 1
	OpSub
	OpMul
	OpDiv
	OpLess
	OpEqual
)

// Limits of names and integers.
const (
	MaxName = 12
	MinInt  = -2147483648
	MaxInt  = 2147483647
)

var codeNames = [...]string{
	"ok", "invalid", "range", "notfound", "full", "state", "syntax", "name",
	"type", "level", "linear", "clash", "budget", "read", "format",
}

// The first text stands for the number 0, which is no operator.
var operatorTexts = [...]string{"", "+", "-", "*", "/", "<", "="}

// CodeName returns the name of an error code.
func CodeName(code int64) string {
	if code < 0 || code >= int64(len(codeNames)) {
		return ""
	}
	return codeNames[code]
}

// IsKeyword reports whether s is a keyword of the language.
func IsKeyword(s string) bool {
	switch s {
	case "data", "def", "let", "in", "match", "if", "then", "else":
		return true
	}
	return false
}

// IsName reports whether s is a name.
func IsName(s string) bool {
	if s == "" || len(s) > MaxName || IsKeyword(s) {
		return false
	}
	for at, r := range s {
		if !isLetter(r) && (at == 0 || !isDigit(r)) {
			return false
		}
	}
	return true
}

// IsUpper reports whether s is a name that begins with an upper-case letter.
func IsUpper(s string) bool { return IsName(s) && isUpperLetter(rune(s[0])) }

// IsLower reports whether s is a name that begins with a lower-case letter.
func IsLower(s string) bool { return IsName(s) && isLowerLetter(rune(s[0])) }

func isLetter(r rune) bool { return isUpperLetter(r) || isLowerLetter(r) }

func isUpperLetter(r rune) bool { return 'A' <= r && r <= 'Z' }

func isLowerLetter(r rune) bool { return 'a' <= r && r <= 'z' }

func isDigit(r rune) bool { return '0' <= r && r <= '9' }

// Wrap32 returns n as a signed integer of 32 bits.
func Wrap32(n int64) int64 { return int64(int32(n)) }

// Operate applies an operator to two integers.
func Operate(op, a, b int64) int64 {
	if !isOperator(op) {
		return 0
	}
	operations := [...]func(x, y int64) int64{
		OpAdd:   func(x, y int64) int64 { return x + y },
		OpSub:   func(x, y int64) int64 { return x - y },
		OpMul:   func(x, y int64) int64 { return x * y },
		OpDiv:   quotient,
		OpLess:  func(x, y int64) int64 { return oneIf(x < y) },
		OpEqual: func(x, y int64) int64 { return oneIf(x == y) },
	}
	return Wrap32(operations[op](Wrap32(a), Wrap32(b)))
}

func isOperator(op int64) bool { return OpAdd <= op && op <= OpEqual }

func quotient(x, y int64) int64 {
	if y == 0 {
		return 0
	}
	return x / y
}

func oneIf(holds bool) int64 {
	if holds {
		return 1
	}
	return 0
}

// OperatorText returns the text of an operator.
func OperatorText(op int64) string {
	if !isOperator(op) {
		return ""
	}
	return operatorTexts[op]
}

// OperatorOf returns the operator with a text.
func OperatorOf(text string) int64 {
	for op := int64(OpAdd); op <= OpEqual; op++ {
		if operatorTexts[op] == text {
			return op
		}
	}
	return 0
}

// Decimal returns the decimal form of n.
func Decimal(n int64) string {
	var text strings.Builder
	size := uint64(n)
	if n < 0 {
		text.WriteRune('-')
		// Negated without a sign, because the smallest int64 has no positive counterpart.
		size = -size
	}
	writeDigits(&text, size)
	return text.String()
}

func writeDigits(text *strings.Builder, n uint64) {
	if n >= 10 {
		writeDigits(text, n/10)
	}
	text.WriteRune('0' + rune(n%10))
}

// ReadDecimal returns the integer with a decimal form.
func ReadDecimal(s string) (int64, bool) { return readBetween(s, MinInt, MaxInt) }

// readBetween returns the number from least to most with a decimal form.
func readBetween(s string, least, most int64) (int64, bool) {
	n, err := strconv.ParseInt(s, 10, 64)
	// ParseInt also reads texts that no number has as its decimal form, such as "+1", "-0" and "012".
	if err != nil || n < least || n > most || Decimal(n) != s {
		return 0, false
	}
	return n, true
}
