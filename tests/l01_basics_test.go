package tests

import (
	"fmt"
	"math"
	"math/big"
	"math/rand"
	"regexp"
	"strconv"
	"strings"
	"testing"

	"loop.example/g01074/impl"
)

// edgeIntegers are the numbers at which wrapping, signs or lengths change.
func edgeIntegers() []int64 {
	list := []int64{math.MinInt64, math.MinInt64 + 1, math.MaxInt64 - 1, math.MaxInt64}
	for _, middle := range []int64{-1 << 62, -1 << 33, -1 << 32, -1 << 31, -1 << 16, -10, 0, 10, 1 << 16, 1 << 31, 1 << 32, 1 << 33, 1 << 62} {
		for d := int64(-3); d <= 3; d++ {
			list = append(list, middle+d)
		}
	}
	return list
}

// someIntegers are the edge integers and others that are the same in each run.
func someIntegers(n int) []int64 {
	list := edgeIntegers()
	random := rand.New(rand.NewSource(1))
	for range n {
		list = append(list, int64(random.Uint64())>>random.Intn(64))
	}
	return list
}

// someTexts are all texts of at most 2 bytes, words around the rules of names, and decimal forms and what resembles them.
func someTexts() []string {
	list := []string{""}
	for a := range 256 {
		list = append(list, string([]byte{byte(a)}))
		for b := range 256 {
			list = append(list, string([]byte{byte(a), byte(b)}))
		}
	}
	list = append(list, keywords()...)
	for _, s := range keywords() {
		list = append(list, strings.ToUpper(s), strings.ToUpper(s[:1])+s[1:], s+"1", s+" ", " "+s, s[:len(s)-1])
	}
	list = append(list, "abcdefghijk", "abcdefghijkl", "abcdefghijklm", "ABCDEFGHIJKL", "ABCDEFGHIJKLM", "a12345678901", "a123456789012",
		"1x", "x_1", "x-1", "x 1", "x1\n", "\nx1", "x\x001", "é", "éa", "aé", "aß", "x²", "xx٣", "Äpfel", "aaaaaaaaaaaé", "ab\xff", "\xc3a", "abc\xc3",
		strings.Repeat("a", 100000), strings.Repeat("é", 6))
	for _, n := range edgeIntegers() {
		s := strconv.FormatInt(n, 10)
		list = append(list, s, "+"+s, "-"+s, "0"+s, "-0"+s, " "+s, s+" ", s+".0", s+"_0", "0x"+s)
	}
	return append(list, "+0", "--1", "1_000", "1e3", "٣٣٣", strings.Repeat("9", 100000), "-"+strings.Repeat("9", 100000), strings.Repeat("0", 100000))
}

func keywords() []string {
	return []string{"data", "def", "let", "in", "match", "if", "then", "else"}
}

// basicsOfInteger returns what the functions of one integer return, and what the operators return for it and the others.
func basicsOfInteger(n int64, others []int64) string {
	var b strings.Builder
	fmt.Fprintf(&b, "%q %d %q %q", impl.CodeName(n), impl.Wrap32(n), impl.OperatorText(n), impl.Decimal(n))
	for _, m := range others {
		fmt.Fprintf(&b, " %d", impl.Operate(n, m, n))
		for op := int64(-1); op <= 8; op++ {
			fmt.Fprintf(&b, " %d", impl.Operate(op, n, m))
		}
	}
	return b.String()
}

func basicsOfText(s string) string {
	n, ok := impl.ReadDecimal(s)
	return fmt.Sprint(impl.IsKeyword(s), impl.IsName(s), impl.IsUpper(s), impl.IsLower(s), impl.OperatorOf(s), n, ok)
}

// TestBasicsArePure is P1 for chapter 1: each function returns for all arguments, leaves them as they are, and returns the same in another order of calls.
func TestBasicsArePure(t *testing.T) {
	integers, texts, others := someIntegers(300), someTexts(), edgeIntegers()
	var first []string
	for _, n := range integers {
		first = append(first, basicsOfInteger(n, others))
	}
	for _, s := range texts {
		kept := strings.Clone(s)
		first = append(first, basicsOfText(s))
		if s != kept {
			t.Fatalf("the text %q became %q", kept, s)
		}
	}
	for i := len(texts) - 1; i >= 0; i-- {
		if got := basicsOfText(strings.Clone(texts[i])); got != first[len(integers)+i] {
			t.Errorf("%q: first %s, then %s", texts[i], first[len(integers)+i], got)
		}
	}
	for i := len(integers) - 1; i >= 0; i-- {
		if got := basicsOfInteger(integers[i], others); got != first[i] {
			t.Errorf("%d: first %s, then %s", integers[i], first[i], got)
		}
	}
}

func TestBasicsConstants(t *testing.T) {
	got := []int64{
		impl.OK, impl.ErrInvalid, impl.ErrRange, impl.ErrNotFound, impl.ErrFull, impl.ErrState, impl.ErrSyntax, impl.ErrName,
		impl.ErrType, impl.ErrLevel, impl.ErrLinear, impl.ErrClash, impl.ErrBudget, impl.ErrRead, impl.ErrFormat,
		impl.OpAdd, impl.OpSub, impl.OpMul, impl.OpDiv, impl.OpLess, impl.OpEqual, impl.MaxName, impl.MinInt, impl.MaxInt,
	}
	want := []int64{0, 1, 2, 3, 4, 5, 6, 7, 8, 9, 10, 11, 12, 13, 14, 1, 2, 3, 4, 5, 6, 12, -2147483648, 2147483647}
	if fmt.Sprint(got) != fmt.Sprint(want) {
		t.Errorf("got %d, want %d", got, want)
	}
}

func TestCodeName(t *testing.T) {
	names := strings.Fields("ok invalid range notfound full state syntax name type level linear clash budget read format")
	for _, code := range append(someIntegers(100), 4, 5, 6, 14, 15, 16) {
		want := ""
		if code >= 0 && code < 15 {
			want = names[code]
		}
		if got := impl.CodeName(code); got != want {
			t.Errorf("CodeName(%d) is %q, want %q", code, got, want)
		}
	}
	if got := impl.CodeName(impl.ErrNotFound); got != "notfound" {
		t.Errorf("the name of ErrNotFound is %q", got)
	}
}

// TestWords is the second half of P2: a word is a name, a keyword or neither, and a name begins with a letter of one case.
func TestWords(t *testing.T) {
	letters := regexp.MustCompile(`\A[A-Za-z][A-Za-z0-9]*\z`)
	for _, s := range someTexts() {
		keyword := strings.Contains(" data def let in match if then else ", " "+s+" ") && s != "" && !strings.Contains(s, " ")
		name := letters.MatchString(s) && len(s) <= 12 && !keyword
		upper := name && s[0] < 'a'
		if got := impl.IsKeyword(s); got != keyword {
			t.Errorf("IsKeyword(%.20q) is %t", s, got)
		}
		if got := impl.IsName(s); got != name {
			t.Errorf("IsName(%.20q) is %t", s, got)
		}
		if got := impl.IsUpper(s); got != upper {
			t.Errorf("IsUpper(%.20q) is %t", s, got)
		}
		if got := impl.IsLower(s); got != (name && !upper) {
			t.Errorf("IsLower(%.20q) is %t", s, got)
		}
		if impl.IsKeyword(s) && impl.IsName(s) {
			t.Errorf("%q is both a keyword and a name", s)
		}
		if impl.IsName(s) != (impl.IsUpper(s) != impl.IsLower(s)) || impl.IsUpper(s) && impl.IsLower(s) {
			t.Errorf("%q: a name is an upper or a lower name, and nothing else is", s)
		}
	}
}

func TestNamesAtTheEdges(t *testing.T) {
	for _, c := range []struct {
		s                           string
		keyword, name, upper, lower bool
	}{
		{"x1", false, true, false, true},
		{"Nat", false, true, true, false},
		{"1x", false, false, false, false},
		{"let", true, false, false, false},
		{"Let", false, true, true, false},
		{"lEt", false, true, false, true},
		{"LET", false, true, true, false},
		{"lets", false, true, false, true},
		{"", false, false, false, false},
		{"a", false, true, false, true},
		{"Z", false, true, true, false},
		{"7", false, false, false, false},
		{"abcdefghijkl", false, true, false, true},
		{"abcdefghijklm", false, false, false, false},
		{"ABCDEFGHIJKL", false, true, true, false},
		{"ABCDEFGHIJKLM", false, false, false, false},
		{"aé", false, false, false, false},
		{"Éa", false, false, false, false},
		{"a\xff", false, false, false, false},
		{"a\x00", false, false, false, false},
		{"a_b", false, false, false, false},
	} {
		got := fmt.Sprint(impl.IsKeyword(c.s), impl.IsName(c.s), impl.IsUpper(c.s), impl.IsLower(c.s))
		if want := fmt.Sprint(c.keyword, c.name, c.upper, c.lower); got != want {
			t.Errorf("%q: got %s, want %s", c.s, got, want)
		}
	}
	for _, s := range keywords() {
		if !impl.IsKeyword(s) || impl.IsName(s) || impl.IsKeyword(strings.ToUpper(s)) || !impl.IsUpper(strings.ToUpper(s)) {
			t.Errorf("%q is a keyword in lower case only", s)
		}
	}
}

// wrapped is the number from MinInt to MaxInt that differs from n by a multiple of 2^32, computed without a limit of size.
func wrapped(n *big.Int) int64 {
	modulus := new(big.Int).Lsh(big.NewInt(1), 32)
	rest := new(big.Int).Mod(n, modulus).Int64()
	if rest > impl.MaxInt {
		rest -= modulus.Int64()
	}
	return rest
}

func TestWrap32(t *testing.T) {
	for _, n := range someIntegers(2000) {
		if got, want := impl.Wrap32(n), wrapped(big.NewInt(n)); got != want {
			t.Errorf("Wrap32(%d) is %d, want %d", n, got, want)
		}
	}
	for n, want := range map[int64]int64{
		impl.MinInt: impl.MinInt, impl.MaxInt: impl.MaxInt, impl.MinInt - 1: impl.MaxInt, impl.MaxInt + 1: impl.MinInt,
		math.MinInt64: 0, math.MaxInt64: -1, 1 << 32: 0, 1<<32 + 5: 5, -1<<32 - 5: -5, 3 << 31: impl.MinInt,
	} {
		if got := impl.Wrap32(n); got != want {
			t.Errorf("Wrap32(%d) is %d, want %d", n, got, want)
		}
	}
}

// exactly applies an operator as the document says it, with numbers of any size.
func exactly(op, a, b int64) int64 {
	x, y := big.NewInt(wrapped(big.NewInt(a))), big.NewInt(wrapped(big.NewInt(b)))
	result := new(big.Int)
	switch op {
	case 1:
		result.Add(x, y)
	case 2:
		result.Sub(x, y)
	case 3:
		result.Mul(x, y)
	case 4:
		if y.Sign() != 0 {
			result.Quo(x, y)
		}
	case 5:
		if x.Cmp(y) < 0 {
			result.SetInt64(1)
		}
	case 6:
		if x.Cmp(y) == 0 {
			result.SetInt64(1)
		}
	}
	return wrapped(result)
}

func TestOperateAsStated(t *testing.T) {
	list := someIntegers(150)
	for _, a := range list {
		for _, b := range list {
			for op := int64(-1); op <= 8; op++ {
				if got, want := impl.Operate(op, a, b), exactly(op, a, b); got != want {
					t.Fatalf("Operate(%d, %d, %d) is %d, want %d", op, a, b, got, want)
				}
			}
		}
	}
}

func TestOperateAtTheEdges(t *testing.T) {
	const least, most = int64(impl.MinInt), int64(impl.MaxInt)
	for _, c := range []struct{ op, a, b, want int64 }{
		{impl.OpAdd, most, 1, least}, {impl.OpAdd, least, -1, most}, {impl.OpAdd, most, most, -2}, {impl.OpAdd, least, least, 0},
		{impl.OpSub, least, 1, most}, {impl.OpSub, most, -1, least}, {impl.OpSub, 0, least, least}, {impl.OpSub, least, most, 1},
		{impl.OpMul, most, 2, -2}, {impl.OpMul, least, -1, least}, {impl.OpMul, least, least, 0}, {impl.OpMul, most, most, 1}, {impl.OpMul, 65536, 32768, least}, {impl.OpMul, 65536, -32769, 2147418112},
		{impl.OpDiv, 7, 2, 3}, {impl.OpDiv, -7, 2, -3}, {impl.OpDiv, 7, -2, -3}, {impl.OpDiv, -7, -2, 3}, {impl.OpDiv, 1, 2, 0}, {impl.OpDiv, -1, 2, 0},
		{impl.OpDiv, 5, 0, 0}, {impl.OpDiv, -5, 0, 0}, {impl.OpDiv, 0, 0, 0}, {impl.OpDiv, 5, 1 << 32, 0}, {impl.OpDiv, least, -1, least}, {impl.OpDiv, most, -1, -most}, {impl.OpDiv, least, 1, least},
		{impl.OpLess, -1, 0, 1}, {impl.OpLess, 0, 0, 0}, {impl.OpLess, 1, 0, 0}, {impl.OpLess, least, most, 1}, {impl.OpLess, most + 1, most, 1}, {impl.OpLess, least, least - 1, 1},
		{impl.OpEqual, 1, 2, 0}, {impl.OpEqual, 2, 2, 1}, {impl.OpEqual, 3, 1<<32 + 3, 1}, {impl.OpEqual, least, most + 1, 1}, {impl.OpEqual, math.MinInt64, 0, 1}, {impl.OpEqual, math.MaxInt64, -1, 1},
		{impl.OpAdd, math.MaxInt64, math.MaxInt64, -2}, {impl.OpAdd, math.MinInt64, math.MinInt64, 0}, {impl.OpSub, math.MinInt64, math.MaxInt64, 1}, {impl.OpMul, math.MaxInt64, math.MinInt64, 0}, {impl.OpDiv, math.MinInt64, math.MaxInt64, 0},
		{0, 1, 1, 0}, {7, 1, 1, 0}, {-1, 1, 1, 0}, {math.MinInt64, 1, 1, 0}, {math.MaxInt64, 1, 1, 0}, {1<<32 + 1, 1, 1, 0},
	} {
		if got := impl.Operate(c.op, c.a, c.b); got != c.want {
			t.Errorf("Operate(%d, %d, %d) is %d, want %d", c.op, c.a, c.b, got, c.want)
		}
	}
}

// TestOperationsUndoEachOther is the first half of P2.
func TestOperationsUndoEachOther(t *testing.T) {
	list := someIntegers(200)
	for _, a := range list {
		for _, b := range list {
			x, y := impl.Wrap32(a), impl.Wrap32(b)
			if got := impl.Operate(impl.OpSub, impl.Operate(impl.OpAdd, a, b), b); got != x {
				t.Fatalf("(%d + %d) - %d is %d, want %d", a, b, b, got, x)
			}
			if got := impl.Operate(impl.OpAdd, impl.Operate(impl.OpSub, a, b), b); got != x {
				t.Fatalf("(%d - %d) + %d is %d, want %d", a, b, b, got, x)
			}
			remainder := x
			if y != 0 {
				remainder = x % y
			}
			product := impl.Operate(impl.OpMul, impl.Operate(impl.OpDiv, a, b), b)
			if got := impl.Operate(impl.OpAdd, product, remainder); got != x {
				t.Fatalf("(%d / %d) * %d plus the remainder is %d, want %d", a, b, b, got, x)
			}
		}
	}
}

func TestOperatorTexts(t *testing.T) {
	texts := []string{"+", "-", "*", "/", "<", "="}
	for _, op := range append(someIntegers(100), 4, 5, 6) {
		want := ""
		if op >= 1 && op <= 6 {
			want = texts[op-1]
		}
		if got := impl.OperatorText(op); got != want {
			t.Errorf("OperatorText(%d) is %q, want %q", op, got, want)
		}
	}
	for _, s := range append(someTexts(), "==", "+ ", " +", "++", "->", "<=") {
		want := int64(0)
		for i, text := range texts {
			if s == text {
				want = int64(i) + 1
			}
		}
		if got := impl.OperatorOf(s); got != want {
			t.Errorf("OperatorOf(%.20q) is %d, want %d", s, got, want)
		}
	}
}

func TestDecimal(t *testing.T) {
	for _, n := range someIntegers(2000) {
		s := impl.Decimal(n)
		if want := big.NewInt(n).String(); s != want {
			t.Errorf("Decimal(%d) is %q, want %q", n, s, want)
		}
		inRange := n >= impl.MinInt && n <= impl.MaxInt
		if got, ok := impl.ReadDecimal(s); ok != inRange || ok && got != n || !ok && got != 0 {
			t.Errorf("ReadDecimal(%q) is %d and %t", s, got, ok)
		}
	}
	for n, want := range map[int64]string{0: "0", 7: "7", -7: "-7", 10: "10", 100: "100", math.MinInt64: "-9223372036854775808", math.MaxInt64: "9223372036854775807"} {
		if got := impl.Decimal(n); got != want {
			t.Errorf("Decimal(%d) is %q, want %q", n, got, want)
		}
	}
}

func TestReadDecimal(t *testing.T) {
	for s, want := range map[string]int64{
		"-12": -12, "0": 0, "-1": -1, "9": 9, "10": 10,
		"2147483647": impl.MaxInt, "2147483646": impl.MaxInt - 1, "-2147483648": impl.MinInt, "-2147483647": impl.MinInt + 1,
	} {
		if n, ok := impl.ReadDecimal(s); n != want || !ok {
			t.Errorf("ReadDecimal(%q) is %d and %t", s, n, ok)
		}
	}
	for _, s := range []string{
		"012", "00", "-012", "-0", "+0", "+1", "", "-", "+", "--1", " ", " 1", "1 ", "1 2", "- 1", "\n1", "1\n", "1.0", "1_0", "0x1", "1e1", "a", "１", "٣",
		"2147483648", "-2147483649", "4294967296", "4294967301", "9223372036854775807", "-9223372036854775808", "9223372036854775808", "18446744073709551617",
		strings.Repeat("9", 100000), strings.Repeat("0", 100000), "-" + strings.Repeat("1", 100000), strings.Repeat("0", 100000) + "1",
	} {
		if n, ok := impl.ReadDecimal(s); n != 0 || ok {
			t.Errorf("ReadDecimal(%.20q) is %d and %t", s, n, ok)
		}
	}
	shape := regexp.MustCompile(`\A(0|-?[1-9][0-9]*)\z`)
	for _, s := range someTexts() {
		value, _ := new(big.Int).SetString(s, 10)
		want := shape.MatchString(s) && value.IsInt64() && value.Int64() >= impl.MinInt && value.Int64() <= impl.MaxInt
		n, ok := impl.ReadDecimal(s)
		if ok != want || ok && n != value.Int64() || !ok && n != 0 {
			t.Errorf("ReadDecimal(%.20q) is %d and %t", s, n, ok)
		}
	}
}
