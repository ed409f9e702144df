package tests

import (
	"fmt"
	"math"
	"math/rand"
	"slices"
	"strings"
	"testing"
	"unsafe"

	"loop.example/g01074/impl"
)

func TestSyntaxConstants(t *testing.T) {
	got := []int64{impl.TkLower, impl.TkUpper, impl.TkKeyword, impl.TkNumber, impl.TkSymbol, impl.MaxText}
	if want := []int64{1, 2, 3, 4, 5, 20000}; !slices.Equal(got, want) {
		t.Errorf("got %d, want %d", got, want)
	}
}

// checkTokens compares Tokens with what is stated.
func checkTokens(t *testing.T, text string) {
	t.Helper()
	want, wantAt, wantCode := tokensAsStated(text)
	got, at, code := impl.Tokens(text)
	if !slices.Equal(got, want) || at != wantAt || code != wantCode {
		t.Errorf("%.100q: %v, offset %d, code %d; want %v, offset %d, code %d", text, got, at, code, want, wantAt, wantCode)
	}
}

func TestExamplesOfTokens(t *testing.T) {
	list, at, code := impl.Tokens("f ->1")
	want := []impl.Token{{Kind: impl.TkLower, Text: "f", At: 0}, {Kind: impl.TkSymbol, Text: "->", At: 2}, {Kind: impl.TkNumber, Text: "1", At: 4}}
	if !slices.Equal(list, want) || at != 0 || code != impl.OK {
		t.Error(list, at, code)
	}
	if list, at, code := impl.Tokens("a 01"); len(list) != 0 || at != 2 || code != impl.ErrSyntax {
		t.Error(list, at, code)
	}
}

// TestKindsOfTokens tells the kinds apart from the patterns by which the other tests do.
func TestKindsOfTokens(t *testing.T) {
	for kind, words := range map[int64]string{
		impl.TkLower:   "x abcdefghijkl x1 a00000000000 iN lET defs dat ifx then1 elsE datA",
		impl.TkUpper:   "X Int Nat ABCDEFGHIJKL X1 A00000000000 Data Def Let In Match If Then Else IF",
		impl.TkKeyword: "data def let in match if then else",
		impl.TkNumber:  "0 1 7 9 10 99 1000000000 2147483646 2147483647 2147483648",
		impl.TkSymbol:  `-> + - * / < = ( ) [ ] { } , ; : . | ! \`,
		0:              "01 00 007 1a 1A 0x1 9z 1let abcdefghijklm ABCDEFGHIJKLM a000000000000 2147483649 2147483650 4294967296 4294967297 9999999999 10000000000 18446744073709551617 99999999999999999999 > _ # $ % & ' \" ? @ ^ ` ~ é",
	} {
		for _, word := range strings.Fields(words) {
			for _, before := range []string{"", " ", "x ", "(", "->", "\n\t"} {
				for _, behind := range []string{"", " ", " x", ")", "->", "\t\n", " #"} {
					text := before + word + behind
					list, at, code := impl.Tokens(text)
					if strings.HasSuffix(behind, "#") || kind == 0 {
						want := int64(len(before))
						if kind != 0 {
							want = int64(len(text) - 1)
						}
						if len(list) != 0 || at != want || code != impl.ErrSyntax {
							t.Errorf("%q: %v, offset %d, code %d", text, list, at, code)
						}
						continue
					}
					if !slices.Contains(list, impl.Token{Kind: kind, Text: word, At: int64(len(before))}) || at != 0 || code != impl.OK {
						t.Errorf("%q: %v, offset %d, code %d", text, list, at, code)
					}
				}
			}
		}
	}
}

func TestEachByte(t *testing.T) {
	for b := range 256 {
		one := string([]byte{byte(b)})
		for _, name := range []string{"a", "Z", "x1", "let", "0", "10", "abcdefghijkl", "-", ">", "->"} {
			for _, text := range []string{one, name + one, one + name, name + one + name, " " + one + " ", name + " " + one + " " + name, one + one, name + one + one + name} {
				checkTokens(t, text)
			}
		}
		list, at, code := impl.Tokens(one)
		switch {
		case strings.Contains(" \n\t", one):
			if len(list) != 0 || at != 0 || code != impl.OK {
				t.Errorf("blank %d: %v, offset %d, code %d", b, list, at, code)
			}
		case '0' <= b && b <= '9' || 'a' <= b && b <= 'z' || 'A' <= b && b <= 'Z' || strings.Contains(`+-*/<=()[]{},;:.|!\`, one):
			if len(list) != 1 || list[0].Text != one || at != 0 || code != impl.OK {
				t.Errorf("byte %d: %v, offset %d, code %d", b, list, at, code)
			}
		default:
			if len(list) != 0 || at != 0 || code != impl.ErrSyntax {
				t.Errorf("byte %d: %v, offset %d, code %d", b, list, at, code)
			}
		}
	}
}

// TestArrows has -> and - and > in every neighbourhood.
func TestArrows(t *testing.T) {
	texts := []string{""}
	for at := 0; at < len(texts); at++ {
		checkTokens(t, texts[at])
		if len(texts[at]) < 6 {
			for _, letter := range []string{"-", ">", "a", "1", " ", "("} {
				texts = append(texts, texts[at]+letter)
			}
		}
	}
}

func TestTokensOfRandomTexts(t *testing.T) {
	random := rand.New(rand.NewSource(11))
	letters := "aZ019_ \n\t\r->+*/<=()[]{},;:.|!\\#\x00\x80\xc3\xa9"
	for range 30000 {
		text := ""
		for range random.Intn(12) {
			// Most pieces are tokens, so that an error may come late.
			if random.Intn(12) == 0 {
				text += letters[random.Intn(len(letters)):][:1]
			} else {
				text += []string{" ", "", "\n", "\t "}[random.Intn(4)] + vocabulary()[random.Intn(len(vocabulary()))]
			}
		}
		checkTokens(t, text)
	}
}

func TestLongTexts(t *testing.T) {
	const program = "def f : Int = 1\n"
	fill := func(text, with string, n int) string { return text + strings.Repeat(with, n-len(text)) }
	for _, with := range []string{" ", "\n", "\t"} {
		for n, want := range map[int]int64{19999: impl.OK, 20000: impl.OK, 20001: impl.ErrRange, 20002: impl.ErrRange, 100000: impl.ErrRange} {
			for _, text := range []string{"", "x", "-> 2147483648"} {
				checkTokens(t, fill(text, with, n))
			}
			_, typeAt, typeCode := impl.ParseType(fill("Int", with, n))
			_, termAt, termCode := impl.ParseTerm(fill("x", with, n))
			_, programAt, programCode := impl.ParseProgram(fill(program, with, n))
			if typeCode != want || termCode != want || programCode != want || typeAt != 0 || termAt != 0 || programAt != 0 {
				t.Errorf("%d bytes: codes %d, %d and %d, offsets %d, %d and %d", n, typeCode, termCode, programCode, typeAt, termAt, programAt)
			}
		}
	}
	// A byte that begins no token is told only if the text is not too long.
	for _, at := range []int{0, 1, 10000, 19999} {
		for n, want := range map[int]int64{20000: int64(at), 20001: 0} {
			text := strings.Repeat(" ", at) + "#" + strings.Repeat("x ", 10001)
			code := int64(impl.ErrSyntax)
			if n > 20000 {
				code = impl.ErrRange
			}
			text = text[:n]
			checkTokens(t, text)
			_, typeAt, typeCode := impl.ParseType(text)
			_, termAt, termCode := impl.ParseTerm(text)
			_, programAt, programCode := impl.ParseProgram(text)
			if typeCode != code || termCode != code || programCode != code || typeAt != want || termAt != want || programAt != want {
				t.Errorf("%d bytes: codes %d, %d and %d, offsets %d, %d and %d", n, typeCode, termCode, programCode, typeAt, termAt, programAt)
			}
		}
	}
	// Very long runs and very many tokens.
	for _, text := range []string{strings.Repeat("a", 20000), strings.Repeat("1", 20000), strings.Repeat("0", 20000), strings.Repeat("(", 20000), strings.Repeat("->", 10000), strings.Repeat("a ", 10000), "x " + strings.Repeat("A", 19998), strings.Repeat("a", 1<<20)} {
		checkTokens(t, text)
	}
}

func TestLineColumn(t *testing.T) {
	for _, text := range []string{"", "a", "\n", "\n\n\n", "a\nbc", "\na", "a\n", "\n\nab\n\n\nc\n", "a\n\nb\n", "a\r\nb\tc\r", "é\né\n\xff", "def f : Int =\n  )", strings.Repeat("ab\n", 20000)} {
		line, column := int64(1), int64(1)
		step := 1 + len(text)/200
		for at := 0; at <= len(text); at++ {
			if at%step == 0 || at == len(text) {
				if gotLine, gotColumn := impl.LineColumn(text, int64(at)); gotLine != line || gotColumn != column {
					t.Errorf("%.30q at %d: %d and %d, want %d and %d", text, at, gotLine, gotColumn, line, column)
				}
			}
			column++
			if at < len(text) && text[at] == '\n' {
				line, column = line+1, 1
			}
		}
		n := int64(len(text))
		for _, at := range []int64{-1, -2, -n - 1, n + 1, n + 2, 1 << 32, 1<<32 + n, -1 << 32, math.MinInt64, math.MaxInt64} {
			if line, column := impl.LineColumn(text, at); line != 0 || column != 0 {
				t.Errorf("%.30q at %d: %d and %d", text, at, line, column)
			}
		}
	}
	if line, column := impl.LineColumn("a\nbc", 3); line != 2 || column != 2 {
		t.Error(line, column)
	}
}

func TestDiagnostic(t *testing.T) {
	for text, want := range map[string]string{
		"def f : Int = 1":                       "",
		"data A = B\ndef f : A = B\n":           "",
		"def f : Int = x y z":                   "",
		"def f : Int =\n  )":                    "2:3: syntax",
		"":                                      "1:1: invalid",
		"\n\n  ":                                "1:1: invalid",
		"data A = B\n\n":                        "1:1: invalid",
		"\n\ndef f : Int = 1\ndef f : Int = 2":  "1:1: invalid",
		"\n\ndef f : Int = S[1, 1,\n1, 1]":      "1:1: invalid",
		")":                                     "1:1: syntax",
		"\n\n)":                                 "3:1: syntax",
		"def":                                   "1:4: syntax",
		"def\n":                                 "2:1: syntax",
		"def\n  ":                               "2:3: syntax",
		"def f : Int = 1\n\n\tdata":             "3:2: syntax",
		"def f : Int = 1\n  # x\n )":            "2:3: syntax",
		"def f : Int = 1\n )\n #":               "3:2: syntax",
		"def f :\nInt = 01":                     "2:7: syntax",
		"def f : Int = 1 + \n\n\n2147483648":    "4:1: syntax",
		strings.Repeat("\n", 19999) + "#":       "20000:1: syntax",
		strings.Repeat(" ", 19999) + ")":        "1:20000: syntax",
		strings.Repeat("\n", 19997) + "def":     "19998:4: syntax",
		strings.Repeat("\n", 20000):             "1:1: invalid",
		strings.Repeat("\n", 20001):             "1:1: range",
		strings.Repeat("\n", 20000) + "#":       "1:1: range",
		strings.Repeat("def f : Int = 1\n", 9):  "1:1: invalid",
		strings.Repeat("def f : Int = 1 ", 2e4): "1:1: range",
	} {
		if got := impl.Diagnostic(text); got != want {
			t.Errorf("%.40q: %q, want %q", text, got, want)
		}
	}
}

// syntaxAsTold tells all that the functions of a text return.
func syntaxAsTold(text string) string {
	list, at, code := impl.Tokens(text)
	x, typeAt, typeCode := impl.ParseType(text)
	y, termAt, termCode := impl.ParseTerm(text)
	p, programAt, programCode := impl.ParseProgram(text)
	line, column := impl.LineColumn(text, at)
	told := fmt.Sprint(list, at, code, impl.TypeText(x), typeAt, typeCode, y, termAt, termCode, p, programAt, programCode, line, column)
	return told + fmt.Sprint(impl.PrintTerm(y), impl.PrintProgram(p), impl.IsCanonical(text), impl.Diagnostic(text))
}

// someSyntax are texts of each kind, right and wrong.
func someSyntax() []string {
	list := append(typeTexts(), termTexts()...)
	list = append(list, programTexts()...)
	for _, text := range slices.Clone(list) {
		list = append(list, text[:len(text)/2], text+" )", text+"#", text+" "+text)
	}
	return append(list, "", " ", "\n", "#", "def", "\xff", strings.Repeat(" ", 20001))
}

// TestSyntaxIsPure is P1 for the functions of texts. The memory of the text is written to after each call, so that it would be seen if a result had kept it.
func TestSyntaxIsPure(t *testing.T) {
	texts := someSyntax()
	texts = append(texts, someTexts()[:3000]...)
	var first []string
	for _, text := range texts {
		first = append(first, syntaxAsTold(text))
	}
	for i := len(texts) - 1; i >= 0; i-- {
		memory := []byte(texts[i] + "unused")[:len(texts[i])]
		text := unsafe.String(unsafe.SliceData(memory), len(memory))
		list, _, _ := impl.Tokens(text)
		x, _, _ := impl.ParseType(text)
		y, _, _ := impl.ParseTerm(text)
		p, _, _ := impl.ParseProgram(text)
		told := syntaxAsTold(text)
		if string(memory) != texts[i] || told != first[i] {
			t.Fatalf("%.100q became %.100q: first %.300s, then %.300s", texts[i], memory, first[i], told)
		}
		before := fmt.Sprint(list, x, y, p)
		for k := range memory {
			memory[k] = '?'
		}
		if after := fmt.Sprint(list, x, y, p); after != before {
			t.Errorf("%.100q: the results %.300s became %.300s", texts[i], before, after)
		}
		spoilSlice(list, impl.Token{Kind: 9, Text: "spoiled"})
		spoilType(x)
		spoilSlice(p.Defs, impl.Def{Name: "spoiled"})
		if told := syntaxAsTold(texts[i]); told != first[i] {
			t.Errorf("%.100q: first %.300s, then %.300s", texts[i], first[i], told)
		}
	}
}
