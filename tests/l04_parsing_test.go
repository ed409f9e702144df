package tests

import (
	"fmt"
	"math/rand"
	"slices"
	"strings"
	"testing"
	"unsafe"

	"loop.example/g01074/impl"
)

// startSymbol is what a text can be parsed as, with what tells the offset and the code, and whether the other result is the zero value.
type startSymbol struct {
	name  string
	parse func(text string) (zero bool, at, code int64)
}

func startSymbols() []startSymbol {
	return []startSymbol{
		{"type", func(text string) (bool, int64, int64) {
			x, at, code := impl.ParseType(text)
			return x.Kind == 0 && x.Name == "" && len(x.Kids) == 0, at, code
		}},
		{"term", func(text string) (bool, int64, int64) {
			x, at, code := impl.ParseTerm(text)
			return equalTerms(x, impl.Term{}), at, code
		}},
		{"program", func(text string) (bool, int64, int64) {
			p, at, code := impl.ParseProgram(text)
			return len(p.Datas) == 0 && len(p.Defs) == 0, at, code
		}},
	}
}

// checkError checks that a text is refused at an offset.
func (s startSymbol) checkError(t *testing.T, text string, wantAt, wantCode int64) {
	t.Helper()
	if zero, at, code := s.parse(text); !zero || at != wantAt || code != wantCode {
		t.Errorf("%s %.200q: zero is %t, offset %d, code %d; want %d and %d", s.name, text, zero, at, code, wantAt, wantCode)
	}
}

// checkWords compares the offset and the code for words, with a blank text around each, with what the grammar derives.
func (s startSymbol) checkWords(t *testing.T, g grammar, words []string, blank string) {
	t.Helper()
	text, offsets := placed(words, blank)
	s.checkDerivation(t, g, text, words, offsets)
}

// checkText does the same for any text.
func (s startSymbol) checkText(t *testing.T, g grammar, text string) {
	t.Helper()
	list, at, code := tokensAsStated(text)
	if code != impl.OK {
		s.checkError(t, text, at, code)
		return
	}
	var words []string
	var offsets []int64
	for _, token := range list {
		words, offsets = append(words, token.Text), append(offsets, token.At)
	}
	s.checkDerivation(t, g, text, words, offsets)
}

func (s startSymbol) checkDerivation(t *testing.T, g grammar, text string, words []string, offsets []int64) {
	t.Helper()
	d := g.begin(s.name)
	for i, word := range words {
		if d = d.with(word); d.dead() {
			s.checkError(t, text, offsets[i], impl.ErrSyntax)
			return
		}
	}
	if !d.whole() {
		s.checkError(t, text, int64(len(text)), impl.ErrSyntax)
		return
	}
	if zero, at, code := s.parse(text); at != 0 || code != impl.OK && code != impl.ErrInvalid || zero != (code != impl.OK) {
		t.Errorf("%s %.200q: zero is %t, offset %d, code %d", s.name, text, zero, at, code)
	}
}

// typeTexts, termTexts and programTexts have each production of the grammar and each of its alternatives, and all but the last texts are valid.
func typeTexts() []string {
	return []string{"Int", "Nat", "!Int", "(Int)", "Int -> Nat", "!(Int -> !Nat) -> (Int -> Int) -> !!Nat", "((!((Int)) -> Nat))", "!!!!!!Int"}
}

func termTexts() []string {
	return []string{
		"x", "7", "S", "S[x]", "S[x, 7, Z]", "(x)", "(-7)", "(-2147483648)", "!x", "!!(x)", "f x", "f (g y) !z (-1) S[x] 7", "x < y", "x = y", "x + y - 1", "x * y / 2 * 3", "1 * (2 + 3) < f x - 2",
		`\x:Int. x`, `\x:!(Int -> Nat) -> Int. \y:Nat. x y`, "let x = 1 in x + x", "let x = let y = 1 in y in (let z = x in z)", "if x < 1 then 2 else 3", "if if x then y else z then \\x:Int. x else let x = y in x",
		"match x { Z -> 1 }", "match f x { Z -> 1; S[n] -> match n { Z -> 2; P[a, b, c] -> if a then b else c } }", "f match x { Z -> \\y:Int. y } (match S[let y = 1 in y, if 1 then 2 else 3] { Z -> 1 } < 2)",
		"!match !x { S[x, y] -> !(x y) } 1", "(1 < 2) = (3 < 4)", "match x { S[y, y] -> 1 }",
	}
}

func programTexts() []string {
	return []string{
		"def f : Int = 1", "data A = B def f : Int = 1", "data Nat = Z | S[Nat] data Pair = P[Int, !Nat -> Int, Nat] | Q def one : !Nat -> Int = \\x:!Nat. let y = x in match y { Z -> (-1); S[n] -> 1 - (2 - 3) } def two : Nat = S[Z]",
		"data A = A def a : A = A def b : Int = a def c : Int = match a { A -> f x }", "data A = B[Int] | C[(Int), !(B)] data B = D def f : Int = x", "data A = B data C = D", "",
	}
}

func textsOf(s startSymbol) []string {
	return map[string][]string{"type": typeTexts(), "term": termTexts(), "program": programTexts()}[s.name]
}

// TestChangedTokens leaves out, doubles and replaces each token, and ends the text behind each.
func TestChangedTokens(t *testing.T) {
	g := readGrammar()
	for _, s := range startSymbols() {
		for _, text := range textsOf(s) {
			words := wordsOf(text)
			s.checkWords(t, g, words, " ")
			for i := range words {
				s.checkWords(t, g, words[:i], "\n ")
				s.checkWords(t, g, slices.Delete(slices.Clone(words), i, i+1), " ")
				s.checkWords(t, g, slices.Insert(slices.Clone(words), i, words[i]), " ")
				for _, word := range vocabulary() {
					changed := slices.Clone(words)
					changed[i] = word
					s.checkWords(t, g, changed, "\t")
					s.checkWords(t, g, slices.Insert(changed, i+1, words[i]), " ")
				}
			}
		}
	}
}

// TestAllShortTexts has each text of few tokens that can be continued, with each token behind it.
func TestAllShortTexts(t *testing.T) {
	g := readGrammar()
	for _, s := range startSymbols() {
		depth := map[string]int{"type": 6, "term": 3, "program": 6}[s.name]
		refused := 0
		var try func(words []string, d derivation)
		try = func(words []string, d derivation) {
			s.checkWords(t, g, words, " ")
			for _, word := range vocabulary() {
				longer := append(slices.Clip(words), word)
				if next := d.with(word); next.dead() {
					refused++
					s.checkWords(t, g, append(longer, "x"), " ")
				} else if len(longer) <= depth {
					try(longer, next)
				} else {
					s.checkWords(t, g, longer, " ")
				}
			}
		}
		try(nil, g.begin(s.name))
		if refused < 1000 {
			t.Errorf("%s: only %d texts that cannot be continued", s.name, refused)
		}
	}
}

// TestRandomTexts goes on with a token for which there is a continuation, and has each other one behind it.
func TestRandomTexts(t *testing.T) {
	g := readGrammar()
	random := rand.New(rand.NewSource(12))
	for range 100 {
		for _, s := range startSymbols() {
			d := g.begin(s.name)
			var words []string
			for range random.Intn(60) {
				var nexts []string
				for _, word := range vocabulary() {
					if !d.with(word).dead() {
						nexts = append(nexts, word)
					}
					if random.Intn(4) == 0 {
						s.checkWords(t, g, append(slices.Clip(words), word), " ")
					}
				}
				if len(nexts) == 0 {
					break
				}
				words = append(words, nexts[random.Intn(len(nexts))])
				d = d.with(words[len(words)-1])
			}
			s.checkWords(t, g, words, " ")
		}
	}
}

// TestMisplacedTokens has a mark before the first token that cannot be continued.
func TestMisplacedTokens(t *testing.T) {
	for name, texts := range map[string][]string{
		"type": {
			"^", "  ^", "^)", "^x", "^int", "^let", "^1", "^->", "Int^[", "Int ->^", "Int -> ^", "Int ^Int", "Int ^!", "Int ^(Int)", "Int -> ^-> Int", "!^", "!^->", "! ^)", "(^", "(Int^", "(Int ->^", "(^)", "(Int ^]", "(Int)^)", "Int^.", "Int ^= 1", "Int ^- Int", "Nat^[Int]", "!Int ^!Int",
		},
		"term": {
			"^", "\n^", "^)", "^]", "^+ 1", "^- 1", "^* 1", "^< 1", "^= 1", "^-> 1", "^in", "^then", "^else", "^data", "^def", "^{", "^;", "^,", "^.", "^:", "^|",
			"1 < 2 ^< 3", "1 < 2 ^= 3", "1 = 2 ^= 3", "1 = 2 ^< 3", "1 + 1 < 2 * 2 ^< 3", "(1 < 2 ^< 3)", "1 <^", "1 < ^< 2", "1 + ^+ 2", "1 +^", "1 * ^/ 2", "1 - ^- 2", "x ^: Int", "f x^)", "f ^, x", "1 + ^if 1 then 2 else 3",
			"f ^\\x:Int. x", "f ^let x = 1 in x", "f ^if x then y else z", "1 + ^\\x:Int. x", "1 < ^let x = 1 in x", "1 * ^let x = 1 in x", "!^\\x:Int. x", "!^let x = 1 in x", "!^if 1 then 2 else 3", "!^", "!^+", "f !^", "f !^)",
			"\\^", "\\^X:Int. x", "\\^1", "\\^let:Int. x", "\\x^", "\\x^. x", "\\x ^Int. x", "\\x:^", "\\x:^x. x", "\\x:^. x", "\\x:Int^", "\\x:Int ^x", "\\x:Int^, x", "\\x:Int -> ^. x", "\\x:Int ^= x", "\\x:Int.^", "\\x:Int. ^)", "\\x:Int. ^.", "\\x:(Int^. x", "(\\x:Int^) x",
			"let^", "let ^X = 1 in x", "let ^let", "let x^", "let x^: Int = 1 in x", "let x ^< 1", "let x ^in 1", "let x =^", "let x = ^in x", "let x = 1^", "let x = 1 ^then", "let x = 1 < 2 ^= 3 in x", "let x = 1^)", "let x = 1 in^", "let x = 1 in ^in", "let x = 1 in x ^in x",
			"if^", "if ^then", "if 1^", "if 1 ^else 2", "if 1 ^{", "if 1 then^", "if 1 then ^else 2", "if 1 then 2^", "if 1 then 2 ^then 3", "if 1 then 2 ^in 3", "if 1 then 2 else^", "if 1 then 2 else ^else", "if 1 then 2 else 3 ^else 4", "if if 1 then 2 else 3^", "if 1 then if 2 then 3 else 4^",
			"(^", "(x^", "(^)", "(x ^]", "(x^, y)", "(x)^)", "((x)^", "(-^", "(-^)", "(-^x)", "(- ^-1)", "(-^(1))", "(-^!1)", "(-1^", "(-1 ^1)", "(-1 ^+ 2)", "(-1 ^- 2)", "(-1^]", "1 -(^", "1 -^",
			"S[^", "S[^]", "S[^,", "S[x^", "S[x,^", "S[x, ^]", "S[x ^; y]", "S[x^)", "S[x]^]", "S[x]^[y]", "x^[y]", "7^[y]", "(S)^[x]", "S[x, y, z, w^", "S[x < y ^< z]", "S[\\x:Int. x^", "S[let x = 1 in x^)",
			"match^", "match ^{ Z -> 1 }", "match x^", "match x Z^", "match x {^", "match x { ^}", "match x {^}", "match x { ^z -> 1 }", "match x { ^1 -> 1 }", "match x { ^(Z) -> 1 }", "match x { ^; Z -> 1 }", "match x { ^-> 1 }", "match x { Z^", "match x { Z ^}", "match x { Z ^= 1 }", "match x { Z ^Z -> 1 }", "match x { Z ^x -> 1 }", "match x { Z ^; S -> 1 }",
			"match x { Z[^", "match x { Z[^] -> 1 }", "match x { Z[^X] -> 1 }", "match x { Z[^1] -> 1 }", "match x { Z[x^", "match x { Z[x ^y] -> 1 }", "match x { Z[x,^", "match x { Z[x, ^] -> 1 }", "match x { Z[x]^", "match x { Z[x]^[y] -> 1 }", "match x { Z[^S[x]] -> 1 }", "match x { Z[x] ^}",
			"match x { Z ->^", "match x { Z -> ^}", "match x { Z -> ^; S -> 1 }", "match x { Z -> 1^", "match x { Z -> 1 ^-> 2 }", "match x { Z -> 1 ^, S -> 2 }", "match x { Z -> 1 ^| S -> 2 }", "match x { Z -> 1^)", "match x { Z -> 1;^", "match x { Z -> 1; ^}", "match x { Z -> 1; ^; S -> 1 }", "match x { Z -> 1; S^", "match x { Z -> 1 } ^}", "match x { Z -> 1 } ^{ Z -> 2 }", "match x { Z -> match y { S -> 1 }^", "match x { Z -> match y { S -> 1; ^}",
			"^2147483648", "1 + ^2147483648", "f ^2147483648", "(^2147483648)", "!^2147483648", "(1 - ^2147483648)", "S[^2147483648]", "x - ^2147483648", "^-2147483648", "(-2147483648 ^2147483648)", "x ^def f : Int = 1", "x ^data A = B",
		},
		"program": {
			"^x", "^1", "^)", "^Data A = B", "^= 1", "data^", "data ^a", "data ^= A", "data ^data", "data A^", "data A ^A", "data A ^: Int", "data A =^", "data A = ^b", "data A = ^| B", "data A = ^!B", "data A = ^(B)", "data A = ^1", "data A = ^def", "data A = B ^C", "data A = B ^, C", "data A = B |^", "data A = B | ^| C", "data A = B | ^def f : Int = 1", "data A = B ^-> C", "data A = B ^= C",
			"data A = B[^", "data A = B[^]", "data A = B[^x]", "data A = B[Int^", "data A = B[Int,^", "data A = B[Int, ^]", "data A = B[Int ^Int]", "data A = B[Int^)", "data A = B[Int ->^", "data A = B[Int]^[Int]", "data A = B[C^[Int]]", "data A = B[(Int^]", "data A = B ^f", "data A = B ^1",
			"def^", "def ^F : Int = 1", "def ^: Int = 1", "def ^def", "def f^", "def f ^= 1", "def f ^x : Int = 1", "def f :^", "def f : ^= 1", "def f : ^int = 1", "def f : ^1 = 1", "def f : Int^", "def f : Int ^1", "def f : Int ^in 1", "def f : Int -> ^= 1", "def f : Int ^< 1", "def f : Int =^", "def f : Int = ^def g", "def f : Int = ^= 1", "def f : Int = ^)", "def f : Int = 1 ^)", "def f : Int = 1 ^data A = B", "def f : Int = 1 ^: Int", "def f : Int = (1^", "def f : Int = (1 ^def g : Int = 2", "def f : Int = 1 def^", "def f : Int = 1 < 2 ^= 3", "def f : Int = 1 = ^2147483648", "def f : Int = ^2147483648", "def f : Int = let x = 1 ^def g : Int = 1",
		},
	} {
		for _, marked := range texts {
			before, behind, found := strings.Cut(marked, "^")
			if !found || strings.Contains(behind, "^") {
				t.Fatalf("%q: no mark or two of them", marked)
			}
			for _, s := range startSymbols() {
				if s.name == name {
					s.checkError(t, before+behind, int64(len(before)), impl.ErrSyntax)
					s.checkError(t, "\n"+before+behind, int64(len(before)+1), impl.ErrSyntax)
					if behind != "" {
						s.checkError(t, before+behind+" ) ) (", int64(len(before)), impl.ErrSyntax)
					}
					// The errors of Tokens come first.
					s.checkError(t, before+behind+" #", int64(len(before+behind)+1), impl.ErrSyntax)
				}
			}
		}
	}
}

// checkTerm checks that a text is parsed as a term.
func checkTerm(t *testing.T, text string, want impl.Term) {
	t.Helper()
	if got, at, code := impl.ParseTerm(text); !equalTerms(got, want) || at != 0 || code != impl.OK {
		t.Errorf("%.200q: %.300v, offset %d, code %d; want %.300v", text, got, at, code, want)
	}
}

// TestExamplesOfParsing asserts the examples of chapter 4 on parsing.
func TestExamplesOfParsing(t *testing.T) {
	checkTerm(t, "f x + 1 < 2", termOf("(< (+ (@ f x) 1) 2)"))
	for i, c := range []struct {
		text     string
		at, code int64
	}{{"Int ->", 6, impl.ErrSyntax}, {"1 < 2 < 3", 6, impl.ErrSyntax}, {"", 0, impl.ErrInvalid}} {
		startSymbols()[i].checkError(t, c.text, c.at, c.code)
	}
}

func TestParsedTerms(t *testing.T) {
	for text, want := range map[string]string{
		"x": "x", "7": "7", "S": "S", "Int": "Int", "S[x]": "(S x)", "S[x, 7, Z]": "(S x 7 Z)", "S[S[x], S[x + y]]": "(S (S x) (S (+ x y)))", "(x)": "x", "(((S)))": "S", "!x": "(! x)", "!(x)": "(! x)", "!!x": "(! (! x))", "!S[x]": "(! (S x))",
		"f x": "(@ f x)", "f x y z": "(@ (@ (@ f x) y) z)", "f (x y) z": "(@ (@ f (@ x y)) z)", "f (x (y z))": "(@ f (@ x (@ y z)))", "f !x": "(@ f (! x))", "!f x": "(@ (! f) x)", "!(f x)": "(! (@ f x))", "f !x !!y": "(@ (@ f (! x)) (! (! y)))", "S[x] y": "(@ (S x) y)", "f S S[x]": "(@ (@ f S) (S x))", "1 2": "(@ 1 2)", "f 1": "(@ f 1)",
		"(f  (x)) ((g y))": "(@ (@ f x) (@ g y))", "(\\x:Int. x) y": `(@ (\x x) y)`, "f (\\x:Int. x)": `(@ f (\x x))`, "f (let x = y in x)": "(@ f (let:x y x))", "(let x = y in x) f": "(@ (let:x y x) f)", "f (if x then y else z)": "(@ f (if x y z))", "(if x then y else z) f": "(@ (if x y z) f)",
		"1 + (\\x:Int. x)": `(+ 1 (\x x))`, "(\\x:Int. x) + 1": `(+ (\x x) 1)`, "\\x:Int. x + 1": `(\x (+ x 1))`, "\\x:Int. x y": `(\x (@ x y))`, "\\x:Int. \\y:Nat. x < y": `(\x (\y:Nat (< x y)))`, "\\x:!Nat -> Int. x": `(\x:!Nat->Int x)`, "!(\\x:Int. x)": `(! (\x x))`,
		"let x = y in x + 1": "(let:x y (+ x 1))", "(let x = y in x) + 1": "(+ (let:x y x) 1)", "let x = y < 1 in x < 2": "(let:x (< y 1) (< x 2))", "let x = y = 1 in x = 2": "(let:x (= y 1) (= x 2))", "let x = let y = 1 in y in x": "(let:x (let:y 1 y) x)", "let x = 1 in let y = x in y": "(let:x 1 (let:y x y))", "let x = \\y:Int. y in x": `(let:x (\y y) x)`, "!(let x = y in x)": "(! (let:x y x))",
		"if x then y else z": "(if x y z)", "if x < 1 then y + 1 else z = 2": "(if (< x 1) (+ y 1) (= z 2))", "if if x then y else z then 1 else 2": "(if (if x y z) 1 2)", "if x then if y then 1 else 2 else 3": "(if x (if y 1 2) 3)", "if x then 1 else if y then 2 else 3": "(if x 1 (if y 2 3))", "1 < (if x then y else z)": "(< 1 (if x y z))", "if x then 1 else 2 + 3": "(if x 1 (+ 2 3))", "(if x then 1 else 2) + 3": "(+ (if x 1 2) 3)",
		"match x { Z -> 1 }": "(match x (|Z 1))", "match x { Z -> 1; S[n] -> n }": "(match x (|Z 1) (|S,n n))", "match f x { P[a, b, c] -> a + b; Q -> let x = 1 in x; R -> if 1 then 2 else 3; S -> \\x:Int. x }": `(match (@ f x) (|P,a,b,c (+ a b)) (|Q (let:x 1 x)) (|R (if 1 2 3)) (|S (\x x)))`,
		"match match x { Z -> 1 } { Z -> 2 }": "(match (match x (|Z 1)) (|Z 2))", "match x { Z -> match y { Z -> 1; S[n] -> 2 }; S[n] -> 3 }": "(match x (|Z (match y (|Z 1) (|S,n 2))) (|S,n 3))", "match x { S[n] -> match n { Z -> 2 } }": "(match x (|S,n (match n (|Z 2))))",
		"match x { Z -> f } 1": "(@ (match x (|Z f)) 1)", "f match x { Z -> 1 }": "(@ f (match x (|Z 1)))", "f match x { Z -> 1 } y": "(@ (@ f (match x (|Z 1))) y)", "!match x { Z -> 1 }": "(! (match x (|Z 1)))", "1 + match x { Z -> 1 } * 2": "(+ 1 (* (match x (|Z 1)) 2))", "match x { Z -> 1 } < match y { Z -> 2 }": "(< (match x (|Z 1)) (match y (|Z 2)))", "match \\x:Int. x { Z -> 1 }": `(match (\x x) (|Z 1))`, "match x < 1 { Z -> 1 }": "(match (< x 1) (|Z 1))",
		"match x { P[y, x] -> x }": "(match x (|P,y,x x))", "S[\\x:Int. x, let x = 1 in x, if 1 then 2 else 3]": `(S (\x x) (let:x 1 x) (if 1 2 3))`, "S[1 < 2, 3 = 4]": "(S (< 1 2) (= 3 4))", "(1 < 2) = (3 < 4)": "(= (< 1 2) (< 3 4))", "1 < (2 < 3)": "(< 1 (< 2 3))", "(1 < 2) < 3": "(< (< 1 2) 3)",
	} {
		checkTerm(t, text, termOf(want))
		checkTerm(t, dense(wordsOf(text)), termOf(want))
		checkTerm(t, " ( "+text+"\n)\t", termOf(want))
	}
}

func TestParsedNumbers(t *testing.T) {
	for text, want := range map[string]string{
		"0": "0", "1": "1", "2147483646": "2147483646", "2147483647": "2147483647", "(2147483647)": "2147483647", "(-0)": "0", "(-1)": "-1", "( - 5 )": "-5", "(-2147483647)": "-2147483647", "(-2147483648)": "-2147483648", "((-2147483648))": "-2147483648",
		"f (-1)": "(@ f -1)", "f -1": "(- f 1)", "f(-1)": "(@ f -1)", "!(-1)": "(! -1)", "1-1": "(- 1 1)", "1-(-1)": "(- 1 -1)", "(-1)-1": "(- -1 1)", "(-1) 1": "(@ -1 1)", "(x-1)": "(- x 1)", "S[(-1), (-2147483648)]": "(S -1 -2147483648)", "x - 2147483647": "(- x 2147483647)",
	} {
		checkTerm(t, text, termOf(want))
	}
	for text, at := range map[string]int64{
		"2147483648": 0, "(2147483648)": 1, "-1": 0, "-2147483648": 0, "-2147483647": 0, "(-2147483649)": 2, "2147483649": 0, "f -2147483648": 3, "f (-2147483648) 2147483648": 16, "01": 0, "1a": 0, "(-01)": 2, "(-00)": 2, "(--1)": 2, "(-(1))": 2, "(- -1)": 3, "(-x)": 2, "(-1 + 1)": 4, "1 - -1": 4, "1 + -1": 4, "(+1)": 1, "-(1)": 0,
	} {
		startSymbols()[1].checkError(t, text, at, impl.ErrSyntax)
	}
}

// operation is what operands with operators between them denote: the operator that binds last is the last one of those that bind least.
func operation(operands, operators []string) string {
	if len(operators) == 0 {
		return operands[0]
	}
	for _, rank := range []string{"<=", "+-", "*/"} {
		for i, operator := range slices.Backward(operators) {
			if strings.Contains(rank, operator) {
				return "(" + operator + " " + operation(operands[:i+1], operators[:i]) + " " + operation(operands[i+1:], operators[i+1:]) + ")"
			}
		}
	}
	panic("no operator")
}

// TestRowsOfOperators has all rows of up to four operators.
func TestRowsOfOperators(t *testing.T) {
	texts, terms := []string{"x", "1", "f y", "!z", "S[x]"}, []string{"x", "1", "(@ f y)", "(! z)", "(S x)"}
	var try func(operators []string)
	try = func(operators []string) {
		text, second, comparisons := texts[0], 0, 0
		for i, operator := range operators {
			if strings.Contains("<=", operator) {
				if comparisons++; comparisons == 2 {
					second = len(text) + 1
				}
			}
			text += " " + operator + " " + texts[i+1]
		}
		if comparisons > 1 {
			startSymbols()[1].checkError(t, text, int64(second), impl.ErrSyntax)
		} else {
			want := termOf(operation(terms[:len(operators)+1], operators))
			checkTerm(t, text, want)
			checkTerm(t, dense(wordsOf(text)), want)
		}
		if len(operators) < 4 {
			for _, operator := range strings.Fields("+ - * / < =") {
				try(append(slices.Clip(operators), operator))
			}
		}
	}
	try(nil)
}

// TestBlanks has every kind of blank between all tokens, and none.
func TestBlanks(t *testing.T) {
	blanks := []string{" ", "\n", "\t", "  ", " \n\t ", "\n\n\n", "\t\t \n"}
	for _, text := range termTexts()[:len(termTexts())-1] {
		want := must(impl.ParseTerm(text))
		for _, blank := range blanks {
			spread, _ := placed(wordsOf(text), blank)
			checkTerm(t, spread, want)
		}
		checkTerm(t, dense(wordsOf(text)), want)
		for _, other := range []string{"\r", "\v", "\f", "\x00", "\u00a0", "\u2003", "\ufeff"} {
			spread, offsets := placed(wordsOf(text), other)
			startSymbols()[1].checkError(t, spread, offsets[0]-int64(len(other)), impl.ErrSyntax)
		}
	}
	for _, text := range typeTexts()[:len(typeTexts())-1] {
		want := impl.TypeText(must(impl.ParseType(text)))
		for _, blank := range blanks {
			spread, _ := placed(wordsOf(text), blank)
			if got := impl.TypeText(must(impl.ParseType(spread))); got != want {
				t.Errorf("%q: %q, want %q", spread, got, want)
			}
		}
		if got := impl.TypeText(must(impl.ParseType(dense(wordsOf(text))))); got != want {
			t.Errorf("%q: %q, want %q", text, got, want)
		}
	}
	for _, text := range programTexts()[:4] {
		want := must(impl.ParseProgram(text))
		for _, blank := range blanks {
			spread, _ := placed(wordsOf(text), blank)
			if got, at, code := impl.ParseProgram(spread); !impl.SameProgram(got, want) || at != 0 || code != impl.OK {
				t.Errorf("%q: %v, offset %d, code %d", spread, got, at, code)
			}
		}
		if got, at, code := impl.ParseProgram(dense(wordsOf(text))); !impl.SameProgram(got, want) || at != 0 || code != impl.OK {
			t.Errorf("%q: %v, offset %d, code %d", text, got, at, code)
		}
	}
}

func TestParsedTypes(t *testing.T) {
	for text, want := range map[string]impl.Type{
		"Int": intType(), "Nat": dataType("Nat"), "INT": dataType("INT"), "Int1": dataType("Int1"), "(Nat)": dataType("Nat"), "!Int": bangType(intType()), "! ! (Int)": bangTypes(2, intType()), "Int->Nat": funType(intType(), dataType("Nat")),
		"A -> B -> C": funType(dataType("A"), funType(dataType("B"), dataType("C"))), "(A -> B) -> C": funType(funType(dataType("A"), dataType("B")), dataType("C")), "A -> (B -> C)": funType(dataType("A"), funType(dataType("B"), dataType("C"))),
		"!A -> B": funType(bangType(dataType("A")), dataType("B")), "!(A -> B)": bangType(funType(dataType("A"), dataType("B"))), "A -> !B": funType(dataType("A"), bangType(dataType("B"))), "!(Int->Nat)->Int": funType(bangType(funType(intType(), dataType("Nat"))), intType()),
	} {
		if got, at, code := impl.ParseType(text); !equalTypes(got, want) || at != 0 || code != impl.OK {
			t.Errorf("%q: %v, offset %d, code %d", text, got, at, code)
		}
	}
	for _, want := range validTypes() {
		for _, text := range []string{impl.TypeText(want), closedText(want), "((" + closedText(want) + ")\n)"} {
			if got, at, code := impl.ParseType(text); !equalTypes(got, want) || at != 0 || code != impl.OK {
				t.Errorf("%q: %v, offset %d, code %d", text, got, at, code)
			}
		}
	}
	for _, x := range largeTypes() {
		if text := closedText(x); len(text) <= 20000 {
			startSymbols()[0].checkError(t, text, 0, impl.ErrInvalid)
			startSymbols()[0].checkError(t, text+")", int64(len(text)), impl.ErrSyntax)
		}
	}
}

func TestParsedPrograms(t *testing.T) {
	text := "data Nat = Z | S[Nat]  data Pair = P[Int, !Nat -> Int, Nat] | Q data Int1 = Int def one : !Nat -> Int = \\x:!Nat. x def two : Nat = S[Z] + 1"
	nat := dataType("Nat")
	want := impl.Program{
		Datas: []impl.Data{
			{Name: "Nat", Cons: []impl.Constructor{{Name: "Z"}, {Name: "S", Fields: []impl.Type{nat}}}},
			{Name: "Pair", Cons: []impl.Constructor{{Name: "P", Fields: []impl.Type{intType(), funType(bangType(nat), intType()), nat}}, {Name: "Q"}}},
			{Name: "Int1", Cons: []impl.Constructor{{Name: "Int"}}},
		},
		Defs: []impl.Def{{Name: "one", Type: funType(bangType(nat), intType()), Body: termOf(`(\x:!Nat x)`)}, {Name: "two", Type: nat, Body: termOf("(+ (S Z) 1)")}},
	}
	if got, at, code := impl.ParseProgram(text); !impl.SameProgram(got, want) || at != 0 || code != impl.OK {
		t.Errorf("%v, offset %d, code %d", got, at, code)
	}
	if got, at, code := impl.ParseProgram(text[strings.Index(text, "def"):]); !impl.SameProgram(got, impl.Program{Defs: want.Defs}) || at != 0 || code != impl.OK {
		t.Errorf("%v, offset %d, code %d", got, at, code)
	}
}

// TestInvalidResults has texts that the grammar derives and that denote nothing valid, next to the largest ones that do.
func TestInvalidResults(t *testing.T) {
	term, program := startSymbols()[1], startSymbols()[2]
	for _, text := range []string{
		"S[a, a, a, a]", "S[a, a, a, a, a]", "match x { Z[a, b, c, d] -> 1 }", "match x { Z[a, a] -> 1 }", "match x { Z[a, b, a] -> 1 }", "match x { Z -> 1; S[b, b] -> 1 }", "match x { A -> 1; B -> 1; C -> 1; D -> 1; E -> 1 }",
		"\\x:!!!!!!Int. x", "\\x:A -> A -> A -> A -> A -> A -> A. x", "1" + strings.Repeat(" + 1", 80), strings.Repeat("!", 24) + "x", "(" + strings.Repeat("!", 24) + "x)", strings.Repeat("!", 23) + "(f x)", "f" + strings.Repeat(" x", 24), "1" + strings.Repeat(" - 1", 24),
		strings.Repeat("\\x:Int. ", 24) + "x", strings.Repeat("let x = 1 in ", 24) + "x", strings.Repeat("if 1 then 2 else ", 24) + "x", strings.Repeat("S[", 24) + "x" + strings.Repeat("]", 24), strings.Repeat("match x { Z -> ", 12) + "1" + strings.Repeat(" }", 12), "match x { Z -> " + strings.Repeat("!", 22) + "x }",
	} {
		term.checkError(t, text, 0, impl.ErrInvalid)
		term.checkError(t, "\n "+text+" ", 0, impl.ErrInvalid)
		term.checkError(t, "("+text+")", 0, impl.ErrInvalid)
		term.checkError(t, text+" )", int64(len(text)+1), impl.ErrSyntax)
		term.checkError(t, "("+text, int64(len(text)+1), impl.ErrSyntax)
		program.checkError(t, "def f : Int = "+text, 0, impl.ErrInvalid)
	}
	for _, text := range []string{
		"S[a, a, a]", "match x { Z[a, b, c] -> 1 }", "match x { A -> 1; B -> 1; C -> 1; D -> 1 }", "\\x:!!!!!Int. x", "match x { Z -> 1; Z -> 1 }", "match x { Z[a] -> 1; Z[a] -> 1 }", strings.Repeat("!", 23) + "x", "f" + strings.Repeat(" x", 23), "1" + strings.Repeat(" - 1", 23),
		strings.Repeat("\\x:Int. ", 23) + "x", strings.Repeat("let x = 1 in ", 23) + "x", strings.Repeat("S[", 23) + "x" + strings.Repeat("]", 23), strings.Repeat("match x { Z -> ", 11) + "1" + strings.Repeat(" }", 11), "match x { Z -> " + strings.Repeat("!", 21) + "x }",
	} {
		if x, at, code := impl.ParseTerm(text); !impl.ValidTerm(x) || at != 0 || code != impl.OK {
			t.Errorf("%q: %v, offset %d, code %d", text, x, at, code)
		}
	}
	for n := 150; n <= 170; n++ {
		x := sizedTerm(n)
		text := strings.Join(loose(x, setOf(composite(x))), " ")
		if n <= 160 {
			checkTerm(t, text, x)
		} else {
			term.checkError(t, text, 0, impl.ErrInvalid)
		}
	}
	const def = " def f : A = B"
	for _, text := range []string{
		"", " \n", "data A = B", "data A = B" + def + def, "data A = B data A = C" + def, "data A = B | B" + def, "data A = B data C = B" + def, "data Int = B" + def, "data A = B[C]" + def, "data A = B[!C -> A]" + def, "data A = B[A, A, A, A]" + def, "data A = B | C | D | E | F" + def, "data A = B data C = D data E = F data G = H data I = J" + def,
		"data A = B[!!!!!!Int]" + def, "def f : !!!!!!Int = 1", "def f : A -> A -> A -> A -> A -> A -> A = 1", "def f : Int = S[1, 1, 1, 1]", "def f : Int = 1 def g : Int = match x { Z[y, y] -> 1 }", strings.Repeat("def f : Int = 1 ", 2), "def a : A = B def b : A = B def c : A = B def d : A = B def e : A = B def f : A = B def g : A = B def h : A = B def i : A = B",
	} {
		program.checkError(t, text, 0, impl.ErrInvalid)
		program.checkError(t, text+"]", int64(len(text)), impl.ErrSyntax)
	}
	for _, text := range []string{"data A = B" + def, "data A = A[A, !A -> Int, !!!!!Int] | C | D | E data B = B0 data C = C0 data D = D0" + def, "data Lost = L[Lost] def f : Other = Unknown[x]", "def a : A = B def b : A = B def c : A = B def d : A = B def e : A = B def f : A = B def g : A = B def h : A = B"} {
		if p, at, code := impl.ParseProgram(text); !impl.ValidProgram(p) || at != 0 || code != impl.OK {
			t.Errorf("%q: %v, offset %d, code %d", text, p, at, code)
		}
	}
}

// nesting is a text that is repeated, with one in the middle and one behind it.
type nesting struct {
	open, middle, closing string
	n                     int
}

func (n nesting) text() string {
	return strings.Repeat(n.open, n.n) + n.middle + strings.Repeat(n.closing, n.n)
}

// TestDeepTexts nests as deep as texts permit. Parentheses do not count as nodes.
func TestDeepTexts(t *testing.T) {
	checkTerm(t, nesting{"(", "x", ")", 9999}.text(), leafOf("x"))
	checkTerm(t, "1 - "+nesting{"(", "(-1)", ")", 9990}.text(), termOf("(- 1 -1)"))
	if x, at, code := impl.ParseType(nesting{"(", "Int", ")", 9998}.text()); x.Kind != impl.TyInt || at != 0 || code != impl.OK {
		t.Error(x.Kind, at, code)
	}
	if p, at, code := impl.ParseProgram("def f : " + nesting{"(", "Int", ")", 4990}.text() + " = " + nesting{"(", "1", ")", 4990}.text()); !impl.ValidProgram(p) || at != 0 || code != impl.OK {
		t.Error(p, at, code)
	}
	g := readGrammar()
	for name, list := range map[string][]nesting{
		"type": {{"!", "Int", "", 19997}, {"A->", "A", "", 6666}, {"(A->", "A", ")", 3999}, {"(", "A", ")->A", 3330}, {"!(", "A", ")", 6666}},
		"term": {
			{"!", "x", "", 19999}, {"x ", "x", "", 9999}, {"x+", "x", "", 9999}, {"1-", "1", "", 9999}, {"x*", "x", "", 9999}, {"f(", "x", ")", 6666}, {"1-(", "1", ")", 4999}, {"(1<", "1", ")", 4999}, {"!(", "x", ")", 6666}, {"(", "x", ")y", 6666}, {"S[", "x", "]", 6666}, {"S[x,", "x", "]", 3999}, {`\x:A.`, "x", "", 3333}, {`(\x:A.`, "x", ")", 2499},
			{"let x=1 in ", "x", "", 1818}, {"let x=", "1", " in x", 1818}, {"if 1 then 1 else ", "1", "", 1176}, {"if ", "1", " then 1 else 1", 1176}, {"if 1 then ", "1", " else 1", 1176}, {"match ", "x", "{Z->1}", 1666}, {"match x{Z->", "1", "}", 1666}, {"match x{Z->1;S->", "1", "}", 1176},
			{"S[x" + strings.Repeat(",x", 9998), "", "]", 1}, {"match x{Z->1" + strings.Repeat(";Z->1", 3997), "", "}", 1}, {"match x{Z[a" + strings.Repeat(",a", 9991), "", "]->1}", 1},
		},
		"program": {{"def f:A=1 ", "", "", 2000}, {"data A=B ", "", "", 2222}, {"data A=B" + strings.Repeat("|C", 9996), "", "", 1}, {"data A=B[A" + strings.Repeat(",A", 9994), "", "]", 1}, {"data A=B[(", strings.Repeat("(A)->", 3990) + "A", ")]", 1}, {`def f:A=\x:` + strings.Repeat("!", 19980), "A", ".x", 1}},
	} {
		s := startSymbols()[slices.Index([]string{"type", "term", "program"}, name)]
		for _, nest := range list {
			text := nest.text()
			s.checkError(t, text, 0, impl.ErrInvalid)
			for _, changed := range []string{text[:len(text)-1], text[1:], text[:len(text)/2] + "]", strings.Repeat(nest.open, nest.n), text[:len(text)-2] + ")]"} {
				s.checkText(t, g, changed)
			}
		}
	}
	for _, s := range startSymbols() {
		s.checkText(t, g, nesting{"(", "x", ")", 9999}.text()+")")
		s.checkText(t, g, strings.Repeat("(", 20000))
		s.checkText(t, g, strings.Repeat("(", 19999)+")")
		s.checkText(t, g, strings.Repeat("match ", 3333))
	}
}

// TestParsedTextsWithAllParentheses has the texts of random terms with every pair of parentheses that may be there.
func TestParsedTextsWithAllParentheses(t *testing.T) {
	for _, x := range randomTerms(1000) {
		checkTerm(t, dense(loose(x, setOf(composite(x)))), x)
	}
}

// memoryOf tells where the slices of a result are, from the first byte to behind the last one of their capacity.
type memoryOf [][2]uintptr

func sliceIn[T any](m *memoryOf, list []T) {
	var one T
	if cap(list) > 0 {
		from := uintptr(unsafe.Pointer(unsafe.SliceData(list)))
		*m = append(*m, [2]uintptr{from, from + uintptr(cap(list))*unsafe.Sizeof(one)})
	}
}

func (m *memoryOf) addType(t impl.Type) {
	sliceIn(m, t.Kids)
	for _, kid := range t.Kids {
		m.addType(kid)
	}
}

func (m *memoryOf) addTerm(t impl.Term) {
	sliceIn(m, t.Kids)
	sliceIn(m, t.Names)
	m.addType(t.Type)
	for _, kid := range t.Kids {
		m.addTerm(kid)
	}
}

func (m *memoryOf) addProgram(p impl.Program) {
	sliceIn(m, p.Datas)
	sliceIn(m, p.Defs)
	for _, data := range p.Datas {
		sliceIn(m, data.Cons)
		for _, constructor := range data.Cons {
			sliceIn(m, constructor.Fields)
			for _, field := range constructor.Fields {
				m.addType(field)
			}
		}
	}
	for _, def := range p.Defs {
		m.addType(def.Type)
		m.addTerm(def.Body)
	}
}

// overlap reports whether two of the slices share memory.
func (m memoryOf) overlap() bool {
	slices.SortFunc(m, func(a, b [2]uintptr) int { return slices.Compare(a[:], b[:]) })
	for i := 1; i < len(m); i++ {
		if m[i-1][1] > m[i][0] {
			return true
		}
	}
	return false
}

// TestParsedResultsShareNoMemory is P1 for the results of parsing: no two slices, of one result or of two, have memory in common.
func TestParsedResultsShareNoMemory(t *testing.T) {
	var m memoryOf
	var kept []any
	for range 2 {
		for _, text := range typeTexts() {
			x, _, _ := impl.ParseType(text)
			m.addType(x)
			kept = append(kept, x)
		}
		for _, text := range termTexts() {
			x, _, _ := impl.ParseTerm(text)
			m.addTerm(x)
			list, _, _ := impl.Tokens(text)
			sliceIn(&m, list)
			kept = append(kept, x, list)
		}
		for _, text := range programTexts() {
			p, _, _ := impl.ParseProgram(text)
			m.addProgram(p)
			kept = append(kept, p)
		}
	}
	if m.overlap() {
		t.Fatalf("two slices share memory in %.300s", fmt.Sprint(kept...))
	}
	if len(m) < 300 {
		t.Errorf("only %d slices", len(m))
	}
}
