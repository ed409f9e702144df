package tests

import (
	"fmt"
	"math/rand"
	"slices"
	"strings"
	"testing"

	"loop.example/g01074/impl"
)

// checkPrinted checks that the text of a term is the expected one, has no pair of parentheses too many, and is parsed as the term.
func checkPrinted(t *testing.T, x impl.Term, want string) {
	t.Helper()
	got := impl.PrintTerm(x)
	if got != want {
		t.Errorf("%.300v: %.300q, want %.300q", x, got, want)
		return
	}
	checkTerm(t, got, x)
	words := wordsOf(got)
	for i, pair := range pairsOf(words) {
		if pair > 0 && denotes(slices.Delete(slices.Delete(slices.Clone(words), pair, pair+1), i, i+1), x) {
			t.Errorf("%.300q: the parentheses at token %d are not needed", got, i)
		}
	}
}

// pairsOf tells for each token that opens parentheses which one closes them, and 0 for the others.
func pairsOf(words []string) []int {
	pairs := make([]int, len(words))
	var open []int
	for i, word := range words {
		switch word {
		case "(":
			open = append(open, i)
		case ")":
			pairs[open[len(open)-1]] = i
			open = open[:len(open)-1]
		}
	}
	return pairs
}

// TestExamplesOfPrinting asserts the examples of chapter 4 on printing.
func TestExamplesOfPrinting(t *testing.T) {
	checkPrinted(t, must(impl.ParseTerm("(f  (x)) ((g y))")), "f x (g y)")
	text := "data Nat = Z | S[Nat]\ndef one : !Nat -> Int = \\x:!Nat. let y = x in match y { Z -> (-1); S[n] -> 1 - (2 - 3) }\n"
	if p := must(impl.ParseProgram(text)); impl.PrintProgram(p) != text || !impl.IsCanonical(text) {
		t.Errorf("%q", impl.PrintProgram(p))
	}
	if !impl.IsCanonical("def f : Int = 1\n") || impl.IsCanonical("def f : Int = (1)\n") {
		t.Error("a canonical text and one that is none")
	}
}

func TestPrintedTerms(t *testing.T) {
	for term, want := range map[string]string{
		"x": "x", "abcdefghijkl": "abcdefghijkl", "0": "0", "7": "7", "2147483647": "2147483647", "-1": "(-1)", "-2147483648": "(-2147483648)", "S": "S", "Int": "Int", "(S x)": "S[x]", "(S x 7 -7)": "S[x, 7, (-7)]", "(S (S Z) (+ x y))": "S[S[Z], x + y]", "(! x)": "!x", "(! (! -1))": "!!(-1)", "(! (S x))": "!S[x]", "(! (@ f x))": "!(f x)", "(! (+ x y))": "!(x + y)",
		"(@ f x)": "f x", "(@ (@ f x) y)": "f x y", "(@ f (@ x y))": "f (x y)", "(@ f (! x))": "f !x", "(@ (! f) x)": "!f x", "(@ f -1)": "f (-1)", "(@ -1 -1)": "(-1) (-1)", "(@ f (+ 1 2))": "f (1 + 2)", "(@ (+ 1 2) f)": "(1 + 2) f", "(@ (@ f (@ g x)) (! (@ h y)))": "f (g x) !(h y)",
		"(+ (+ 1 2) 3)": "1 + 2 + 3", "(+ 1 (+ 2 3))": "1 + (2 + 3)", "(- (+ 1 2) (- 3 4))": "1 + 2 - (3 - 4)", "(* (+ 1 2) (/ 3 4))": "(1 + 2) * (3 / 4)", "(+ (* 1 2) (/ 3 4))": "1 * 2 + 3 / 4", "(/ (* 1 2) 3)": "1 * 2 / 3", "(< (+ 1 2) (* 3 4))": "1 + 2 < 3 * 4", "(< (< 1 2) 3)": "(1 < 2) < 3", "(= 1 (= 2 3))": "1 = (2 = 3)", "(= (< 1 2) (= 3 4))": "(1 < 2) = (3 = 4)", "(+ (< 1 2) 3)": "(1 < 2) + 3", "(- 1 -1)": "1 - (-1)", "(* (@ f x) (! y))": "f x * !y",
		`(\x x)`: `\x:Int. x`, `(\x:!Nat->Int (\y:A->B->C (@ x y)))`: `\x:!Nat -> Int. \y:A -> B -> C. x y`, `(@ (\x x) (\y y))`: `(\x:Int. x) (\y:Int. y)`, `(! (\x x))`: `!(\x:Int. x)`, `(+ (\x x) (\y y))`: `(\x:Int. x) + (\y:Int. y)`, `(S (\x x) (\y y))`: `S[\x:Int. x, \y:Int. y]`, `(\x (< x 1))`: `\x:Int. x < 1`,
		"(let:x 1 x)": "let x = 1 in x", "(let:x (let:y 1 y) (let:z x z))": "let x = let y = 1 in y in let z = x in z", "(let:x (= y 1) (= x 1))": "let x = y = 1 in x = 1", `(let:x (\y y) x)`: `let x = \y:Int. y in x`, "(@ f (let:x 1 x))": "f (let x = 1 in x)", "(+ (let:x 1 x) 1)": "(let x = 1 in x) + 1", "(! (let:x 1 x))": "!(let x = 1 in x)", "(S (let:x 1 x))": "S[let x = 1 in x]",
		"(if 1 2 3)": "if 1 then 2 else 3", "(if (if 1 2 3) (if 4 5 6) (if 7 8 9))": "if if 1 then 2 else 3 then if 4 then 5 else 6 else if 7 then 8 else 9", "(if (< 1 2) (let:x 1 x) (\\y y))": "if 1 < 2 then let x = 1 in x else \\y:Int. y", "(+ 1 (if 1 2 3))": "1 + (if 1 then 2 else 3)", "(@ (if 1 2 3) x)": "(if 1 then 2 else 3) x", "(! (if 1 2 3))": "!(if 1 then 2 else 3)", "(S (if 1 2 3) 4)": "S[if 1 then 2 else 3, 4]",
		"(match x (|Z 1))": "match x { Z -> 1 }", "(match (@ f x) (|Z 1) (|S,n -1) (|P,a,b,c (\\y y)))": `match f x { Z -> 1; S[n] -> (-1); P[a, b, c] -> \y:Int. y }`, "(match (match x (|Z 1)) (|Z (match y (|Z 2))))": "match match x { Z -> 1 } { Z -> match y { Z -> 2 } }", "(@ (match x (|Z 1)) (match y (|Z 2)))": "match x { Z -> 1 } match y { Z -> 2 }", "(! (match x (|Z 1)))": "!match x { Z -> 1 }", "(+ (match x (|Z 1)) (match x (|Z 1)))": "match x { Z -> 1 } + match x { Z -> 1 }", "(match (let:x 1 x) (|Z (let:x 1 x)) (|S (if 1 2 3)))": "match let x = 1 in x { Z -> let x = 1 in x; S -> if 1 then 2 else 3 }",
	} {
		checkPrinted(t, termOf(term), want)
	}
	lambda := termOf(`(\x x)`)
	for text, want := range map[string]string{"!(Int->Nat)->Int": `\x:!(Int -> Nat) -> Int. x`, "(A->B)->!!C": `\x:(A -> B) -> !!C. x`, "!(!A->(A->B)->A)": `\x:!(!A -> (A -> B) -> A). x`} {
		lambda.Type = typeOf(text)
		checkPrinted(t, lambda, want)
	}
}

// termShapes are terms of each kind, with each operator, and with as few and as many kids as there can be.
func termShapes() []impl.Term {
	var list []impl.Term
	for _, text := range []string{
		"x", "7", "-7", "Z", "(S x)", "(P x 1 Z)", `(\y y)`, `(\y:Int->!Nat y)`, "(@ f x)", "(@ (@ f x) y)", "(! x)", "(! (! -1))", "(let:y x y)", "(match x (|Z 1))", "(match x (|Z 1) (|S,n n) (|P,a,b,c 1) (|Q 2))", "(if x y z)",
		"(+ 1 2)", "(- 1 2)", "(* 1 2)", "(/ 1 2)", "(< 1 2)", "(= 1 2)",
	} {
		list = append(list, termOf(text))
	}
	return list
}

// termPlaces are all places that a kid can have, marked by the constructor "#".
func termPlaces() []impl.Term {
	var list []impl.Term
	for _, text := range []string{
		`(\y #)`, `(\y:!A->B->A #)`, "(@ # x)", "(@ f #)", "(! #)", "(let:y # y)", "(let:y x #)", "(S #)", "(P # x)", "(P x #)", "(P # x y)", "(P x # y)", "(P x y #)", "(match # (|Z 1))", "(match # (|Z 1) (|S,n 1))", "(match x (|Z #))", "(match x (|S,n #))", "(match x (|Z #) (|S,n,m 1))", "(match x (|Z 1) (|S,n #) (|Q 1))", "(match x (|Z 1) (|S,n #))", "(if # x y)", "(if x # y)", "(if x y #)",
		"(+ # 1)", "(+ 1 #)", "(- # 1)", "(- 1 #)", "(* # 1)", "(* 1 #)", "(/ # 1)", "(/ 1 #)", "(< # 1)", "(< 1 #)", "(= # 1)", "(= 1 #)",
	} {
		list = append(list, termOf(text))
	}
	return list
}

// fewest finds, among all ways to enclose nodes of a term in parentheses, the one with the fewest pairs of those that are parsed as the term.
func fewest(x impl.Term) []string {
	nodes := composite(x)
	var best []string
	for set := range 1 << len(nodes) {
		enclosed := map[int]bool{}
		for i, n := range nodes {
			enclosed[n] = set>>i&1 == 1
		}
		if words := loose(x, enclosed); denotes(words, x) && (best == nil || len(words) < len(best)) {
			best = words
		}
	}
	return best
}

// TestEachKindInEachPlace is P5 for every kind of term in every place of every other kind.
func TestEachKindInEachPlace(t *testing.T) {
	for _, place := range termPlaces() {
		for _, shape := range termShapes() {
			x := filled(place, shape)
			checkPrinted(t, x, spaced(fewest(x)))
			for _, around := range termPlaces() {
				y := filled(around, x)
				checkPrinted(t, y, spaced(tight(y)))
			}
		}
	}
}

func TestPrintedRandomTerms(t *testing.T) {
	random := rand.New(rand.NewSource(13))
	types := validTypes()
	for _, x := range randomTerms(600) {
		for i := range nodesOfTerm(x) {
			if node := nodeAt(&x, i); node.Kind == impl.TmLam {
				node.Type = types[random.Intn(len(types))]
			}
		}
		checkPrinted(t, x, spaced(tight(x)))
	}
}

func TestInvalidTermsHaveNoText(t *testing.T) {
	for _, x := range append(append(invalidTerms(), endlessTerms()...), tangledTerm(60, leafOf("x")), sizedTerm(161), boxes(24, leafOf("x"))) {
		if got := impl.PrintTerm(x); got != "" {
			t.Errorf("%.300s: %.300q", fmt.Sprint(x.Kind, x.Name, x.Names), got)
		}
		p := withBody(x)
		if got := impl.PrintProgram(p); got != "" {
			t.Errorf("%.300s: %.300q", fmt.Sprint(x.Kind, x.Name, x.Names), got)
		}
	}
	checkPrinted(t, sizedTerm(160), spaced(tight(sizedTerm(160))))
	checkPrinted(t, boxes(23, leafOf("x")), strings.Repeat("!", 23)+"x")
}

// longTerm has a text of n bytes, of 18700 to 20150, and needs no parentheses.
func longTerm(n int) impl.Term {
	const name = "Aaaaaaaaaaaa"
	long := typeOf(strings.ReplaceAll("!((N->N)->(N->N)->(N->N)->N->N)", "N", name))
	chain := nested(15, leafOf("x"), func(kid impl.Term) impl.Term {
		return impl.Term{Kind: impl.TmLam, Name: "abcdefghijkl", Type: long, Kids: []impl.Term{kid}}
	})
	three := func(kid impl.Term) impl.Term {
		return impl.Term{Kind: impl.TmCon, Name: "C", Kids: []impl.Term{kid, kid, kid}}
	}
	x := roomyTerm(three(three(chain)))
	excess := len(spaced(loose(x, nil))) - n
	for i := range nodesOfTerm(x) {
		if node := nodeAt(&x, i); node.Kind == impl.TmLam {
			cut := min(excess, len(node.Name)-1)
			node.Name = node.Name[:len(node.Name)-cut]
			excess -= cut
		}
	}
	if len(spaced(loose(x, nil))) != n {
		panic(fmt.Sprint("no term of ", n, " bytes"))
	}
	return x
}

func TestLongestTexts(t *testing.T) {
	for _, n := range []int{18800, 19999, 20000, 20001, 20002, 20150} {
		x := longTerm(n)
		text := spaced(loose(x, nil))
		if n <= 20000 {
			if got := impl.PrintTerm(x); got != text {
				t.Errorf("%d bytes: %.100q with %d bytes", n, got, len(got))
			}
			checkTerm(t, text, x)
		} else if got := impl.PrintTerm(x); got != "" || !impl.ValidTerm(x) {
			t.Errorf("%d bytes: %.100q with %d bytes", n, got, len(got))
		}
		// Here the limit is that of the whole text, even where each body is short enough.
		for _, around := range [][2]string{{"def f : Int = ", "\n"}, {"def f : Int = ", "\ndef g : Int = 2\n"}, {"data A = B | C[A, Int]\ndef f : Int = 1\ndef g : A = ", "\n"}} {
			body := longTerm(n - len(around[0]+around[1]))
			text := around[0] + spaced(loose(body, nil)) + around[1]
			p := must(impl.ParseProgram(around[0] + "x" + around[1]))
			p.Defs[strings.Count(around[0], "def")-1].Body = body
			got := impl.PrintProgram(p)
			if want := n <= 20000; want != (got == text) || want == (got == "") || impl.IsCanonical(text) != want {
				t.Errorf("%d bytes: %.100q with %d bytes, canonical is %t", n, got, len(got), impl.IsCanonical(text))
			}
		}
	}
	p := programOf("", "f : Int = 1", "g : Int = 2")
	p.Defs[0].Body, p.Defs[1].Body = longTerm(19000), longTerm(19000)
	if got := impl.PrintProgram(p); got != "" || !impl.ValidProgram(p) {
		t.Errorf("%.100q with %d bytes", got, len(got))
	}
}

// checkCanonical checks that a program is printed as it has to be, and that this text is parsed as the program.
func checkCanonical(t *testing.T, p impl.Program) {
	t.Helper()
	want := writtenProgram(p)
	if len(want) > 20000 {
		return
	}
	if got := impl.PrintProgram(p); got != want {
		t.Errorf("%.300q, want %.300q", got, want)
	}
	if got, at, code := impl.ParseProgram(want); !impl.SameProgram(got, p) || at != 0 || code != impl.OK {
		t.Errorf("%.300q: %.300v, offset %d, code %d", want, got, at, code)
	}
	if !impl.IsCanonical(want) || impl.Diagnostic(want) != "" {
		t.Errorf("%.300q: canonical is %t, %q", want, impl.IsCanonical(want), impl.Diagnostic(want))
	}
	for _, changed := range []string{want[:len(want)-1], want + " ", want + "\n", " " + want, "\n" + want, strings.Replace(want, "\n", "\n\n", 1), strings.Replace(want, "\n", " \n", 1), strings.Replace(want, "\n", "\t", 1), strings.Replace(want, " : ", ": ", 1), strings.Replace(want, " = ", "  = ", 1), strings.Replace(want, " = ", "\n= ", 1), strings.Replace(want, " = ", "= ", 1)} {
		if impl.IsCanonical(changed) {
			t.Errorf("%.300q is canonical", changed)
		}
	}
}

// TestCanonicalPrograms is the first half of P5.
func TestCanonicalPrograms(t *testing.T) {
	for _, text := range programTexts()[:5] {
		checkCanonical(t, must(impl.ParseProgram(text)))
	}
	for _, datas := range someValidDatas() {
		checkCanonical(t, impl.Program{Datas: datas, Defs: defsOf(1).Defs})
	}
	for n := range 8 {
		checkCanonical(t, defsOf(n+1))
	}
	random := rand.New(rand.NewSource(14))
	types := validTypes()
	for range 150 {
		p := randomProgram(random)
		for i := range p.Defs {
			p.Defs[i].Type = types[random.Intn(len(types))]
		}
		checkCanonical(t, p)
	}
}

func TestTextsThatAreNotCanonical(t *testing.T) {
	for _, text := range []string{
		"", "\n", "x", "1", "def", ")", "#", "data A = B\n", "def f : Int = 1", "def f : Int = 1 \n", "def f : Int = 1\n\n", "def f : Int = 1\n ", "def  f : Int = 1\n", "def f: Int = 1\n", "def f :Int = 1\n", "def f : (Int) = 1\n", "def f : Int->Int = 1\n", "def f : Int = x\ty\n", "def f : Int = (-0)\n", "def f : Int = (- 1)\n", "def f : Int = 1+1\n", "def f : Int = ! x\n", "def f : Int = S[ 1]\n", "def f : Int = S[1,2]\n", "def f : Int = S[1 , 2]\n", "def f : Int = S [1]\n",
		"def f : Int = \\x: Int. x\n", "def f : Int = \\x:Int.x\n", "def f : Int = \\x:Int . x\n", "def f : Int = \\ x:Int. x\n", "def f : Int = match x {Z -> 1}\n", "def f : Int = match x { Z->1 }\n", "def f : Int = match x { Z -> 1 ; S -> 2 }\n", "def f : Int = match x { Z -> 1;S -> 2 }\n", "def f : Int = 1 def g : Int = 2\n", "def f : Int = 1\ndef g : Int = 2", "data A = B def f : Int = 1\n", "data A = B|C\ndef f : Int = 1\n", "data A = B[Int,Int]\ndef f : Int = 1\n", "def f : Int = 1\ndata A = B\n", "def f : Int = 1\ndef f : Int = 1\n", "def f : Int = 1\n" + strings.Repeat(" ", 20000),
	} {
		if impl.IsCanonical(text) {
			t.Errorf("%.100q is canonical", text)
		}
	}
}

func TestInvalidProgramsHaveNoText(t *testing.T) {
	var list []impl.Program
	for _, datas := range someInvalidDatas() {
		list = append(list, impl.Program{Datas: datas, Defs: defsOf(1).Defs})
	}
	for _, x := range append(brokenTypes(), largeTypes()...) {
		p := defsOf(2)
		p.Defs[1].Type = x
		list = append(list, p)
	}
	for _, name := range append(keywords(), "", "X", "1", "x_", "abcdefghijklm", "d0") {
		p := defsOf(2)
		p.Defs[1].Name = name
		list = append(list, p)
	}
	list = append(list, impl.Program{}, defsOf(0), defsOf(9), defsOf(100000), impl.Program{Datas: datasOf("A = B")})
	for _, p := range list {
		if got := impl.PrintProgram(p); got != "" {
			t.Errorf("%.300q", got)
		}
	}
}

// TestCanonicalTextsWithOneByteChanged leaves out, replaces and puts in single bytes.
func TestCanonicalTextsWithOneByteChanged(t *testing.T) {
	bytes := "\x00\r\x7f\x80\xff\n\t"
	for b := byte(' '); b < 127; b++ {
		bytes += string(b)
	}
	canonical, others := 0, 0
	check := func(text string) {
		p, _, code := impl.ParseProgram(text)
		want := code == impl.OK && writtenProgram(p) == text
		if impl.IsCanonical(text) != want {
			t.Errorf("%q: canonical is %t, code %d", text, !want, code)
		}
		if code == impl.OK && want {
			canonical++
		} else if code == impl.OK {
			others++
		}
	}
	for _, text := range []string{
		"def f : Int = 1\n",
		"data Nat = Z | S[Nat, Int]\ndef f : !(Nat -> Nat) = \\x:!Nat. f !x (-1)\n",
		"def one : Int = let y = 3 in match y { Z -> 1; S[n] -> 1 - (2 - 3) }\ndef g : A = if x < 1 then S[x, 2] else !(f x)\n",
	} {
		if !impl.IsCanonical(text) {
			t.Errorf("%q is not canonical", text)
		}
		for at := range len(text) + 1 {
			for i := range len(bytes) {
				check(text[:at] + bytes[i:i+1] + text[at:])
				if at < len(text) {
					check(text[:at] + bytes[i:i+1] + text[at+1:])
				}
			}
			if at < len(text) {
				check(text[:at] + text[at+1:])
			}
		}
	}
	if canonical < 1000 || others < 1000 {
		t.Errorf("only %d and %d texts", canonical, others)
	}
}

// TestPrintingIsPure is P1 for the functions that print.
func TestPrintingIsPure(t *testing.T) {
	terms := append(invalidTerms(), randomTerms(300)...)
	var first []string
	for i := range terms {
		terms[i] = roomyTerm(terms[i])
		before := dumpTerm(terms[i])
		first = append(first, impl.PrintTerm(terms[i]))
		if after := dumpTerm(terms[i]); after != before {
			t.Fatalf("%.300s became %.300s", before, after)
		}
	}
	random := rand.New(rand.NewSource(15))
	var programs []impl.Program
	for range 100 {
		p := roomyProgram(randomProgram(random))
		before := dumpProgram(p)
		programs = append(programs, p)
		first = append(first, impl.PrintProgram(p))
		if after := dumpProgram(p); after != before {
			t.Fatalf("%.300s became %.300s", before, after)
		}
	}
	for i, p := range slices.Backward(programs) {
		if got := impl.PrintProgram(p); got != first[len(terms)+i] {
			t.Errorf("first %.300q, then %.300q", first[len(terms)+i], got)
		}
	}
	for i, x := range slices.Backward(terms) {
		if got := impl.PrintTerm(x); got != first[i] {
			t.Errorf("first %.300q, then %.300q", first[i], got)
		}
	}
}
