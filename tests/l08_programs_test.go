package tests

import (
	"fmt"
	"math"
	"math/rand"
	"slices"
	"strings"
	"testing"

	"loop.example/g01074/impl"
)

func checkEval(t *testing.T, p impl.Program, budget int64, want string, wantCode int64) {
	t.Helper()
	got, code := impl.EvalMain(p, budget)
	if impl.CoreText(got) != want || code != wantCode || code != impl.OK && !isNoCore(got, code, wantCode) {
		t.Errorf("%.700s with the budget %d: %.300s, code %d, want %.300s, code %d", impl.PrintProgram(p), budget, impl.CoreText(got), code, want, wantCode)
	}
}

// erasedBookOf is the erased book of a program and the definition main in it, or the code of what fails first.
func erasedBookOf(p impl.Program) (machineState, int64) {
	b, code := impl.LiftProgram(p)
	if code != impl.OK {
		return machineState{}, code
	}
	main := slices.IndexFunc(p.Defs, func(d impl.Def) bool { return d.Name == "main" })
	if main < 0 {
		return machineState{}, impl.ErrNotFound
	}
	for k, c := range b.Defs {
		if b.Defs[k], code = eraseAsStated(c); code != impl.OK {
			return machineState{}, code
		}
	}
	return machineState{b, b.Defs[main]}, impl.OK
}

// checkEvalAsStated compares a program with chapter 8 for budgets around the number of steps of main. It tells the text of the normal form and the code for the greatest budget.
func checkEvalAsStated(t *testing.T, p impl.Program) (string, int64) {
	t.Helper()
	s, code := erasedBookOf(p)
	if code != impl.OK {
		for _, budget := range []int64{-1, 0, 2000, 2001} {
			checkEval(t, p, budget, "", code)
		}
		return "", code
	}
	normal, counts, code := normalizeAsStated(s.b, s.c, 2000)
	text := impl.CoreText(normal)
	if code == impl.OK {
		steps := counts[0] + counts[1] + counts[2] + counts[3]
		checkEval(t, p, steps, text, impl.OK)
		if steps > 0 {
			checkEval(t, p, steps-1, "", impl.ErrBudget)
			checkEval(t, p, 0, "", impl.ErrBudget)
		}
	}
	checkEval(t, p, 2000, text, code)
	for _, budget := range []int64{-1, 2001, math.MinInt64, math.MaxInt64} {
		checkEval(t, p, budget, "", impl.ErrRange)
	}
	return text, code
}

// evalTools are definitions with recursion, branches and boxes.
func evalTools() []string {
	return []string{
		`fact : Int -> Int = \n:Int. let m = n in if m then let k = m in k * fact (k - 1) else 1`,
		`add : Nat -> Nat -> Nat = \x:Nat. \y:Nat. match x { Z -> y; S[k] -> S[add k y] }`,
		`count : Nat -> Int = \x:Nat. match x { Z -> 0; S[k] -> 1 + count k }`,
		`twice : !(Nat -> Nat) -> !(Nat -> Nat) = \f:!(Nat -> Nat). let g = f in !(\x:Nat. g (g x))`,
		`loop : Int = loop + 1`,
	}
}

// TestEvalMain has programs of all kinds, with the text of the normal form and what it means.
func TestEvalMain(t *testing.T) {
	for _, row := range [][3]string{
		{"Int = 7", "7", "7"}, {"Int = 1 + 2 * 3", "7", "7"}, {"Int = (2 - 5) / 2", "-1", "-1"}, {"Int = 2147483647 + 1", "-2147483648", "-2147483648"}, {"Int = 3 / 0 + (1 < 2) + (1 = 2)", "1", "1"},
		{"Nat = S[S[Z]]", "<1 <1 <0>>>", "<1 <1 <0>>>"}, {"Pair = P[1 + 2, !S[Z]]", "<0 3 <1 <0>>>", "<0 3 <1 <0>>>"}, {"Tri = C[S[Z], 2 * 2]", "<2 <1 <0>> 4>", "<2 <1 <0>> 4>"}, {"Fun = F[\\x:Int. x + (1 + 2), Z, P[1, !Z]]", "<0 ^(#0 + 3) <0> <0 1 <0>>>", "<0 function <0> <0 1 <0>>>"},
		{`Int -> Int = \x:Int. x + (1 + 2)`, "^(#0 + 3)", "function"}, {`Int -> Nat -> Int = \x:Int. \y:Nat. (\z:Int. z) x`, "^^#1", "function"}, {`Int = (\x:Int. x * 2) (1 + 2)`, "6", "6"}, {`Int = (\f:Int -> Int. f 3) (\x:Int. x - 1)`, "2", "2"},
		{"!Int = let x = !(1 + 2) in !(x * x)", "9", "9"}, {"!!Int = let x = !!3 in !x", "3", "3"}, {"Int = let x = 2 in let y = x * x in y * y + x", "18", "18"}, {`!Int = let f = !(\x:Int. x + 1) in !(f (f (f 0)))`, "3", "3"}, {`!(Int -> Int) = let f = !(\x:Int. x + 1) in !(\x:Int. f (f x))`, "^((#0 + 1) + 1)", "function"},
		// A branch or a definition by itself is not unfolded.
		{"Int = if 0 then 1 else 2", "@7", "2"}, {"Int = if 5 then 1 else 2", "@6", "1"}, {"Int = 1 + (if 0 then 1 else 2)", "3", "3"}, {"Nat = match Z { Z -> S[Z]; S[n] -> n }", "@6", "<1 <0>>"}, {"Int = loop", "@5", "no end"}, {"Nat -> Int = count", "@3", "function"}, {"Nat = match S[S[Z]] { Z -> Z; S[n] -> n }", "<1 <0>>", "<1 <0>>"}, {"Int -> Int = if 1 then fact else fact", "@6", "function"},
		{"Int = match P[3, !Z] { P[a, b] -> a + 1 }", "4", "4"}, {"!Nat = match P[3, !S[Z]] { P[a, b] -> let n = b in !S[n] }", "<1 <1 <0>>>", "<1 <1 <0>>>"}, {"Int = match B[4] { A -> 1; B[x] -> x; C[n, x] -> count n }", "4", "4"}, {"Int = match C[S[S[Z]], 9] { A -> 1; B[x] -> x; C[n, x] -> count n }", "2", "2"},
		{"Int = fact 0", "1", "1"}, {"Int = 0 + fact 5", "120", "120"}, {"Int = fact 5", "120", "120"}, {"Nat = add S[S[Z]] S[Z]", "<1 <1 <1 <0>>>>", "<1 <1 <1 <0>>>>"}, {"Int = count (add S[S[Z]] S[S[S[Z]]])", "5", "5"}, {"!Nat = let h = twice (twice !(\\x:Nat. S[x])) in !(h Z)", "<1 <1 <1 <1 <0>>>>>", "<1 <1 <1 <1 <0>>>>>"}, {"!Int = let h = twice (twice (twice !(add S[Z]))) in !(count (h Z))", "8", "8"},
		// What is not needed does not matter.
		{`Int = (\x:Int. 3) loop`, "3", "3"}, {"Int = let x = loop in 4", "4", "4"}, {"Int = if 1 then 2 + 3 else loop", "@6", "5"}, {`Int = match P[loop, !Z] { P[a, b] -> 5 }`, "5", "5"}, {"Pair = P[1, let x = !loop in !Z]", "<0 1 <0>>", "<0 1 <0>>"},
	} {
		defs := append([]string{"main : " + row[0]}, evalTools()...)
		p := checkedProgram(defs...)
		if got := meaningOf(p); got != row[2] {
			t.Fatalf("%s: the test is wrong: main is %s", row[0], got)
		}
		text, code := checkEvalAsStated(t, p)
		if text != row[1] || code != impl.OK {
			t.Errorf("%s: %s, code %d, want %s", row[0], text, code, row[1])
		}
		checkMeaning(t, p)
		// The place of main among the definitions does not matter to its meaning.
		q := impl.Program{Datas: p.Datas, Defs: append(slices.Clone(p.Defs[1:]), p.Defs[0])}
		checkEvalAsStated(t, q)
		checkMeaning(t, q)
	}
}

// checkMeaning compares the normal form of main with the value of main. It tells whether there are both.
func checkMeaning(t *testing.T, p impl.Program) bool {
	t.Helper()
	s, _ := erasedBookOf(p)
	normal, code := impl.EvalMain(p, 2000)
	if code != impl.OK {
		return false
	}
	got, want := toldNormal(s.b, normal, 6), meaningOf(p)
	if isEndless(got) || isEndless(want) {
		return false
	}
	if got != want {
		t.Errorf("%.700s: normal form %.300s, which is %.300s, want %.300s", impl.PrintProgram(p), impl.CoreText(normal), got, want)
	}
	return true
}

func TestEvalMainOfRandomPrograms(t *testing.T) {
	random := rand.New(rand.NewSource(141))
	counts := map[string]int{}
	for i := range 1200 {
		p := randomChecked(random, 1<<40)
		if i%4 == 0 {
			p = randomChecked(random, 4)
		}
		text, code := checkEvalAsStated(t, p)
		counts[impl.CodeName(code)]++
		if code == impl.OK && checkMeaning(t, p) && text[0] != '@' {
			counts["with a meaning"]++
		}
	}
	if counts["ok"] < 300 || counts["with a meaning"] < 150 || counts["notfound"] < 100 || counts["linear"]+counts["level"] < 5 {
		t.Errorf("only %v", counts)
	}
}

// TestErrorsOfEvalMain has programs that fail the checks or have no book, with main or without it.
func TestErrorsOfEvalMain(t *testing.T) {
	check := func(p impl.Program, code int64) {
		t.Helper()
		for _, budget := range []int64{-1, 0, 5, 2000, 2001} {
			checkEval(t, p, budget, "", code)
		}
	}
	codes, parts := brokenParts()
	for i, code := range codes {
		if code == impl.OK {
			continue
		}
		for _, place := range []string{"#", "1 + #", "if # then 1 else 2", "if 1 then 2 else #", "let x = !# in 1", "loop + #"} {
			body := strings.ReplaceAll(place, "#", parts[i])
			check(checkedProgram("main : Int = "+body, "loop : Int = loop"), code)
			check(checkedProgram("main : Int = 1", "loop : Int = "+strings.ReplaceAll(body, "loop", "main")), code)
			check(checkedProgram("f : Int = "+body, "loop : Int = "+doublingLets(8)), code)
		}
	}
	for _, p := range invalidPrograms() {
		check(p, impl.ErrInvalid)
	}
	// Too many definitions, with main and without.
	full := withBranches(31, 31)
	check(full, impl.ErrFull)
	full.Defs = append(full.Defs, impl.Def{Name: "main", Type: intType(), Body: leafOf("1")})
	check(full, impl.ErrFull)
	// No main, and erasures that are too large.
	check(checkedProgram("f : Int = 1"), impl.ErrNotFound)
	check(checkedProgram("main2 : Int = 1", "mai : Int = 2"), impl.ErrNotFound)
	check(checkedProgram("f : Int = "+doublingLets(8)), impl.ErrNotFound)
	for _, other := range []string{"f : Int = " + doublingLets(8), "f : Int = let x = " + doublingLets(8) + " in 1", "f : Int = if 1 then 2 else " + doublingLets(8), `f : Int -> Int = \y:Int. if y then 2 else ` + doublingLets(8)} {
		check(checkedProgram("main : Int = 1", other), impl.ErrFull)
		check(checkedProgram(other, "main : Int = 1"), impl.ErrFull)
		check(checkedProgram(strings.ReplaceAll(other, "f :", "main :")), impl.ErrFull)
	}
	checkEval(t, checkedProgram("main : Int = 1", "f : Int = "+doublingLets(7)), 0, "1", impl.OK)
	// Main has no normal form, or is too large on the way.
	for text, code := range map[string]int64{"main : Int = loop + 1": impl.ErrBudget, `main : Int -> Int = \x:Int. x + (1 + loop)`: impl.ErrBudget, "main : Nat = S[nats]": impl.OK, "main : Int = nat nats": impl.ErrFull, "main : Int = deep 1": impl.ErrFull, "main : Int = 1 + " + doublingLets(7): impl.OK} {
		p := checkedProgram(text, "loop : Int = loop", "nats : Nat = S[nats]", "nat : Nat -> Int = \\n:Nat. match n { Z -> 0; S[m] -> 1 + nat m }", `deep : Int -> Int = \x:Int. 1 + deep x`)
		if _, got := checkEvalAsStated(t, p); got != code {
			t.Fatalf("%s: the test is wrong: code %d", text, got)
		}
	}
}

// doublingLets is the text of a term of which the erasure has 2^(n+1) - 1 nodes.
func doublingLets(n int) string {
	text := "(let x1 = 1 + 1 in "
	for i := 2; i <= n; i++ {
		text += fmt.Sprintf("let x%d = x%d + x%d in ", i, i-1, i-1)
	}
	return text + fmt.Sprintf("x%d)", n)
}

// TestEvalMainAtTheLimits has programs of which the erasures have MaxCore nodes and one more, and normal forms that take MaxSteps steps and one more.
func TestEvalMainAtTheLimits(t *testing.T) {
	quadrupled := filled(termOf("(let:x # (+ (+ x x) (+ x x)))"), sizedSum(97))
	for i, c := range []struct {
		body  impl.Term
		nodes int
		code  int64
	}{
		{filled(termOf(`(@ (\y y) (+ # (+ 1 (+ 1 2))))`), quadrupled), 400, impl.OK},
		{filled(termOf(`(@ (\y y) (+ # (+ (+ 1 1) (+ 1 2))))`), quadrupled), 402, impl.ErrFull},
		{filled(termOf(`(+ (+ # (+ 1 1)) (+ (+ 1 1) 2))`), quadrupled), 401, impl.ErrFull},
		{filled(termOf(`(+ # (+ (+ 1 1) (+ 1 2)))`), quadrupled), 399, impl.OK},
	} {
		p := withBody(c.body)
		b, _ := impl.LiftProgram(p)
		if erased, fits := nameCore(b.Defs[0]).erased(); fits != (c.code == impl.OK) || fits && erased.nodes() != c.nodes {
			t.Fatalf("%d: the test is wrong: %d nodes", i, erased.nodes())
		}
		if _, code := checkEvalAsStated(t, p); code != c.code {
			t.Errorf("%d: code %d", i, code)
		}
	}
	for _, n := range []int{1, 17, 1999, 2000, 2001} {
		text := strings.NewReplacer("(@0 ", "(double ").Replace(withSteps(n))
		p := must(impl.ParseProgram(`def double : Int -> Int = \n:Int. let m = n in m + m def main : Int = ` + text))
		// Main is the definition 1, and double becomes the same term as in the other book.
		steps := int64(n)
		if n > 2000 {
			checkEval(t, p, 2000, "", impl.ErrBudget)
			continue
		}
		normal, _, _ := impl.Normalize(bookOf("^(#0 + #0)"), coreOf(withSteps(n)), 2000)
		checkEval(t, p, steps, impl.CoreText(normal), impl.OK)
		checkEval(t, p, steps-1, "", impl.ErrBudget)
		checkEval(t, p, 2000, impl.CoreText(normal), impl.OK)
	}
}
