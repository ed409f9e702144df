package tests

import (
	"fmt"
	"slices"
	"strings"
	"testing"

	"loop.example/g01074/impl"
)

// checkRows checks definitions of main beside some others, by the code of CheckProgram.
func checkRows(t *testing.T, rows map[int64][]string) {
	t.Helper()
	for code, list := range rows {
		for _, def := range list {
			checkAll(t, checkedProgram("main : "+def, "box : !Int = !1", `fun : Int -> Int = \v:Int. v`, `add : Int -> Int -> Int = \v:Int. \u:Int. v + u`, "nat : Nat = Z"), code)
		}
	}
}

// TestExamplesOfLevelsAndUses asserts the examples of chapter 5 on levels, uses and functions of one term.
func TestExamplesOfLevelsAndUses(t *testing.T) {
	checkRows(t, map[int64][]string{
		impl.OK:        {`Int -> Int = \x:Int. let y = x in y + y`, `Int -> Int = \x:Int. let y = x in if y then let z = y in z + z else 0`},
		impl.ErrLevel:  {`Int -> !Int = \x:Int. !x`, `!(Int -> Int) -> Int = \f:!(Int -> Int). let g = f in g 1`},
		impl.ErrLinear: {`Int -> Int = \x:Int. x + x`, `Int -> Int = \x:Int. let y = x in if y then y + y else 0`},
	})
	checkOneTerm(t, "if y then y + y else 0", "y", 3, []int64{0, 0, 0}, 0)
	checkOneTerm(t, "y + !y", "y", 2, []int64{0, 1}, 1)
}

func TestLevels(t *testing.T) {
	checkRows(t, map[int64][]string{
		impl.OK: {
			`Int -> Int = \x:Int. x`, `!(Int -> Int) = !(\x:Int. x)`, `!!(Int -> Int) = !!(\x:Int. x)`, `Int -> !Int = \x:Int. !1`, `!(Int -> !(Int -> Int)) = !(\x:Int. !(\y:Int. y))`, `!Int -> !Int = \x:!Int. x`,
			"!Int = let x = !1 in !x", "!Int = let x = !1 in !(x + x)", "Int = let x = !1 in 2", "!Int = let x = box in !x", "!Int = !(let x = box in 1)", "!!Int = !(let x = box in !x)", `!(Int -> Int) -> !Int = \f:!(Int -> Int). let g = f in !(g (g 1))`, `!(Int -> Int) = let f = !fun in !(\x:Int. f x)`, "!Nat = let x = !Z in !S[x]",
			"Int = let x = 1 in x", "!Int = !(let x = 1 in x)", "!!Int = !!(let x = 1 in x + x)", "!Int = let x = 1 in let y = !2 in !y", "!!Int = let x = !!1 in !x", "!!Int = let x = !!1 in !(let y = x in !y)",
			`Nat -> Nat = \x:Nat. match x { Z -> Z; S[y] -> y }`, `!(Nat -> Nat) = !(\x:Nat. match x { Z -> Z; S[y] -> S[y] })`, "!Nat = match nat { Z -> !Z; S[y] -> !Z }", "Int = match P[1, !Z] { P[a, b] -> let c = b in a }", "!Nat = match P[1, !Z] { P[a, b] -> let c = b in !c }",
			`Int -> Int = \x:Int. if x then 1 else 2`, `Int -> !Int = \x:Int. if x then !1 else !(2 + 3)`, `!(Int -> Int) = !(\x:Int. if 1 then x else x)`, "!Int = let x = !1 in if 1 then !x else !(x + x)",
			// Definitions may have any level.
			"!!Int = !!(fun (fun 1))", "!!Int = !box", "!!!Int = !!!(add (fun 1) 2)", "!Int = let x = fun 1 in !(fun 2)", "!Int = !(let x = !main in 1)", `!(Int -> Int) = !(\x:Int. fun (fun x))`,
			// One name bound at two levels.
			`Int -> !(Int -> Int) = \x:Int. !(\x:Int. x)`, "!Int = let x = 1 in let x = !2 in !x", `!Int -> !Int = \x:!Int. let x = x in !x`, `!!Int -> !!Int = \x:!!Int. let x = x in !(let x = x in !x)`, `Nat -> !Nat = \x:Nat. match x { Z -> !Z; S[x] -> let x = !Z in !x }`, "!Int = !((let x = !1 in 2) + (let x = 1 in x))",
			// A name of a definition that is bound beside its free occurrences.
			`Int -> !Int = \fun:Int. let nat = !2 in !nat`, `!Int = !(fun ((\fun:Int. fun) 1))`, "!Int = let box = box in !box", "!Int = let x = (let box = 1 in box) in box",
		},
		impl.ErrLevel: {
			`!Int -> !!Int = \x:!Int. !x`, `Int -> !!Int = \x:Int. !!x`, `Int -> !(Int -> Int) = \x:Int. !(\y:Int. x)`, `!(Int -> !Int) = !(\x:Int. !x)`, `!(Int -> Int -> !Int) = !(\x:Int. \y:Int. !y)`, `Int -> Int -> !Int = \x:Int. \y:Int. !x`,
			"Int = let x = !1 in x", "!!Int = let x = !1 in !!x", "Int = let x = box in x", "!Int = !(let x = !1 in x)", "!Int = let x = !!1 in !(let y = x in y)", "!!!Int = let x = !!1 in !!x", "!Int = let x = !!1 in x", "Int = let x = !!1 in let y = x in 2",
			"!Int = let x = 1 in !x", "!!Int = !(let x = 1 in !x)", "!!Int = !(let x = 1 in let y = x in !y)", "!Int = let x = 1 in let y = x in !y", "!Int = let x = 1 in let y = !2 in !x", `Int -> Int = \x:Int. let y = !x in 1`, `Int -> Int = \x:Int. let y = box in y`,
			`Nat -> !Nat = \x:Nat. match x { Z -> !Z; S[y] -> !y }`, `Nat -> !Nat = \x:Nat. match nat { Z -> !x; S[y] -> !Z }`, `Nat -> !Nat = \x:Nat. match nat { Z -> !Z; S[y] -> !x }`, "Int = match P[1, !Z] { P[a, b] -> let c = b in match c { Z -> 1; S[n] -> 2 } }", "!Int = match P[1, !Z] { P[a, b] -> !a }", "!!Nat = match P[1, !Z] { P[a, b] -> !b }",
			`Int -> !Int = \x:Int. if 1 then !x else !2`, `Int -> !Int = \x:Int. if 1 then !2 else !x`, "Int = let x = !1 in if x then 1 else 2", "Int = let x = !1 in if 1 then x else 2", "Int = let x = !1 in if 1 then 2 else x",
			"!Int = let x = !1 in let x = 2 in !x", "Int = let x = 1 in let x = !2 in x", "!Int = let x = 1 in let x = !x in !x", `!(Int -> Int) = !(\x:Int. let x = !1 in x)`, `Int -> !(Int -> Int) = \x:Int. !(\y:Int. x + y)`, "!Int = let x = !1 in !(match B[2] { A -> x; B[x] -> x; C[n, x] -> let x = box in x })",
			`Int -> !Int = \fun:Int. !fun`, "Int = let box = box in box", "!Int = (let box = 1 in !box)",
		},
	})
}

// intPlaces are terms of the type Int, with a term of this type in each place that a kid can have, outside of boxes.
func intPlaces() []string {
	return []string{
		"#", "# + 1", "1 * #", "# < 1", `(\q:Int. #) 1`, "fun #", `(\q:Int. fun) # 1`, "let q = # in 1", "let q = 1 in #", "let q = box in #", "match S[match B[#] { A -> Z; B[q] -> Z; C[q, r] -> Z }] { Z -> 1; S[q] -> 2 }", "match C[Z, #] { A -> 1; B[q] -> 2; C[q, r] -> 3 }", "match P[#, !Z] { P[q, r] -> q }",
		"match A { A -> #; B[q] -> 1; C[q, r] -> 2 }", "match A { A -> 1; B[q] -> #; C[q, r] -> 2 }", "match A { A -> 1; B[q] -> 2; C[q, r] -> # }", "match F[fun, Z, P[#, !Z]] { F[q, r, s] -> 1 }", "if # then 1 else 2", "if 1 then # else 2", "if 1 then 2 else #",
		"1 + (if 1 then (match nat { Z -> fun 1; S[q] -> let r = 1 in # }) else 2)",
	}
}

// TestLevelsAndUsesInEachPlace breaks a condition in one place only.
func TestLevelsAndUsesInEachPlace(t *testing.T) {
	rows := map[int64][]string{}
	for _, place := range append(intPlaces(), "let q = !# in 1", "let q = !!# in 1", "let q = box in match P[1, !(match nat { Z -> Z; S[q] -> match B[#] { A -> Z; B[q] -> Z; C[q, r] -> Z } })] { P[q, r] -> q }") {
		at := func(hole string) string { return "Int = " + strings.ReplaceAll(place, "#", "("+hole+")") }
		rows[impl.OK] = append(rows[impl.OK], at("1"), at(`(\x:Int. x) 2`), at("let x = !1 in 2"), at("let x = 1 in x + x"))
		rows[impl.ErrType] = append(rows[impl.ErrType], at("1 + Z"), at("fun Z"), at("if 1 then 2 else fun"))
		rows[impl.ErrLevel] = append(rows[impl.ErrLevel], at("let x = !1 in x"), at(`(\x:Int. let y = !x in 1) 2`), at("let x = 1 in let y = !x in 2"))
		rows[impl.ErrLinear] = append(rows[impl.ErrLinear], at(`(\x:Int. x + x) 1`), at("let x = 1 in if x then x + x else x"), at("match nat { Z -> 1; S[x] -> match P[1, !Z] { P[a, b] -> a + a } }"))
	}
	for _, place := range intPlaces() {
		at := func(hole string) string {
			return `Int -> Int = \x:Int. ` + strings.ReplaceAll(place, "#", "("+hole+")")
		}
		rows[impl.ErrType] = append(rows[impl.ErrType], at("Z"), at("fun"))
		rows[impl.OK] = append(rows[impl.OK], at("x"), at("let y = x in y * y"), at("if 1 then x else x"))
		rows[impl.ErrLevel] = append(rows[impl.ErrLevel], at("let y = !x in 1"), at("let y = !(x + x) in 1"))
		rows[impl.ErrLinear] = append(rows[impl.ErrLinear], at("x + x"), at("if x then 1 else x"), at("let y = x in x"))
	}
	checkRows(t, rows)
}

func TestLevelsAtTheLimit(t *testing.T) {
	// Terms with the level that their deepest node has in them.
	for text, own := range map[string]int{
		"1": 0, "Z": 0, "fun": 0, "(1 + 2)": 0, "(fun 1)": 0, "S[Z]": 0, `(\y:Int. y)`: 0, `(\y:Int. 1)`: 0, "(let y = 1 in y + y)": 0, "(match nat { Z -> Z; S[y] -> y })": 0, "(if 1 then 2 else 3)": 0, "!1": 1, "box": 0, "!box": 1,
		// Here the variable has a level of which there is no node.
		"(let y = box in 2)":                             0,
		"(let y = !fun in 2)":                            1,
		"(let y = box in !y)":                            1,
		"(let y = box in !2)":                            1,
		"P[1, !Z]":                                       1,
		`(\y:Int. !1)`:                                   1,
		`!(\y:Int. y)`:                                   1,
		"(let y = !!1 in !(let z = y in !z))":            2,
		"(let y = !!1 in !(let z = y in 2))":             2,
		"(match nat { Z -> box; S[y] -> !1 })":           1,
		"(match nat { Z -> !1; S[y] -> box })":           1,
		"(if 1 then !!2 else !box)":                      2,
		"((let y = !1 in 2) + (let y = !(fun 1) in 3))":  1,
		"(if (let y = !!1 in 2) then 3 else 4)":          2,
		"(if 1 then (let y = !!!1 in 2) else 3)":         3,
		"(match nat { Z -> 1; S[y] -> let y = !1 in 2})": 1,
	} {
		for n := 1; n <= 15; n++ {
			want := int64(impl.OK)
			if n+own > 8 {
				want = impl.ErrLevel
			}
			boxed := strings.Repeat("!", n) + text
			for _, place := range []string{"let x = # in 2", "if 1 then (let x = # in 2) else 3", "if 1 then 2 else (let x = # in 3)", "match nat { Z -> 1; S[y] -> let x = # in 2 }", "(let x = # in 2) + (let x = !1 in 2)"} {
				checkRows(t, map[int64][]string{want: {"Int = " + strings.ReplaceAll(place, "#", boxed)}})
			}
			p := checkedProgram("main : Int = 1", "nat : Nat = Z", "box : !Int = !1", `fun : Int -> Int = \v:Int. v`, "last : Int = let x = "+boxed+" in 2")
			checkCodes(t, p, want)
		}
	}
}

func TestUses(t *testing.T) {
	checkRows(t, map[int64][]string{
		impl.OK: {
			`Int -> Int = \x:Int. 1`, `Int -> Int = \x:Int. x`, `Int -> Int -> Int = \x:Int. \y:Int. x + y`, `Int -> Int -> Int = \x:Int. \y:Int. y`, `Int -> Int -> Int = \x:Int. \y:Int. if x then y else y`,
			// Once in each branch, in one of them, or in the first Kid.
			`Int -> Int = \x:Int. if 1 then x else x`, `Int -> Int = \x:Int. if 1 then x else 2`, `Int -> Int = \x:Int. if 1 then 2 else x`, `Int -> Int = \x:Int. if x then 1 else 2`, `Int -> Int = \x:Int. match nat { Z -> x; S[y] -> x }`, `Int -> Int = \x:Int. match A { A -> x; B[y] -> x + y; C[n, y] -> y + x }`, `Nat -> Int = \x:Nat. match x { Z -> 1; S[y] -> 2 }`,
			`Int -> Int = \x:Int. if 1 then if 2 then x else x else match nat { Z -> x; S[y] -> 3 }`, `Int -> Int = \x:Int. match nat { Z -> if 2 then 3 else x; S[y] -> match y { Z -> x; S[z] -> x } }`,
			// The variable of a let outside of branches, in a branch of its level, and in one of another level.
			"Int = let x = 1 in x + x + x", "Int = let x = 1 in (if x then 1 else 2) + x", "!Int = let x = !1 in !(x + x + x)", "Int = let x = 1 in x + (if x + x then x else x) + x", "Int = let x = 1 in if x then (if 2 then x else x) else x", "Int = let x = 1 in match B[x + x] { A -> x; B[y] -> x + y; C[n, y] -> y }",
			"!Int = let x = !1 in if 1 then !(x + x) else !2", "!Int = let x = !1 in match nat { Z -> !(x + x); S[n] -> !(x * x) }", "!Int = let x = !1 in if 1 then (if 2 then !(x + x) else !x) else !(x + x)", "!Int = let x = !1 in if 1 then !(if x then x else x) else !2", "!Int = let x = !1 in let y = !2 in if 1 then !(x + x + y + y) else !y", "!!Int = let x = !!1 in !(let y = x in if 1 then !(y + y) else !y)",
			"Int = if 1 then (let x = 2 in x + x) else 0", "Int = if 1 then (let x = 2 in if x + x then x else x) else 0", "Int = match nat { Z -> let x = 2 in x + x; S[n] -> let x = 3 in x * x }",
			// The variables of a case in its own branch.
			"Nat = match nat { Z -> Z; S[y] -> S[y] }", "Nat = match nat { Z -> Z; S[y] -> if 1 then y else y }", "Int = match C[Z, 1] { A -> 0; B[y] -> y; C[n, y] -> y + (match n { Z -> 0; S[m] -> 1 }) }", "Int = match A { A -> 1; B[y] -> let z = y in z + z; C[n, y] -> let z = y in z * z }", "Nat = match nat { Z -> Z; S[y] -> match y { Z -> Z; S[y] -> y } }",
			// One name bound twice.
			`Int -> Int = \x:Int. x + (\x:Int. x) 1`, `Int -> Int = \x:Int. (\x:Int. x) x`, "Int = let x = 1 in if 1 then (\\x:Int. x) x else x", "Int = let x = 1 in if 1 then (let x = x in x + x) else x", "Int = let y = 1 in (match B[y] { A -> y; B[y] -> y; C[y, n] -> n }) + y", `Int -> Int = \x:Int. let x = x in x + x`, "Int = let x = 1 in match B[x] { A -> x; B[x] -> let x = x in x + x; C[n, x] -> x }",
			// Definitions are used any number of times.
			"Int = fun (fun 1) + fun 2", "Int = if 1 then fun (fun 1) else fun (fun 2)", "Int = match nat { Z -> add main main; S[n] -> main }", `Int -> Int = \x:Int. if main 1 + main 2 then main 3 else main (main x)`,
		},
		impl.ErrLinear: {
			`Int -> Int = \x:Int. add x x`, `!(Int -> Int) = !(\x:Int. x + x)`, `Int -> Int = \x:Int. (x + 1) * (2 - x)`, `Int -> Int -> Int = \x:Int. \y:Int. x + x`, `Int -> Int -> Int = \x:Int. \y:Int. y + y`, `Int -> Int = \x:Int. let y = x in x`, `Int -> Int = \x:Int. x + (x + x)`,
			// Twice in one branch and not in the others, in the first Kid and in a branch.
			`Int -> Int = \x:Int. if 1 then x + x else 0`, `Int -> Int = \x:Int. if 1 then 0 else x + x`, `Int -> Int = \x:Int. if 1 then x else x + x`, `Int -> Int = \x:Int. match nat { Z -> x + x; S[y] -> 0 }`, `Int -> Int = \x:Int. match nat { Z -> 0; S[y] -> x + x }`, `Int -> Int = \x:Int. match A { A -> 0; B[y] -> x + x; C[n, y] -> x }`,
			`Int -> Int = \x:Int. if x then x else 0`, `Int -> Int = \x:Int. if x then 0 else x`, `Int -> Int = \x:Int. if x + x then 1 else 0`, `Int -> Int = \x:Int. match B[x] { A -> x; B[y] -> y; C[n, y] -> y }`, `Int -> Int = \x:Int. match B[x] { A -> 1; B[y] -> y; C[n, y] -> x }`, `Nat -> Nat = \x:Nat. match x { Z -> x; S[y] -> y }`, `Int -> Int = \x:Int. x + (if 1 then x else 0)`,
			// In a branch inside a branch.
			`Int -> Int = \x:Int. if 1 then (if x then x else 0) else 0`, `Int -> Int = \x:Int. if 1 then 0 else (if 2 then x + x else 0)`, `Int -> Int = \x:Int. if 1 then x + (if 2 then 0 else x) else 0`, `Int -> Int = \x:Int. match nat { Z -> 0; S[y] -> match y { Z -> 0; S[z] -> if x then 0 else x } }`,
			// In a box inside a branch.
			`!(Int -> Int) = if 1 then !(\x:Int. x + x) else !fun`, `!(Int -> Int) = if 1 then !fun else !(\x:Int. if x then x else 1)`, "!Int = if 1 then !2 else !(let x = 1 in if 1 then x + x else 2)", "!Int = let x = !1 in if 1 then !(if 2 then x + x else 0) else !2", "!Int = let x = !1 in if 1 then !2 else !(if x then x else x * x)", "!Int = let x = !1 in match nat { Z -> !2; S[n] -> !(match nat { Z -> 0; S[n] -> x + x }) }",
			// The variable of a let in a branch of its level.
			"Int = let x = 1 in if 1 then x + x else 0", "Int = let x = 1 in if 1 then 0 else x + x", "Int = let x = 1 in match nat { Z -> x + x; S[n] -> 0 }", "Int = let x = 1 in match nat { Z -> 0; S[n] -> x + x }", "Int = let x = 1 in match A { A -> x; B[y] -> x + x; C[n, y] -> y }", "Int = let x = 1 in if 1 then (if x then x else 0) else 0", "Int = let x = 1 in if x then (if x then x else x) else x", "Int = let x = 1 in if 1 then 0 else (if 2 then 0 else x + x)", "Int = let x = 1 in if 1 then x + (if 2 then 0 else x) else 0", "Int = if 1 then (let x = 2 in if x then x + x else 0) else 0", "!Int = let x = !1 in !(if 1 then x + x else 0)", "!Int = !(let x = 1 in if 1 then x + x else 0)", "!!Int = let x = !!1 in !(let y = x in !(if y then y + y else 0))", "Int = let x = 1 in let y = 2 in if x then y + y else x", "Int = let x = 1 in let y = 2 in if y then x + x else y", `Int -> Int = \y:Int. let x = 1 in if x then y else y + x + x`,
			// The variables of a case.
			"Int = match B[1] { A -> 0; B[y] -> y + y; C[n, y] -> 0 }", "Int = match B[1] { A -> 0; B[y] -> y; C[n, y] -> y + y }", "Nat = match nat { Z -> Z; S[y] -> match y { Z -> y; S[m] -> Z } }", "Int = match F[fun, Z, P[1, !Z]] { F[a, b, c] -> a (a 1) }", "Int = match F[fun, Z, P[1, !Z]] { F[a, b, c] -> match b { Z -> 1; S[n] -> match b { Z -> 2; S[m] -> 3 } } }", "Int = match F[fun, Z, P[1, !Z]] { F[a, b, c] -> match c { P[d, e] -> match c { P[g, h] -> g } } }",
			// One name bound twice.
			`Int -> Int = \x:Int. x + (let x = x in x)`, `Int -> Int = \x:Int. (\x:Int. x + x) 1`, "Int = let x = 1 in (\\x:Int. x + x) x", "Int = let y = 1 in match B[2] { A -> y; B[y] -> y; C[n, m] -> y + y }", "Int = let y = 1 in match B[2] { A -> y + y; B[y] -> y; C[n, y] -> y }", "Int = let x = 1 in if 1 then x + (let x = x in x) else 0", "Int = let x = 1 in let x = 2 in if x then x + x else 0", `Int -> Int = \fun:Int. fun + fun`, "Int = let main = 1 in if main then 2 else main + main",
		},
	})
}

// checkOneTerm checks the functions of one term.
func checkOneTerm(t *testing.T, text, name string, uses int64, levels []int64, depth int64) {
	t.Helper()
	x := must(impl.ParseTerm(text))
	n := numbered(x)
	if usesAsStated(n, name) != uses || !slices.Equal(levelsAsStated(n, name), levels) || depthAsStated(x) != depth {
		t.Fatalf("%s, %s: %d uses, levels %d, depth %d as stated", text, name, usesAsStated(n, name), levelsAsStated(n, name), depthAsStated(x))
	}
	for i, x := range []impl.Term{x, withOwnNames(x)} {
		if got := fmt.Sprint(impl.UsesOf(x, name), impl.LevelsOf(x, name), impl.BoxDepth(x)); got != fmt.Sprint(uses, levels, depth) {
			t.Errorf("%s, %s (%d): %s, want %d uses, levels %d, depth %d", text, name, i, got, uses, levels, depth)
		}
	}
}

func TestFunctionsOfOneTerm(t *testing.T) {
	for _, c := range []struct {
		text, name string
		uses       int64
		levels     []int64
		depth      int64
	}{
		{"y", "y", 1, []int64{0}, 0}, {"y", "x", 0, nil, 0}, {"1", "y", 0, nil, 0}, {"y y y", "y", 3, []int64{0, 0, 0}, 0}, {"!!y", "y", 1, []int64{2}, 2}, {"!1", "y", 0, nil, 1}, {"Y", "Y", 0, nil, 0}, {"S[y, !y]", "S", 0, nil, 1}, {"S[y, !y, y]", "y", 3, []int64{0, 1, 0}, 1}, {"y", "", 0, nil, 0}, {"7", "7", 0, nil, 0},
		// Each kind with the name in each Kid.
		{"!y < y", "y", 2, []int64{1, 0}, 1}, {`\x:Int. y`, "y", 1, []int64{0}, 0}, {"y !x", "y", 1, []int64{0}, 1}, {"!x y", "y", 1, []int64{0}, 1}, {"let x = !y in y", "y", 2, []int64{1, 0}, 1}, {"let x = 1 in !!y", "y", 1, []int64{2}, 2}, {"if !y then 1 else 2", "y", 1, []int64{1}, 1}, {"if 1 then !y else 2", "y", 1, []int64{1}, 1}, {"if 1 then 2 else !y", "y", 1, []int64{1}, 1}, {"match !y { Z -> 1 }", "y", 1, []int64{1}, 1}, {"match 1 { Z -> !y }", "y", 1, []int64{1}, 1},
		// Branches: the one that uses the name most often counts, which is not always the first one.
		{"if 1 then y else y", "y", 1, []int64{0, 0}, 0}, {"if y then y else y", "y", 2, []int64{0, 0, 0}, 0}, {"if 1 then y + y else y", "y", 2, []int64{0, 0, 0}, 0}, {"if 1 then y else y + y", "y", 2, []int64{0, 0, 0}, 0}, {"if y + y then 1 else y", "y", 3, []int64{0, 0, 0}, 0}, {"(if 1 then y else 2) + (if 1 then 2 else y)", "y", 2, []int64{0, 0}, 0},
		{"match 1 { A -> y; B -> y + y + y; C -> y + y }", "y", 3, []int64{0, 0, 0, 0, 0, 0}, 0}, {"match y { A -> 1; B -> 2; C -> !y }", "y", 2, []int64{0, 1}, 1}, {"match y { A -> y + y; B -> y }", "y", 3, []int64{0, 0, 0, 0}, 0}, {"match 1 { A -> 2; B -> 3; C -> 4; D -> y + !!y }", "y", 2, []int64{0, 2}, 2},
		{"if 1 then y else if y then 2 else y + y", "y", 3, []int64{0, 0, 0, 0}, 0}, {"if 1 then if 2 then y + y else y else if y then y else 3", "y", 2, []int64{0, 0, 0, 0, 0}, 0}, {"if (if y then y else 1) then (if 2 then 3 else y + y) else y", "y", 4, []int64{0, 0, 0, 0, 0}, 0}, {"match (match y { A -> 1; B -> y }) { A -> match y { A -> y; B -> 2 }; B -> if y then 3 else if y then y else 4 }", "y", 5, []int64{0, 0, 0, 0, 0, 0, 0}, 0}, {"!(if y then !y else 1) + (if 1 then y else !!(y + y))", "y", 4, []int64{1, 2, 0, 2, 2}, 2},
		// Names that are bound.
		{`\y:Int. y`, "y", 0, nil, 0}, {`\y:Int. 1`, "y", 0, nil, 0}, {`(\y:Int. y) !y`, "y", 1, []int64{1}, 1}, {`\x:Int. \y:Int. x y`, "x", 0, nil, 0}, {"let y = !y in !y", "y", 1, []int64{1}, 1}, {"let y = 1 in y + y", "y", 0, nil, 0}, {"let x = (let y = y in y) in y", "y", 2, []int64{0, 0}, 0}, {"match y { Z -> !y; S[y] -> y + y }", "y", 2, []int64{0, 1}, 1}, {"match 1 { Z -> y; P[x, y] -> y + y; Q[y, x] -> y + y }", "y", 1, []int64{0}, 0}, {"match 1 { P[a, b, c] -> a + b + c + d }", "d", 1, []int64{0}, 0}, {"match 1 { P[a, b, c] -> a + b + c + d }", "c", 0, nil, 0}, {"match y { S[y] -> match y { S[y] -> y } }", "y", 1, []int64{0}, 0},
		{"let x = y in let y = x in !(x + y)", "y", 1, []int64{0}, 1}, {`(\y:Int. \x:Int. y) y (!(let y = y in !y))`, "y", 2, []int64{0, 1}, 2}, {`if y then (\y:Int. y + y + y) y else let y = y + y in y`, "y", 3, []int64{0, 0, 0, 0}, 0},
		// Depths.
		{"if !1 then 2 else !!3", "y", 0, nil, 2}, {`!(\x:Int. !x) !!!y`, "y", 1, []int64{3}, 3}, {"!!!!!!!!!!!!1", "y", 0, nil, 12}, {`\x:!!!Int. x`, "x", 0, nil, 0}, {"S[!!1, !!!2, !3]", "y", 0, nil, 3}, {"match !!!1 { A -> !2; B -> !!!!3; C -> 4 }", "y", 0, nil, 4}, {"let x = !!!!!1 in !2", "x", 0, nil, 5},
	} {
		checkOneTerm(t, c.text, c.name, c.uses, c.levels, c.depth)
	}
	deep := boxes(23, leafOf("y"))
	if impl.UsesOf(deep, "y") != 1 || !slices.Equal(impl.LevelsOf(deep, "y"), []int64{23}) || impl.BoxDepth(deep) != 23 {
		t.Error("a term of 23 boxes")
	}
}

func TestFunctionsOfManyTerms(t *testing.T) {
	names := []string{"w", "x", "y", "z", "v", "", "Z", "#1"}
	used, inBoxes := 0, 0
	for _, x := range append(randomTerms(2500), smallTerms()...) {
		n := numbered(x)
		if got := impl.BoxDepth(x); got != depthAsStated(x) {
			t.Errorf("%.400v: depth %d", x, got)
		}
		for _, name := range names {
			// What is called #1 is a bound variable of the numbered term, and not a name.
			uses, levels := usesAsStated(n, name), levelsAsStated(n, name)
			if strings.HasPrefix(name, "#") {
				uses, levels = 0, nil
			}
			if impl.UsesOf(x, name) != uses || !slices.Equal(impl.LevelsOf(x, name), levels) {
				t.Errorf("%.400v, %q: %d uses, levels %d, want %d and %d", x, name, impl.UsesOf(x, name), impl.LevelsOf(x, name), uses, levels)
			}
			if uses > 1 && uses < int64(len(levels)) {
				used++
			}
			if len(levels) > 1 && slices.Min(levels) != slices.Max(levels) {
				inBoxes++
			}
		}
	}
	if used < 100 || inBoxes < 100 {
		t.Errorf("only %d and %d names", used, inBoxes)
	}
}

func TestFunctionsOfInvalidTerms(t *testing.T) {
	for i, x := range append(invalidTerms(), endlessTerms()...) {
		for _, name := range []string{"x", "y", "", "Z"} {
			if impl.UsesOf(x, name) != 0 || len(impl.LevelsOf(x, name)) != 0 || impl.BoxDepth(x) != 0 {
				t.Errorf("invalid term %d, %q: %d uses, levels %d, depth %d", i, name, impl.UsesOf(x, name), impl.LevelsOf(x, name), impl.BoxDepth(x))
			}
		}
	}
	for _, wrap := range wrappers() {
		x := wrap(termOf("(! (@ x (|Z x)))"))
		if impl.UsesOf(x, "x") != 0 || len(impl.LevelsOf(x, "x")) != 0 || impl.BoxDepth(x) != 0 {
			t.Errorf("%v: %d uses, levels %d, depth %d", x, impl.UsesOf(x, "x"), impl.LevelsOf(x, "x"), impl.BoxDepth(x))
		}
	}
}
