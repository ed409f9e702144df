package tests

import (
	"fmt"
	"math/rand"
	"slices"
	"strings"
	"testing"

	"loop.example/g01074/impl"
)

// row is a definition of main with the texts of its book, its branches and the names of the book.
type row struct {
	def, book, branches string
}

// liftTools are definitions beside main. Their numbers are 1 to 5, so that the first branch of main is the definition 6.
func liftTools() []string {
	return []string{"box : !Int = !1", "nat : Nat = Z", `fun : Int -> Int = \v:Int. v`, "tri : Tri = A", "pair : Pair = P[1, !Z]"}
}

const liftToolBook = "!1 | <0> | ^#0 | <0> | <0 1 !<0>> | "

// checkLiftRows checks definitions of main before liftTools.
func checkLiftRows(t *testing.T, rows []row) {
	t.Helper()
	for _, r := range rows {
		p := checkedProgram(append([]string{"main : " + r.def}, liftTools()...)...)
		list, defs := checkLifted(t, p)
		told := fmt.Sprint(list)
		got := strings.Join(coreTexts(defs), " | ")
		main, branches, _ := strings.Cut(r.book, " | ")
		want := strings.TrimSuffix(main+" | "+liftToolBook+branches, " | ")
		if got != want || told != "["+r.branches+"]" {
			t.Errorf("%s:\n%s, branches %s, want\n%s, branches [%s]", r.def, got, told, want, r.branches)
		}
		checkLifted(t, withOtherNames(p))
	}
}

// TestExamplesOfLifting asserts the examples of chapter 7.
func TestExamplesOfLifting(t *testing.T) {
	p := checkedProgram(`main : !(Int -> Int) -> Int -> !Int = \f:!(Int -> Int). \x:Int. let g = f in if x then !(g 1) else !(g (g 2))`)
	if list, code := impl.Branches(p); fmt.Sprint(list) != "[{0 [] [g] [true]} {0 [] [g] [true]}]" || code != impl.OK {
		t.Errorf("branches %v, code %d", list, code)
	}
	checkLifted(t, p)
	p = checkedProgram(`main : Int -> Int = \x:Int. let y = x in if y then y else 0`)
	b, one := impl.LiftProgram(p)
	names, two := impl.LiftNames(p)
	types, three := impl.BookTypes(p)
	if got := fmt.Sprintf("%q %q %q", coreTexts(b.Defs), names, closedTexts(types)); got != `["^(let #0 in ({1 2:#0} #0))" "^#0" "^0"] ["main" "main.1" "main.2"] ["(Int->Int)" "(Int->Int)" "(Int->Int)"]` || one != impl.OK || two != impl.OK || three != impl.OK {
		t.Errorf("%s, codes %d, %d and %d", got, one, two, three)
	}
	checkLifted(t, p)
}

// TestTranslatedNodes has each kind of node.
func TestTranslatedNodes(t *testing.T) {
	checkLiftRows(t, []row{
		{"Int = (-5)", "-5", ""},
		{"Int = 1 + 2 * 3", "(1 + (2 * 3))", ""},
		{"Int = (6 - 5) / 4 < 3", "(((6 - 5) / 4) < 3)", ""},
		{"Int = 1 = 2", "(1 = 2)", ""},
		{`Int -> Nat -> Int = \x:Int. \y:Nat. x`, "^^#1", ""},
		{`(Int -> Int) -> Int -> Int = \f:Int -> Int. \x:Int. f x`, "^^(#1 #0)", ""},
		{"!!Int = !!1", "!!1", ""},
		{"!Int = let x = !1 in let y = box in !(x + y + x)", "(let !1 in (let @1 in !((#1 + #0) + #1)))", ""},
		{"Int = let x = (let x = 1 in x) in x", "(let (let 1 in #0) in #0)", ""},
		{"Int = main + fun main", "(@0 + (@3 @0))", ""},
		{"Fun = F[fun, nat, P[1, !Z]]", "<0 @3 @2 <0 1 !<0>>>", ""},
		{"Nat = S[S[Z]]", "<1 <1 <0>>>", ""},
		{"Tri = C[Z, 7]", "<2 <0> 7>", ""},
	})
}

// TestCapturedVariables has nodes that capture nothing, some or all of the variables in scope.
func TestCapturedVariables(t *testing.T) {
	checkLiftRows(t, []row{
		// Nothing.
		{"Int = if 1 then 2 else 3", "{6 7:1} | 2 | 3", "{0 [] [] []} {0 [] [] []}"},
		{`Nat -> Int = \n:Nat. match n { Z -> 1; S[m] -> 2 }`, "^[6 7:#0] | 1 | ^2", "{0 [] [] []} {0 [m] [] []}"},
		{"Nat = match nat { Z -> Z; S[m] -> S[m] }", "[6 7:@2] | <0> | ^<1 #0>", "{0 [] [] []} {0 [m] [] []}"},
		{"Int = match pair { P[a, b] -> a }", "[6:@5] | ^^#1", "{0 [a b] [] []}"},
		{`Int -> Int -> Int = \x:Int. \y:Int. if x + y then 1 else 2`, "^^{6 7:(#1 + #0)} | 1 | 2", "{0 [] [] []} {0 [] [] []}"},
		{`Int = if 1 then (\x:Int. x) 2 else let x = 3 in x + x`, "{6 7:1} | (^#0 2) | (let 3 in (#0 + #0))", "{0 [] [] []} {0 [] [] []}"},
		// In all branches or in one.
		{`Int -> Int = \x:Int. if 1 then x else x`, "^({6 7:1} #0) | ^#0 | ^#0", "{0 [] [x] [false]} {0 [] [x] [false]}"},
		{`Int -> Int = \x:Int. if 1 then x else 2`, "^({6 7:1} #0) | ^#0 | ^2", "{0 [] [x] [false]} {0 [] [x] [false]}"},
		{`Int -> Int = \x:Int. if 1 then 2 else x`, "^({6 7:1} #0) | ^2 | ^#0", "{0 [] [x] [false]} {0 [] [x] [false]}"},
		{`Int -> Int = \x:Int. match tri { A -> 1; B[y] -> y; C[n, y] -> x + y }`, "^([6 7 8:@4] #0) | ^1 | ^^#1 | ^^^(#0 + #1)", "{0 [] [x] [false]} {0 [y] [x] [false]} {0 [n y] [x] [false]}"},
		{"!Int = let x = box in if 1 then !2 else !(x + x)", "(let @1 in ({6 7:1} !#0)) | ^(let #0 in !2) | ^(let #0 in !(#0 + #0))", "{0 [] [x] [true]} {0 [] [x] [true]}"},
		{"!Int = let x = box in match tri { A -> !1; B[y] -> !x; C[n, y] -> !3 }", "(let @1 in ([6 7 8:@4] !#0)) | ^(let #0 in !1) | ^^(let #0 in !#0) | ^^^(let #0 in !3)", "{0 [] [x] [true]} {0 [y] [x] [true]} {0 [n y] [x] [true]}"},
		// In the order of the first occurrence, whatever the order of the bindings.
		{`Int -> Int -> Int -> Int = \x:Int. \y:Int. \z:Int. if 1 then z else x + y`, "^^^((({6 7:1} #0) #2) #1) | ^^^#2 | ^^^(#1 + #0)", "{0 [] [z x y] [false false false]} {0 [] [z x y] [false false false]}"},
		{`Int -> Int -> Int -> Int = \x:Int. \y:Int. \z:Int. if 1 then y + x else z - (x + y)`, "^^^((({6 7:1} #1) #2) #0) | ^^^(#2 + #1) | ^^^(#0 - (#1 + #2))", "{0 [] [y x z] [false false false]} {0 [] [y x z] [false false false]}"},
		{`Int -> Int -> Int -> Int = \x:Int. \y:Int. \z:Int. match tri { A -> y; B[a] -> z; C[n, a] -> x }`, "^^^((([6 7 8:@4] #1) #0) #2) | ^^^#2 | ^^^^#1 | ^^^^^#0", "{0 [] [y z x] [false false false]} {0 [a] [y z x] [false false false]} {0 [n a] [y z x] [false false false]}"},
		{`Int -> Int -> Int = \x:Int. \y:Int. if x then y else y`, "^^({6 7:#1} #0) | ^#0 | ^#0", "{0 [] [y] [false]} {0 [] [y] [false]}"},
		// Fields and the variables of lets and functions.
		{"Int = match pair { P[a, b] -> if 1 then a else 2 }", "[6:@5] | ^^({7 8:1} #1) | ^#0 | ^2", "{0 [a b] [] []} {0 [] [a] [false]} {0 [] [a] [false]}"},
		{"!Nat = match pair { P[a, b] -> let c = b in if a then !c else !S[c] }", "[6:@5] | ^^(let #0 in ({7 8:#2} !#0)) | ^(let #0 in !#0) | ^(let #0 in !<1 #0>)", "{0 [a b] [] []} {0 [] [c] [true]} {0 [] [c] [true]}"},
		{`(Int -> Int) -> Int = \f:Int -> Int. let x = 1 in if x then f x else x`, "^(let 1 in (({6 7:#0} #1) #0)) | ^^(#1 #0) | ^^#0", "{0 [] [f x] [false false]} {0 [] [f x] [false false]}"},
		// The node with its arguments is a part of an application, of a choice or of a box.
		{`Int -> Int = \x:Int. (if 1 then \y:Int. x else fun) 2`, "^(({6 7:1} #0) 2) | ^^#1 | ^@3", "{0 [] [x] [false]} {0 [] [x] [false]}"},
		{`Int -> Int -> Int = \x:Int. (if 1 then \y:Int. x + y else fun)`, "^({6 7:1} #0) | ^^(#1 + #0) | ^@3", "{0 [] [x] [false]} {0 [] [x] [false]}"},
		{`!(Int -> Int) = !(\x:Int. if 1 then x else 2)`, "!^({6 7:1} #0) | ^#0 | ^2", "{0 [] [x] [false]} {0 [] [x] [false]}"},
		{`Int -> Int -> Int = \x:Int. \y:Int. if (if 1 then x else 2) then 3 else y`, "^^({8 9:({6 7:1} #1)} #0) | ^#0 | ^2 | ^3 | ^#0", "{0 [] [x] [false]} {0 [] [x] [false]} {0 [] [y] [false]} {0 [] [y] [false]}"},
		{`Int -> Nat = \x:Int. S[match B[x] { A -> Z; B[y] -> Z; C[n, y] -> n }]`, "^<1 [6 7 8:<1 #0>]> | <0> | ^<0> | ^^#1", "{0 [] [] []} {0 [y] [] []} {0 [n y] [] []}"},
	})
}

// TestBoxedVariables has captured variables that are boxed, that are not, and both at one node.
func TestBoxedVariables(t *testing.T) {
	checkLiftRows(t, []row{
		// A let over an Int, over a box, and over boxes.
		{"Int = let x = 1 in if x then x else 2", "(let 1 in ({6 7:#0} #0)) | ^#0 | ^2", "{0 [] [x] [false]} {0 [] [x] [false]}"},
		{"!Int = let x = !1 in if 1 then !x else !(x + x)", "(let !1 in ({6 7:1} !#0)) | ^(let #0 in !#0) | ^(let #0 in !(#0 + #0))", "{0 [] [x] [true]} {0 [] [x] [true]}"},
		{"!!Int = let x = !!1 in if 1 then !x else !!2", "(let !!1 in ({6 7:1} !#0)) | ^(let #0 in !#0) | ^(let #0 in !!2)", "{0 [] [x] [true]} {0 [] [x] [true]}"},
		{"!Int = let x = !1 in !(if 1 then x else 2)", "(let !1 in !({6 7:1} #0)) | ^#0 | ^2", "{0 [] [x] [false]} {0 [] [x] [false]}"},
		{"!!Int = let x = !!1 in !(let y = x in if 1 then !y else !2)", "(let !!1 in !(let #0 in ({6 7:1} !#0))) | ^(let #0 in !#0) | ^(let #0 in !2)", "{0 [] [y] [true]} {0 [] [y] [true]}"},
		{"!!Int = let x = !!1 in if 1 then !(let y = x in !y) else !!2", "(let !!1 in ({6 7:1} !#0)) | ^(let #0 in !(let #0 in !#0)) | ^(let #0 in !!2)", "{0 [] [x] [true]} {0 [] [x] [true]}"},
		{"!!Int = !(let x = !1 in if 1 then !x else !2)", "!(let !1 in ({6 7:1} !#0)) | ^(let #0 in !#0) | ^(let #0 in !2)", "{0 [] [x] [true]} {0 [] [x] [true]}"},
		{`!Int -> !Int = \x:!Int. if 1 then x else box`, "^({6 7:1} #0) | ^#0 | ^@1", "{0 [] [x] [false]} {0 [] [x] [false]}"},
		// Both at one node.
		{`Int -> !Int = \x:Int. let y = !2 in if 1 then (\z:Int. !y) x else !3`, "^(let !2 in (({6 7:1} !#0) #1)) | ^^(let #1 in (^!#1 #1)) | ^^(let #1 in !3)", "{0 [] [y x] [true false]} {0 [] [y x] [true false]}"},
		{`Int -> !Int = \x:Int. let y = !2 in if 1 then (\z:Int. \u:!Int. u) x !y else !3`, "^(let !2 in (({6 7:1} #1) !#0)) | ^^(let #0 in ((^^#0 #2) !#0)) | ^^(let #0 in !3)", "{0 [] [x y] [false true]} {0 [] [x y] [false true]}"},
		{`Int -> !Int = \x:Int. let y = !2 in if 1 then !y else (\z:Int. !3) x`, "^(let !2 in (({6 7:1} !#0) #1)) | ^^(let #1 in !#0) | ^^(let #1 in (^!3 #1))", "{0 [] [y x] [true false]} {0 [] [y x] [true false]}"},
		{`Int -> !Int = \x:Int. let y = !2 in match tri { A -> (\z:Int. !3) x; B[v] -> (\z:Int. !y) v; C[n, v] -> !(y + y) }`, "^(let !2 in (([6 7 8:@4] #1) !#0)) | ^^(let #0 in (^!3 #2)) | ^^^(let #0 in (^!#1 #3)) | ^^^^(let #0 in !(#0 + #0))", "{0 [] [x y] [false true]} {0 [v] [x y] [false true]} {0 [n v] [x y] [false true]}"},
		// Several boxed ones, with others between.
		{"!Int = let x = !1 in let y = !2 in if 1 then !(y + x) else !x", "(let !1 in (let !2 in (({6 7:1} !#0) !#1))) | ^^(let #1 in (let #1 in !(#1 + #0))) | ^^(let #1 in (let #1 in !#0))", "{0 [] [y x] [true true]} {0 [] [y x] [true true]}"},
		{`Int -> !Int = \x:Int. let y = !2 in let u = !3 in if 1 then (\z:!Int. \w:Int. !u) !y x else !(u + y)`, "^(let !2 in (let !3 in ((({6 7:1} !#0) !#1) #2))) | ^^^(let #2 in (let #2 in ((^^!#3 !#0) #2))) | ^^^(let #2 in (let #2 in !(#1 + #0)))", "{0 [] [u y x] [true true false]} {0 [] [u y x] [true true false]}"},
		{`Int -> !Int = \x:Int. let y = !2 in let u = !3 in if 1 then (\z:!Int. \w:Int. \v:!Int. v) !y x !u else !(u + y)`, "^(let !2 in (let !3 in ((({6 7:1} !#1) #2) !#0))) | ^^^(let #2 in (let #1 in (((^^^#0 !#1) #3) !#0))) | ^^^(let #2 in (let #1 in !(#0 + #1)))", "{0 [] [y x u] [true false true]} {0 [] [y x u] [true false true]}"},
		{`Int -> Int -> !Int = \x:Int. \y:Int. let u = !3 in match pair { P[a, b] -> (\w:Int. !(u * u)) (x + y + a) }`, "^^(let !3 in ((([6:@5] !#0) #2) #1)) | ^^^^^(let #2 in (^!(#1 * #1) ((#2 + #1) + #5)))", "{0 [a b] [u x y] [true false false]}"},
	})
}

// TestHiddenVariables has fields that hide variables that are bound outside, names that are bound twice, and definitions with the names of variables and fields.
func TestHiddenVariables(t *testing.T) {
	checkLiftRows(t, []row{
		// A field hides a variable in its own branch only.
		{`Int -> Int = \y:Int. match tri { A -> y; B[y] -> y; C[n, y] -> y }`, "^([6 7 8:@4] #0) | ^#0 | ^^#1 | ^^^#1", "{0 [] [y] [false]} {0 [y] [y] [false]} {0 [n y] [y] [false]}"},
		{`Int -> Int = \y:Int. match tri { A -> 1; B[y] -> y; C[n, y] -> y }`, "^[6 7 8:@4] | 1 | ^#0 | ^^#0", "{0 [] [] []} {0 [y] [] []} {0 [n y] [] []}"},
		{`Int -> Int = \y:Int. match tri { A -> 1; B[x] -> y + x; C[x, y] -> y }`, "^([6 7 8:@4] #0) | ^1 | ^^(#0 + #1) | ^^^#1", "{0 [] [y] [false]} {0 [x] [y] [false]} {0 [x y] [y] [false]}"},
		{`Int -> Int -> Int = \x:Int. \y:Int. match tri { A -> 1; B[y] -> y + x; C[x, z] -> y + z }`, "^^(([6 7 8:@4] #1) #0) | ^^1 | ^^^(#2 + #1) | ^^^^(#0 + #2)", "{0 [] [x y] [false false]} {0 [y] [x y] [false false]} {0 [x z] [x y] [false false]}"},
		{`Nat -> Nat = \n:Nat. match nat { Z -> n; S[n] -> n }`, "^([6 7:@2] #0) | ^#0 | ^^#1", "{0 [] [n] [false]} {0 [n] [n] [false]}"},
		{"!Int = let y = box in match tri { A -> !(y + y); B[y] -> (\\z:Int. !4) y; C[n, y] -> !3 }", "(let @1 in ([6 7 8:@4] !#0)) | ^(let #0 in !(#0 + #0)) | ^^(let #0 in (^!4 #2)) | ^^^(let #0 in !3)", "{0 [] [y] [true]} {0 [y] [y] [true]} {0 [n y] [y] [true]}"},
		{`Int -> !Int = \x:Int. let y = box in match tri { A -> (\z:Int. !y) x; B[y] -> (\z:Int. !4) (x + y); C[x, v] -> !y }`, "^(let @1 in (([6 7 8:@4] !#0) #1)) | ^^(let #1 in (^!#1 #1)) | ^^^(let #1 in (^!4 (#1 + #3))) | ^^^^(let #1 in !#0)", "{0 [] [y x] [true false]} {0 [y] [y x] [true false]} {0 [x v] [y x] [true false]}"},
		{`!Int -> !Int = \x:!Int. let y = x in match tri { A -> !y; B[y] -> let y = y in if y then (\z:Int. !5) y else !6; C[n, y] -> !3 }`, "^(let #0 in ([6 7 10:@4] !#0)) | ^(let #0 in !#0) | ^^(let #0 in (let #2 in ({8 9:#0} #0))) | ^(^!5 #0) | ^!6 | ^^^(let #0 in !3)", "{0 [] [y] [true]} {0 [y] [y] [true]} {0 [] [y] [false]} {0 [] [y] [false]} {0 [n y] [y] [true]}"},
		// The first Kid is outside of the scope of the fields.
		{`Nat -> Nat = \n:Nat. match n { Z -> Z; S[n] -> n }`, "^[6 7:#0] | <0> | ^#0", "{0 [] [] []} {0 [n] [] []}"},
		{`Nat -> Nat = \n:Nat. match n { Z -> Z; S[n] -> match n { Z -> Z; S[n] -> n } }`, "^[6 7:#0] | <0> | ^[8 9:#0] | <0> | ^#0", "{0 [] [] []} {0 [n] [] []} {0 [] [] []} {0 [n] [] []}"},
		// One name twice in scope, of other types and levels.
		{`Int -> Int = \x:Int. let x = x in if x then x else 0`, "^(let #0 in ({6 7:#0} #0)) | ^#0 | ^0", "{0 [] [x] [false]} {0 [] [x] [false]}"},
		{`Int -> Nat -> Nat = \x:Int. \x:Nat. if 1 then x else Z`, "^^({6 7:1} #0) | ^#0 | ^<0>", "{0 [] [x] [false]} {0 [] [x] [false]}"},
		{`!Int -> !Int = \x:!Int. let x = x in if 1 then !x else !(x + x)`, "^(let #0 in ({6 7:1} !#0)) | ^(let #0 in !#0) | ^(let #0 in !(#0 + #0))", "{0 [] [x] [true]} {0 [] [x] [true]}"},
		{"!Int = let x = !1 in let x = 2 in if x then (\\y:Int. !3) x else !4", "(let !1 in (let 2 in ({6 7:#0} #0))) | ^(^!3 #0) | ^!4", "{0 [] [x] [false]} {0 [] [x] [false]}"},
		{`Int -> Int = \x:Int. if 1 then (\x:Int. x) x else let x = x in x + x`, "^({6 7:1} #0) | ^(^#0 #0) | ^(let #0 in (#0 + #0))", "{0 [] [x] [false]} {0 [] [x] [false]}"},
		{`Int -> Int = \x:Int. if 1 then (\x:Int. if 2 then x else 3) x else 4`, "^({6 9:1} #0) | ^(^({7 8:2} #0) #0) | ^#0 | ^3 | ^4", "{0 [] [x] [false]} {0 [] [x] [false]} {0 [] [x] [false]} {0 [] [x] [false]}"},
		{`Int -> Int -> Int = \x:Int. \y:Int. if 1 then (\x:Int. x + y) 2 else (\y:Int. x + y) 3`, "^^(({6 7:1} #0) #1) | ^^(^(#0 + #2) 2) | ^^(^(#1 + #0) 3)", "{0 [] [y x] [false false]} {0 [] [y x] [false false]}"},
		// Definitions are not captured, unless a variable hides them.
		{"Int = if fun 1 then fun 2 else main", "{6 7:(@3 1)} | (@3 2) | @0", "{0 [] [] []} {0 [] [] []}"},
		{"Nat = match nat { Z -> nat; S[nat] -> nat }", "[6 7:@2] | @2 | ^#0", "{0 [] [] []} {0 [nat] [] []}"},
		{`Nat -> Nat = \nat:Nat. match nat { Z -> Z; S[fun] -> fun }`, "^[6 7:#0] | <0> | ^#0", "{0 [] [] []} {0 [fun] [] []}"},
		{`Int -> Int = \main:Int. if 1 then main else fun 2`, "^({6 7:1} #0) | ^#0 | ^(@3 2)", "{0 [] [main] [false]} {0 [] [main] [false]}"},
		{`Int -> Int = \x:Int. if fun x then (\fun:Int. fun) 1 else fun 2`, "^{6 7:(@3 #0)} | (^#0 1) | (@3 2)", "{0 [] [] []} {0 [] [] []}"},
		{`Nat -> Nat = \x:Nat. match tri { A -> nat; B[nat] -> x; C[nat, fun] -> nat }`, "^([6 7 8:@4] #0) | ^@2 | ^^#0 | ^^^#2", "{0 [] [x] [false]} {0 [nat] [x] [false]} {0 [nat fun] [x] [false]}"},
	})
	// Fields with the names of definitions that the branches of other constructors name.
	p := checkedProgram(`main : Int = match C[Z, 1] { A -> f 1 + x; B[f] -> f + x; C[x, y] -> f y }`, `f : Int -> Int = \x:Int. x`, "x : Int = main", "y : Int = x")
	if list, defs := checkLifted(t, p); fmt.Sprint(list, coreTexts(defs)) != "[{0 [] [] []} {0 [f] [] []} {0 [x y] [] []}] [[4 5 6:<2 <0> 1>] ^#0 @0 @2 ((@1 1) + @2) ^(#0 + @2) ^^(@1 #0)]" {
		t.Errorf("%v %q", list, coreTexts(defs))
	}
}

// TestBranchesInBranches has nodes with branches inside branches and inside first Kids, and captured variables that go through several of them.
func TestBranchesInBranches(t *testing.T) {
	checkLiftRows(t, []row{
		{"Int = if (if 1 then 2 else 3) then (if 4 then 5 else 6) else 7", "{8 11:{6 7:1}} | 2 | 3 | {9 10:4} | 5 | 6 | 7", "{0 [] [] []} {0 [] [] []} {0 [] [] []} {0 [] [] []} {0 [] [] []} {0 [] [] []}"},
		{"Int = if 1 then 2 else if 3 then 4 else if 5 then 6 else 7", "{6 7:1} | 2 | {8 9:3} | 4 | {10 11:5} | 6 | 7", "{0 [] [] []} {0 [] [] []} {0 [] [] []} {0 [] [] []} {0 [] [] []} {0 [] [] []}"},
		{"Int = (if 1 then 2 else 3) + (if 4 then 5 else 6)", "({6 7:1} + {8 9:4}) | 2 | 3 | 5 | 6", "{0 [] [] []} {0 [] [] []} {0 [] [] []} {0 [] [] []}"},
		{"Int = match (match nat { Z -> Z; S[a] -> a }) { Z -> 1; S[b] -> match b { Z -> 2; S[c] -> 3 } }", "[8 9:[6 7:@2]] | <0> | ^#0 | 1 | ^[10 11:#0] | 2 | ^3", "{0 [] [] []} {0 [a] [] []} {0 [] [] []} {0 [b] [] []} {0 [] [] []} {0 [c] [] []}"},
		{"Int = if (match nat { Z -> (if 1 then 2 else 3); S[a] -> 4 }) then 5 else 6", "{10 11:[6 9:@2]} | {7 8:1} | 2 | 3 | ^4 | 5 | 6", "{0 [] [] []} {0 [] [] []} {0 [] [] []} {0 [a] [] []} {0 [] [] []} {0 [] [] []}"},
		// Captured by both nodes, or by the inner one only.
		{`Int -> Int = \x:Int. if 1 then (if 2 then x else 3) else 4`, "^({6 9:1} #0) | ^({7 8:2} #0) | ^#0 | ^3 | ^4", "{0 [] [x] [false]} {0 [] [x] [false]} {0 [] [x] [false]} {0 [] [x] [false]}"},
		{`Int -> Int -> Int = \x:Int. \y:Int. if 1 then (if x then y else 3) else x`, "^^(({6 9:1} #1) #0) | ^^({7 8:#1} #0) | ^#0 | ^3 | ^^#1", "{0 [] [x y] [false false]} {0 [] [y] [false]} {0 [] [y] [false]} {0 [] [x y] [false false]}"},
		{`Int -> Int -> Int = \x:Int. \y:Int. if 1 then (if 2 then y + x else x) else 4`, "^^(({6 9:1} #0) #1) | ^^(({7 8:2} #1) #0) | ^^(#1 + #0) | ^^#0 | ^^4", "{0 [] [y x] [false false]} {0 [] [y x] [false false]} {0 [] [y x] [false false]} {0 [] [y x] [false false]}"},
		{"Int = if 1 then (let x = 2 in if x then x else 3) else 4", "{6 9:1} | (let 2 in ({7 8:#0} #0)) | ^#0 | ^3 | 4", "{0 [] [] []} {0 [] [x] [false]} {0 [] [x] [false]} {0 [] [] []}"},
		{`Int -> Int = \x:Int. match tri { A -> 1; B[y] -> if y then x else 2; C[n, y] -> match n { Z -> y; S[m] -> x } }`, "^([6 7 10:@4] #0) | ^1 | ^^({8 9:#1} #0) | ^#0 | ^2 | ^^^(([11 12:#2] #1) #0) | ^^#1 | ^^^#0", "{0 [] [x] [false]} {0 [y] [x] [false]} {0 [] [x] [false]} {0 [] [x] [false]} {0 [n y] [x] [false]} {0 [] [y x] [false false]} {0 [m] [y x] [false false]}"},
		// Boxed for both nodes, or for the outer one only.
		{"!Int = let x = !1 in if 1 then (if 2 then !x else !3) else !4", "(let !1 in ({6 9:1} !#0)) | ^(let #0 in ({7 8:2} !#0)) | ^(let #0 in !#0) | ^(let #0 in !3) | ^(let #0 in !4)", "{0 [] [x] [true]} {0 [] [x] [true]} {0 [] [x] [true]} {0 [] [x] [true]}"},
		{"!Int = let x = !1 in if 1 then !(if x then x else 3) else !4", "(let !1 in ({6 9:1} !#0)) | ^(let #0 in !({7 8:#0} #0)) | ^#0 | ^3 | ^(let #0 in !4)", "{0 [] [x] [true]} {0 [] [x] [false]} {0 [] [x] [false]} {0 [] [x] [true]}"},
		{"!!Int = let x = !!1 in if 1 then !(let y = x in if 2 then !y else !3) else !!4", "(let !!1 in ({6 9:1} !#0)) | ^(let #0 in !(let #0 in ({7 8:2} !#0))) | ^(let #0 in !#0) | ^(let #0 in !3) | ^(let #0 in !!4)", "{0 [] [x] [true]} {0 [] [y] [true]} {0 [] [y] [true]} {0 [] [x] [true]}"},
		{"!!Int = let x = !!1 in if 1 then !(let y = x in if 2 then !(if y then y else 5) else !3) else !!4", "(let !!1 in ({6 11:1} !#0)) | ^(let #0 in !(let #0 in ({7 10:2} !#0))) | ^(let #0 in !({8 9:#0} #0)) | ^#0 | ^5 | ^(let #0 in !3) | ^(let #0 in !!4)", "{0 [] [x] [true]} {0 [] [y] [true]} {0 [] [y] [false]} {0 [] [y] [false]} {0 [] [y] [true]} {0 [] [x] [true]}"},
		{`Int -> !Int = \x:Int. let y = !2 in if 1 then (if x then !y else !3) else !4`, "^(let !2 in (({6 9:1} #1) !#0)) | ^^(let #0 in ({7 8:#2} !#0)) | ^(let #0 in !#0) | ^(let #0 in !3) | ^^(let #0 in !4)", "{0 [] [x y] [false true]} {0 [] [y] [true]} {0 [] [y] [true]} {0 [] [x y] [false true]}"},
		// In the branch of a field that hides a variable.
		{`Int -> Int = \x:Int. match tri { A -> x; B[x] -> if 1 then x else 2; C[n, y] -> if x then y else 3 }`, "^([6 7 10:@4] #0) | ^#0 | ^^({8 9:1} #1) | ^#0 | ^2 | ^^^({11 12:#0} #1) | ^#0 | ^3", "{0 [] [x] [false]} {0 [x] [x] [false]} {0 [] [x] [false]} {0 [] [x] [false]} {0 [n y] [x] [false]} {0 [] [y] [false]} {0 [] [y] [false]}"},
		// A field that is only in scope of an inner node is not captured by the outer one.
		{`Int -> Int = \x:Int. if 1 then (match tri { A -> 1; B[y] -> x + y; C[n, x] -> x }) else 2`, "^({6 10:1} #0) | ^([7 8 9:@4] #0) | ^1 | ^^(#0 + #1) | ^^^#1 | ^2", "{0 [] [x] [false]} {0 [] [x] [false]} {0 [y] [x] [false]} {0 [n x] [x] [false]} {0 [] [x] [false]}"},
		{"Int = if 1 then (match tri { A -> 1; B[x] -> x; C[n, x] -> x }) else 2", "{6 10:1} | [7 8 9:@4] | 1 | ^#0 | ^^#0 | 2", "{0 [] [] []} {0 [] [] []} {0 [x] [] []} {0 [n x] [] []} {0 [] [] []}"},
	})
}

// TestNamesOfBranches has several definitions with branches inside branches.
func TestNamesOfBranches(t *testing.T) {
	p := checkedProgram(
		"f : Int = if 1 then 2 else 3", "main : Int = 1", "g : Int = (if 1 then if 2 then 3 else 4 else 5) + (match Z { Z -> 6; S[x] -> 7 })",
		"x : Nat -> Int = \\x:Nat. match x { Z -> main; S[n] -> match P[1, !Z] { P[x, y] -> x } }",
	)
	list, defs := checkLifted(t, p)
	names, code := impl.LiftNames(p)
	if got, want := strings.Join(names, " "), "f main g x f.1 f.2 g.1 g.2 g.3 g.4 g.5 g.6 x.1 x.2 x.3"; got != want || code != impl.OK {
		t.Errorf("names %s, code %d, want %s", got, code, want)
	}
	if got, want := fmt.Sprint(list), "[{0 [] [] []} {0 [] [] []} {2 [] [] []} {2 [] [] []} {2 [] [] []} {2 [] [] []} {2 [] [] []} {2 [x] [] []} {3 [] [] []} {3 [n] [] []} {3 [x y] [] []}]"; got != want {
		t.Errorf("branches %s, want %s", got, want)
	}
	if got, want := strings.Join(coreTexts(defs), " | "), "{4 5:1} | 1 | ({6 9:1} + [10 11:<0>]) | ^[12 13:#0] | 2 | 3 | {7 8:2} | 3 | 4 | 5 | 6 | ^7 | @1 | ^[14:<0 1 !<0>>] | ^^#1"; got != want {
		t.Errorf("book %s, want %s", got, want)
	}
	// Numbers of two digits, and a name of a definition that is as long as it may be.
	p = checkedProgram("abcdefghijkl : Int = "+strings.Repeat("if 1 then 2 else ", 10)+"3", "f : Int = if 1 then 2 else 3")
	names, code = impl.LiftNames(p)
	if len(names) != 24 || code != impl.OK || names[2] != "abcdefghijkl.1" || names[10] != "abcdefghijkl.9" || names[11] != "abcdefghijkl.10" || names[21] != "abcdefghijkl.20" || names[22] != "f.1" || names[23] != "f.2" {
		t.Errorf("names %q, code %d", names, code)
	}
	checkLifted(t, p)
}

// TestLiftedRandomPrograms is P8 for checked programs of all kinds.
func TestLiftedRandomPrograms(t *testing.T) {
	random := rand.New(rand.NewSource(71))
	counts := map[string]int{}
	for i := range 700 {
		p := randomCapturing(random)
		if i%2 == 0 {
			p = randomChecked(random, 1<<40)
		}
		list, defs := checkLifted(t, p)
		checkSameWithOtherNames(t, p)
		if isFull(defs) {
			counts["full"]++
		}
		for _, b := range list {
			for _, what := range kindsOfBranch(b) {
				counts[what]++
			}
		}
	}
	for _, what := range []string{"full", "nothing", "boxed", "unboxed", "boxed before unboxed", "unboxed before boxed", "two boxed", "hidden", "hidden boxed"} {
		if counts[what] < 20 {
			t.Errorf("only %d branches or programs are %s", counts[what], what)
		}
	}
}

func kindsOfBranch(b impl.Branch) []string {
	if len(b.Captured) == 0 {
		return []string{"nothing"}
	}
	var kinds []string
	told := fmt.Sprint(b.Boxed)
	for what, part := range map[string]string{"boxed": "true", "unboxed": "false", "boxed before unboxed": "true false", "unboxed before boxed": "false true", "two boxed": "true true"} {
		if strings.Contains(told, part) {
			kinds = append(kinds, what)
		}
	}
	for i, name := range b.Captured {
		if slices.Contains(b.Fields, name) {
			kinds = append(kinds, map[bool]string{true: "hidden boxed", false: "hidden"}[b.Boxed[i]])
		}
	}
	return kinds
}

// checkSameWithOtherNames compares a program with one that has other names for all bound variables. They differ in the names of fields and captured variables only.
func checkSameWithOtherNames(t *testing.T, p impl.Program) {
	t.Helper()
	if got, want := liftedAsTold(withOtherNames(p), false), liftedAsTold(p, false); got != want {
		t.Errorf("%.700s: %.300s, with other names %.300s", impl.PrintProgram(p), want, got)
	}
}

// liftedAsTold are the results of all functions of chapter 7, with or without the names of variables.
func liftedAsTold(p impl.Program, named bool) string {
	list, one := impl.Branches(p)
	b, two := impl.LiftProgram(p)
	names, three := impl.LiftNames(p)
	types, four := impl.BookTypes(p)
	nodes, five := impl.CoreTypes(p)
	told := fmt.Sprint(one, two, three, four, five, len(list), coreTexts(b.Defs), names, closedTexts(types))
	for _, branch := range list {
		told += fmt.Sprint(branch.Def, len(branch.Fields), branch.Boxed)
		if named {
			told += fmt.Sprint(branch.Fields, branch.Captured)
		}
	}
	for _, texts := range nodes {
		told += fmt.Sprint(closedTexts(texts))
	}
	return told
}
