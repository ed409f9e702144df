package tests

import (
	"fmt"
	"slices"
	"strings"
	"testing"

	"loop.example/g01074/impl"
)

// typesOfNodes are the texts of the types of the nodes of each definition, behind the text of that.
func typesOfNodes(p impl.Program) string {
	b, _ := impl.LiftProgram(p)
	nodes, _ := impl.CoreTypes(p)
	var lines []string
	for k, c := range b.Defs {
		var texts []string
		for _, x := range nodes[k] {
			texts = append(texts, impl.TypeText(x))
		}
		lines = append(lines, impl.CoreText(c)+" : "+strings.Join(texts, ", "))
	}
	return strings.Join(lines, "\n")
}

// checkTypesOfNodes checks a definition of main alone.
func checkTypesOfNodes(t *testing.T, def string, want ...string) {
	t.Helper()
	p := checkedProgram("main : "+def, "f : (Int -> Int) -> !Int -> Nat = f")
	checkLifted(t, p)
	want = slices.Insert(want, 1, "@1 : (Int -> Int) -> Int -> Nat")
	if got := typesOfNodes(p); got != strings.Join(want, "\n") {
		t.Errorf("%s:\n%s\nwant\n%s", def, got, strings.Join(want, "\n"))
	}
}

// TestTypesOfTranslatedNodes has each kind of node that translates one of the program.
func TestTypesOfTranslatedNodes(t *testing.T) {
	checkTypesOfNodes(t, "Int = 1 + 2 * 3", "(1 + (2 * 3)) : Int, Int, Int, Int, Int")
	checkTypesOfNodes(t, `Int -> Nat -> Int = \x:Int. \y:Nat. x`, "^^#1 : Int -> Nat -> Int, Nat -> Int, Int")
	checkTypesOfNodes(t, `(Int -> Nat) -> Int -> Nat = \g:Int -> Nat. \x:Int. g (x + 1)`, "^^(#1 (#0 + 1)) : (Int -> Nat) -> Int -> Nat, Int -> Nat, Nat, Int -> Nat, Int, Int, Int")
	checkTypesOfNodes(t, "!!Int = !!1", "!!1 : Int, Int, Int")
	checkTypesOfNodes(t, "Nat = let x = 1 in Z", "(let 1 in <0>) : Nat, Int, Nat")
	checkTypesOfNodes(t, "!Nat = let x = !Z in !S[x]", "(let !<0> in !<1 #0>) : Nat, Nat, Nat, Nat, Nat, Nat")
	checkTypesOfNodes(t, `!(!Int -> !!Nat) -> Nat = \g:!(!Int -> !!Nat). let h = g in f main2 !1`[:0]+`(Int -> Int) -> !(!Int -> !Nat) -> Nat = \g:Int -> Int. \h:!(!Int -> !Nat). let i = h in f g !1`, "^^(let #0 in ((@1 #2) !1)) : (Int -> Int) -> (Int -> Nat) -> Nat, (Int -> Nat) -> Nat, Nat, Int -> Nat, Nat, Int -> Nat, (Int -> Int) -> Int -> Nat, Int -> Int, Int, Int")
	checkTypesOfNodes(t, `Fun = F[\x:Int. x, Z, P[1, !Z]]`, "<0 ^#0 <0> <0 1 !<0>>> : Fun, Int -> Int, Int, Nat, Pair, Int, Nat, Nat")
}

// TestTypesOfBranches has CoMat and CoSwi nodes with and without captured variables, the nodes around them, and those around the branches.
func TestTypesOfBranches(t *testing.T) {
	checkTypesOfNodes(t, "Nat = if 1 then Z else S[Z]", "{2 3:1} : Nat, Int", "<0> : Nat", "<1 <0>> : Nat, Nat")
	checkTypesOfNodes(t, `Nat -> Int = \n:Nat. match n { Z -> 1; S[m] -> 2 }`, "^[2 3:#0] : Nat -> Int, Int, Nat", "1 : Int", "^2 : Nat -> Int, Int")
	checkTypesOfNodes(t, `Int -> Nat -> Nat = \x:Int. \y:Nat. if x then y else Z`, "^^({2 3:#1} #0) : Int -> Nat -> Nat, Nat -> Nat, Nat, Nat -> Nat, Int, Nat", "^#0 : Nat -> Nat, Nat", "^<0> : Nat -> Nat, Nat")
	checkTypesOfNodes(t, `Int -> (Nat -> Nat) -> Nat = \x:Int. \g:Nat -> Nat. match C[Z, 1] { A -> g Z; B[y] -> (\z:Int. Z) (x + y); C[n, y] -> n }`,
		"^^(([2 3 4:<2 <0> 1>] #0) #1) : Int -> (Nat -> Nat) -> Nat, (Nat -> Nat) -> Nat, Nat, Int -> Nat, (Nat -> Nat) -> Int -> Nat, Tri, Nat, Int, Nat -> Nat, Int",
		"^^(#1 <0>) : (Nat -> Nat) -> Int -> Nat, Int -> Nat, Nat, Nat -> Nat, Nat",
		"^^^(^<0> (#0 + #2)) : Int -> (Nat -> Nat) -> Int -> Nat, (Nat -> Nat) -> Int -> Nat, Int -> Nat, Nat, Int -> Nat, Nat, Int, Int, Int",
		"^^^^#3 : Nat -> Int -> (Nat -> Nat) -> Int -> Nat, Int -> (Nat -> Nat) -> Int -> Nat, (Nat -> Nat) -> Int -> Nat, Int -> Nat, Nat")
	checkTypesOfNodes(t, `!Nat -> Int -> !!Int = \b:!Nat. \x:Int. let y = b in let z = !!2 in if 1 then (\u:Int. !(match y { Z -> z; S[m] -> !3 })) x else !z`,
		"^^(let #1 in (let !!2 in ((({2 5:1} !#1) !#0) #2))) : Nat -> Int -> Int, Int -> Int, Int, Nat, Int, Int, Int, Int, Int, Int -> Int, Int -> Int -> Int, Nat -> Int -> Int -> Int, Int, Nat, Nat, Int, Int, Int",
		"^^^(let #2 in (let #2 in (^!([3 4:#2] #1) #2))) : Nat -> Int -> Int -> Int, Int -> Int -> Int, Int -> Int, Int, Nat, Int, Int, Int, Int -> Int, Int, Int, Int -> Int, Nat, Int, Int",
		"^#0 : Int -> Int, Int",
		"^^!3 : Nat -> Int -> Int, Int -> Int, Int, Int",
		"^^^(let #2 in (let #2 in !#0)) : Nat -> Int -> Int -> Int, Int -> Int -> Int, Int -> Int, Int, Nat, Int, Int, Int, Int")
	// The type of the node is a function: its arguments come behind the captured variables.
	checkTypesOfNodes(t, `Int -> !Int -> Nat -> Int = \x:Int. if 1 then \y:!Int. \n:Nat. x else \y:!Int. \n:Nat. 2`,
		"^({2 3:1} #0) : Int -> Int -> Nat -> Int, Int -> Nat -> Int, Int -> Int -> Nat -> Int, Int, Int",
		"^^^#2 : Int -> Int -> Nat -> Int, Int -> Nat -> Int, Nat -> Int, Int",
		"^^^2 : Int -> Int -> Nat -> Int, Int -> Nat -> Int, Nat -> Int, Int")
	checkTypesOfNodes(t, `Int -> Int = \x:Int. (if 1 then \y:Int. x else \y:Int. y) 2`,
		"^(({2 3:1} #0) 2) : Int -> Int, Int, Int -> Int, Int -> Int -> Int, Int, Int, Int",
		"^^#1 : Int -> Int -> Int, Int -> Int, Int",
		"^^#0 : Int -> Int -> Int, Int -> Int, Int")
}

// TestTypesOfBooks asserts the types of chapter 7's example and some others.
func TestTypesOfBooks(t *testing.T) {
	for _, c := range []struct{ def, want string }{
		{`Int -> Int = \x:Int. let y = x in if y then y else 0`, "Int -> Int, Int -> Int, Int -> Int"},
		{"!!Int = !!1", "Int"},
		{`!(!Int -> !Nat) -> !!Int -> !!Nat = \f:!(!Int -> !Nat). \x:!!Int. let g = f in let y = x in !(g y)`, "(Int -> Nat) -> Int -> Nat"},
		{"!Nat = match P[1, !Z] { P[a, b] -> b }", "Nat, Int -> Nat -> Nat"},
		{"Pair = match F[\\x:Int. x, Z, P[1, !Z]] { F[a, b, c] -> c }", "Pair, (Int -> Int) -> Nat -> Pair -> Pair"},
		{"Int -> Int = match F[\\x:Int. x, Z, P[1, !Z]] { F[a, b, c] -> a }", "Int -> Int, (Int -> Int) -> Nat -> Pair -> Int -> Int"},
		{`!Int -> Nat -> !Nat = \x:!Int. \n:Nat. match n { Z -> let y = x in !Z; S[m] -> let y = x in if 1 then !(match B[y] { A -> Z; B[u] -> S[Z]; C[k, u] -> k }) else !S[Z] }`, "Int -> Nat -> Nat, Int -> Nat, Nat -> Int -> Nat, Int -> Nat, Nat, Int -> Nat, Nat -> Int -> Nat, Int -> Nat"},
	} {
		p := checkedProgram("main : " + c.def)
		checkLifted(t, p)
		types, code := impl.BookTypes(p)
		var texts []string
		for _, x := range types {
			texts = append(texts, impl.TypeText(x))
		}
		if got := strings.Join(texts, ", "); got != c.want || code != impl.OK {
			t.Errorf("%s: types %s, code %d, want %s", c.def, got, code, c.want)
		}
	}
}

// TestBangsAreRemoved has all small types, and others with bangs at every place, in each place of a type of a program.
func TestBangsAreRemoved(t *testing.T) {
	list := append(smallTypes(4), bangTypes(5, intType()), typeOf("!(!A -> !!B) -> !(!Int -> A)"), typeOf("!(!(!Int -> !A) -> !B)"), typeOf("!(A -> !(B -> !Int))"))
	for _, x := range list {
		data := impl.Data{Name: "D", Cons: []impl.Constructor{{Name: "C", Fields: []impl.Type{x, bangType(intType()), x}}}}
		if impl.ValidType(bangType(x)) {
			data.Cons[0].Fields[1] = bangType(x)
		}
		p := impl.Program{Datas: append(datasOf("A = A; B = B"), data)}
		add := func(name, body string, arguments ...impl.Type) {
			result := x
			for _, argument := range slices.Backward(arguments) {
				result = funType(argument, result)
			}
			if impl.ValidType(result) {
				p.Defs = append(p.Defs, impl.Def{Name: name, Type: result, Body: must(impl.ParseTerm(strings.ReplaceAll(body, "X", "("+impl.TypeText(x)+")")))})
			}
		}
		add("main", `\c:Int. \x:X. if c then x else x`, intType(), x)
		add("used", "used")
		add("field", `\d:D. \y:X. match d { C[a, b, c] -> if 1 then c else y }`, dataType("D"), x)
		add("other", `\d:D. match d { C[a, b, c] -> let e = b in a }`, dataType("D"))
		add("function", `(if 1 then \x:X. x else \x:X. x) used`)
		add("boxed", `\x:!X. let y = x in (\z:!X. used) (if 1 then !y else !used)`, bangType(x))
		if code := impl.CheckProgram(p); code != impl.OK || len(p.Defs) < 2 {
			t.Fatalf("%s: code %d, %d definitions", closedText(x), code, len(p.Defs))
		}
		checkLifted(t, p)
	}
}

// TestTypesThatAreNoValidTypes has branches whose types are deeper or larger than a valid type.
func TestTypesThatAreNoValidTypes(t *testing.T) {
	large := bangType(binaryType(4, intType()))
	for n := 1; n <= 10; n++ {
		// Many captured variables, or functions of the largest types as what a branch has or captures.
		sum, lets := "0", ""
		for i := range n {
			sum = fmt.Sprintf("(x%d + %s)", i, sum)
			lets += fmt.Sprintf("let x%d = %d in ", i, i)
		}
		many := checkedProgram("main : Int = " + lets + "if 1 then " + sum + " else 2")
		lambdas := wideLambdas(n, large, leafOf("1"))
		chosen := withBody(filled(termOf("(let:x (! (if 1 # #)) 1)"), lambdas))
		taken := withBody(filled(termOf("(let:f (! #) (let:g (if 1 (! f) (! f)) 1))"), lambdas))
		for size, p := range map[int]impl.Program{2*n + 1: many, 16*n + 1: chosen, 32*n + 3: taken} {
			checkLifted(t, p)
			types, code := impl.BookTypes(p)
			if code != impl.OK || nodesOfType(types[1]) != size || impl.ValidType(types[1]) != (n <= 5 && size <= 16) {
				t.Errorf("%d variables or functions: code %d, type %.300v", n, code, types[1])
			}
		}
	}
}
