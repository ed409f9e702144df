package tests

import (
	"fmt"
	"math"
	"slices"
	"strings"
	"testing"

	"loop.example/g01074/impl"
)

// TestExamplesOfTypesOfTerms asserts the example of chapter 5 on types.
func TestExamplesOfTypesOfTerms(t *testing.T) {
	p := checkedProgram(`main : !(Nat -> Nat) -> !(Nat -> Nat) = \f:!(Nat -> Nat). let g = f in !(\x:Nat. g (g x))`)
	if x, code := impl.InferBody(p, 0); impl.TypeText(x) != "!(Nat -> Nat) -> !(Nat -> Nat)" || code != impl.OK {
		t.Errorf("%v, code %d", x, code)
	}
	checkAll(t, p, impl.OK)
}

// tools are definitions of which a body can make any use, as they may have any level and any number of uses.
func tools() []string {
	return []string{"num : Int = 1", "nat : Nat = Z", "box : !Int = !1", "nats : !Nat = !Z", `fun : Int -> Int = \x:Int. x`, `hop : !(Nat -> Nat) = !(\x:Nat. x)`, "pair : Pair = P[1, !Z]"}
}

// withTools defines main, of the type Int, behind the tools.
func withTools(body string) impl.Program {
	return checkedProgram(append(tools(), "main : Int = "+body)...)
}

// checkType checks that a body beside the tools has a type, given by its closed text, or none.
func checkType(t *testing.T, body, want string) {
	t.Helper()
	p := withTools(body)
	last := &p.Defs[len(p.Defs)-1]
	if stated := typeAsStated(p, last.Body); stated != want {
		t.Fatalf("%s: %q as stated, want %q", body, stated, want)
	}
	if got := inferredText(p, int64(len(p.Defs)-1)); got != want {
		t.Errorf("%s: type %q, want %q", body, got, want)
	}
	for _, declared := range []string{"Int", "Nat", "!Int", "Int -> Int", "!!Int", "Fun", want} {
		if declared == "" {
			continue
		}
		last.Type = typeOf(declared)
		code := int64(impl.ErrType)
		if closedText(last.Type) == want {
			code = impl.OK
		}
		if !impl.ValidType(last.Type) {
			code = impl.ErrInvalid
		}
		if got := impl.CheckTypes(p); got != code {
			t.Errorf("%s of the type %s: code %d, want %d", body, declared, got, code)
		}
	}
}

// inferredText is the closed text of the type that InferBody returns, or nothing with ErrType.
func inferredText(p impl.Program, k int64) string {
	x, code := impl.InferBody(p, k)
	if code == impl.ErrType && x.Kind == 0 && x.Name == "" && len(x.Kids) == 0 {
		return ""
	}
	if code != impl.OK {
		return fmt.Sprint("code ", code)
	}
	return closedText(x)
}

func TestTypesOfTerms(t *testing.T) {
	for body, want := range map[string]string{
		"num": "Int", "nat": "Nat", "box": "!Int", "fun": "(Int->Int)", "hop": "!(Nat->Nat)", "pair": "Pair", "7": "Int", "(-2147483648)": "Int",
		`\x:Nat. x`: "(Nat->Nat)", `\x:Nat. num`: "(Nat->Int)", `\x:!(Nat -> Int). x`: "(!(Nat->Int)->!(Nat->Int))", `\x:Int. \y:Nat. x`: "(Int->(Nat->Int))", `\x:Int -> Int. x`: "((Int->Int)->(Int->Int))",
		`\x:Nat. x + 1`: "", `\x:Nat. num nat`: "", `\x:!Int. x + 1`: "",
		"fun num": "Int", "fun nat": "", "fun box": "", "fun fun": "", "num num": "", "nat nat": "", "hop nat": "", "pair num": "", "7 7": "", "num fun": "", "fun (num + nat)": "", "(num + nat) num": "",
		`(\f:Int -> Int. f num) fun`: "Int", `(\f:Int -> Int. f num) num`: "", `(\x:Int. fun) num`: "(Int->Int)", `(\x:Int. fun) num num`: "Int", `(\x:Int. fun) num num num`: "", `(\x:Int -> Nat. 1) fun`: "", `(\x:Nat -> Int. 1) fun`: "", `(\x:!Nat. x) nats`: "!Nat", `(\x:!Nat. x) nat`: "", `(\x:Nat. x) nats`: "", `(\x:!Nat. x) box`: "",
		"!num": "!Int", "!!nat": "!!Nat", "!fun": "!(Int->Int)", "!(num + nat)": "", "!!(nat num)": "",
		// In the fields of constructors.
		"Z": "Nat", "S[nat]": "Nat", "S[S[Z]]": "Nat", "S[num]": "", "S[nats]": "", "S[!nat]": "", "S[pair]": "", "S[S[num]]": "", "P[num, nats]": "Pair", "P[num, !Z]": "Pair", "P[nat, nats]": "", "P[num, nat]": "", "P[num, box]": "", "P[box, nats]": "", "P[nat, nat]": "",
		"F[fun, nat, pair]": "Fun", "F[num, nat, pair]": "", "F[fun, num, pair]": "", "F[fun, nat, nat]": "", "F[!fun, nat, pair]": "", `F[\x:Int. x, Z, P[1, !Z]]`: "Fun", `F[\x:Nat. 1, Z, P[1, !Z]]`: "", `F[\x:Int. Z, Z, P[1, !Z]]`: "", "A": "Tri", "C[nat, num]": "Tri", "C[num, nat]": "",
		// In the kids of a choice.
		"if num then nat else nat": "Nat", "if num then fun else fun": "(Int->Int)", "if num then !1 else box": "!Int", "if nat then 1 else 1": "", "if box then 1 else 1": "", "if fun then 1 else 1": "", "if num then nat else num": "", "if num then num else nat": "", "if num then num else box": "", "if num then box else !nat": "", "if num then !fun else hop": "", "if 1 then (1 + nat) else 1": "", "if 1 then 1 else (1 + nat)": "", "if (1 + nat) then 1 else 1": "",
		`if 1 then \x:Int. x else \y:Int. y`: "(Int->Int)", `if 1 then \x:Int. x else \x:Nat. x`: "", `if 1 then \x:Int. x else \x:Int. nat`: "",
		"match nat { Z -> 1; S[x] -> 2 }": "Int", "match nat { Z -> nat; S[x] -> x }": "Nat", "match nat { Z -> 1; S[x] -> x }": "", "match nat { Z -> nat; S[x] -> 1 }": "", "match num { Z -> 1; S[x] -> 2 }": "", "match nats { Z -> 1; S[x] -> 2 }": "", "match pair { Z -> 1; S[x] -> 2 }": "", "match Z { Z -> S[num]; S[x] -> Z }": "", "match Z { Z -> Z; S[x] -> S[num] }": "", "match S[num] { Z -> 1; S[x] -> 2 }": "",
		"match pair { P[a, b] -> a }": "Int", "match pair { P[a, b] -> b }": "!Nat", "match pair { P[b, a] -> a }": "!Nat", "match pair { P[a, b] -> a + b }": "", "match nat { P[a, b] -> a }": "", "match F[fun, nat, pair] { F[a, b, c] -> a }": "(Int->Int)", "match F[fun, nat, pair] { F[a, b, c] -> b }": "Nat", "match F[fun, nat, pair] { F[a, b, c] -> c }": "Pair", "match F[fun, nat, pair] { F[c, a, b] -> c num }": "Int",
		"match A { A -> 1; B[x] -> x; C[x, y] -> y }": "Int", "match A { A -> nat; B[x] -> x; C[x, y] -> x }": "", "match A { A -> nat; B[x] -> nat; C[x, y] -> x }": "Nat", "match A { A -> nat; B[x] -> nat; C[x, y] -> y }": "", "match A { A -> 1; B[x] -> x; C[x, y] -> x }": "", "match A { A -> !1; B[x] -> box; C[x, y] -> nats }": "", "match A { A -> 1; B[x] -> 1; C[x, y] -> box }": "",
	} {
		checkType(t, body, want)
	}
	for _, op := range strings.Fields("+ - * / < =") {
		for operands, want := range map[string]string{"num # num": "Int", "7 # num": "Int", "nat # num": "", "num # nat": "", "box # num": "", "num # box": "", "fun # num": "", "num # fun": "", "pair # 1": "", "1 # pair": "", "nat # nat": "", "box # box": "", "fun # fun": "", "(num # num) # (num # num)": "Int", "(num # nat) # num": "", "num # (nat # num)": ""} {
			checkType(t, strings.ReplaceAll(operands, "#", op), want)
		}
	}
}

func TestTypesOfLets(t *testing.T) {
	for body, want := range map[string]string{
		// Over an Int, over a boxed type, and over any other type.
		"let x = num in x": "Int", "let x = num in nat": "Nat", "let x = num in !x": "!Int", "let x = 7 in x + x": "Int", "let x = num in S[x]": "", "let x = num in x num": "",
		"let x = box in x": "Int", "let x = box in nat": "Nat", "let x = !box in x": "!Int", "let x = !!box in x": "!!Int", "let x = nats in x": "Nat", "let x = nats in S[x]": "Nat", "let x = nats in x + 1": "", "let x = hop in x": "(Nat->Nat)", "let x = hop in x (x nat)": "Nat", "let x = hop in x num": "", "let x = !pair in x": "Pair", "let x = !fun in x num": "Int", "let x = box in let y = x in y": "Int", "let x = !box in let y = x in y": "Int", "let x = nats in let y = x in y": "",
		"let x = nat in 1": "", "let x = nat in x": "", "let x = fun in 1": "", "let x = fun in x": "", "let x = pair in 1": "", `let x = \y:Int. y in 1`: "", "let x = num + nat in 1": "", "let x = !(num + nat) in 1": "", "let x = num in num + nat": "", "let x = box in nat num": "",
	} {
		checkType(t, body, want)
	}
}

// TestEachRuleWithEachTool fills nodes of all kinds with all tools.
func TestEachRuleWithEachTool(t *testing.T) {
	var names []string
	for _, tool := range tools() {
		names = append(names, strings.Fields(tool)[0])
	}
	typed, others := 0, 0
	var fill func(body string)
	fill = func(body string) {
		if !strings.Contains(body, "#") {
			p := withTools(body)
			want := typeAsStated(p, p.Defs[len(p.Defs)-1].Body)
			if got := inferredText(p, int64(len(p.Defs)-1)); got != want {
				t.Errorf("%s: type %q, want %q", body, got, want)
			}
			if want == "" {
				others++
			} else {
				typed++
			}
			return
		}
		for _, name := range names {
			fill(strings.Replace(body, "#", name, 1))
		}
	}
	for _, body := range []string{
		"# < #", `\x:Nat. #`, `(\x:Nat -> Nat. #) #`, "# #", "# # #", "!#", "let x = # in #", "let x = # in x #", "let x = # in # x", "let x = # in S[x]", "let x = # in P[#, !x]", "S[#]", "P[#, #]", "F[#, #, #]", "C[#, #]", "B[#]",
		"if # then # else #", "match # { Z -> #; S[x] -> # }", "match # { Z -> #; S[x] -> x }", "match # { P[x, y] -> y }", "match B[#] { A -> #; B[x] -> #; C[x, y] -> y }", "match A { A -> #; B[x] -> #; C[x, y] -> # }",
	} {
		fill(body)
	}
	if typed < 70 || others < 1000 {
		t.Errorf("only %d and %d bodies", typed, others)
	}
}

func TestTypesOfShadowedNames(t *testing.T) {
	for body, want := range map[string]string{
		`\num:Nat. num`: "(Nat->Nat)", `\num:Nat. num + 1`: "", `\main:Nat. S[main]`: "(Nat->Nat)", "let num = hop in num": "(Nat->Nat)", "let num = hop in num + 1": "", "let nat = num in nat + 1": "Int", "let nat = num in S[nat]": "", "let nat = box in S[nat]": "", "let hop = hop in hop nat": "Nat", "let hop = hop in let hop = hop in 1": "", "let box = box in let box = box in box": "Int",
		"match nat { Z -> num; S[num] -> 1 }": "Int", "match nat { Z -> nat; S[num] -> num }": "Nat", "match nat { Z -> num; S[num] -> num }": "", "match nat { Z -> num + 1; S[num] -> num + 1 }": "", "match pair { P[nat, num] -> nat }": "Int", "match pair { P[nat, num] -> num }": "!Nat", "match nat { Z -> nat; S[nat] -> nat }": "Nat", "match A { A -> num; B[nat] -> nat; C[num, nat] -> nat }": "Int", "match A { A -> num; B[nat] -> nat; C[num, nat] -> num }": "",
		// The same name free beside, before and behind the binding.
		`P[num, (\num:!Nat. num) nats]`: "Pair", `(\num:Nat. S[num]) (S[nat])`: "Nat", `(\nat:Int. nat + 1) num + (\num:Nat. 1) nat`: "Int", `(\num:Nat. num) num`: "", "num + (let num = box in num)": "Int", "(let num = nats in 1) + num": "Int", "let num = !fun in num 1": "Int", "let num = num + num in num": "Int", "let nat = S[nat] in 1": "", "let fun = !fun in fun 1": "Int", "let nats = nats in P[1, nats]": "", "let nats = nats in P[1, !nats]": "Pair", "(match nat { Z -> nat; S[num] -> num }) + num": "", "num + (match nat { Z -> 2; S[num] -> match num { Z -> 3; S[nat] -> 4 } })": "Int", "P[match nats { Z -> 1; S[nats] -> 1 }, nats]": "",
		"C[match nat { Z -> nat; S[num] -> num }, num]": "Tri", `F[\nat:Int. nat, nat, pair]`: "Fun", `F[\num:Int. num, (\num:Nat. num) nat, let num = box in P[num, nats]]`: "Fun",
		// Bound twice or three times, one inside the other.
		`\x:Int. \x:Nat. x`: "(Int->(Nat->Nat))", `\x:Nat. (\x:Int. x + 1) 2`: "(Nat->Int)", `\x:Nat. P[(\x:Int. x) 1, !x]`: "(Nat->Pair)", `\x:Nat. P[(\x:Int. x) 1, (\x:Int. !x) 1]`: "", `\x:Nat. let x = box in match nat { Z -> x; S[x] -> 1 }`: "(Nat->Int)", `\x:Nat. let x = box in match nat { Z -> nat; S[x] -> x }`: "(Nat->Nat)", `\x:!Nat. let x = x in x`: "(!Nat->Nat)", `\x:!!Nat. let x = x in let x = x in x`: "(!!Nat->Nat)", `\x:Nat. match x { Z -> x; S[x] -> match x { Z -> x; S[x] -> x } }`: "(Nat->Nat)", `\x:Int. match B[x] { A -> x; B[x] -> x; C[y, x] -> x }`: "(Int->Int)", `\x:Int. match B[x] { A -> x; B[x] -> x; C[x, y] -> x }`: "",
	} {
		checkType(t, body, want)
	}
}

// wideLambdas has n functions of the largest types around a term; the type of the innermost one is given.
func wideLambdas(n int, last impl.Type, body impl.Term) impl.Term {
	large := bangType(binaryType(4, intType()))
	for i := range n {
		x := large
		if i == 0 {
			x = last
		}
		body = impl.Term{Kind: impl.TmLam, Name: "x", Type: x, Kids: []impl.Term{body}}
	}
	return body
}

// TestTypesThatAreTooLarge has types that are no valid types, but are determined and compared all the same.
func TestTypesThatAreTooLarge(t *testing.T) {
	large, other := bangType(binaryType(4, intType())), bangType(funType(binaryType(3, intType()), funType(funType(intType(), intType()), funType(intType(), dataType("Nat")))))
	program := func(body impl.Term) impl.Program {
		return impl.Program{Datas: checkedProgram("f : Int = 1").Datas, Defs: []impl.Def{{Name: "main", Type: intType(), Body: body}}}
	}
	for n := 1; n <= 23; n++ {
		body := wideLambdas(n, large, leafOf("1"))
		p := program(body)
		x, code := impl.InferBody(p, 0)
		want := intType()
		for range n {
			want = funType(large, want)
		}
		if !equalTypes(x, want) || code != impl.OK || nodesOfType(x) != 17*n+1 || impl.CheckTypes(p) != impl.ErrType {
			t.Errorf("%d functions: %.300v, code %d", n, x, code)
		}
		boxed := boxes(n, leafOf("1"))
		if x, code := impl.InferBody(program(boxed), 0); !equalTypes(x, bangTypes(n, intType())) || code != impl.OK {
			t.Errorf("%d boxes: %.300v, code %d", n, x, code)
		}
		for _, place := range []string{"(let:y (! #) 1)", "(+ (let:y (! #) 1) 1)", "(let:y (! (! #)) (let:z (! 1) 1))"} {
			for _, inner := range []impl.Term{body, boxed} {
				if body := filled(termOf(place), inner); impl.ValidTerm(body) {
					if got := impl.CheckTypes(program(body)); got != impl.OK {
						t.Errorf("%d nodes of large types in %s: code %d", n, place, got)
					}
				}
			}
		}
	}
	for n := 1; n <= 20; n++ {
		for _, c := range []struct {
			a, b impl.Term
			same bool
		}{
			{wideLambdas(n, large, leafOf("1")), wideLambdas(n, large, leafOf("2")), true},
			{wideLambdas(n, large, leafOf("1")), wideLambdas(n, other, leafOf("1")), false},
			{wideLambdas(n, other, leafOf("1")), wideLambdas(n, large, leafOf("1")), false},
			{wideLambdas(n, large, leafOf("1")), wideLambdas(n, large, leafOf("Z")), false},
			{wideLambdas(n, large, leafOf("1")), wideLambdas(n+1, large, leafOf("1")), false},
			{boxes(n, leafOf("1")), boxes(n, leafOf("2")), true}, {boxes(n, leafOf("1")), boxes(n, leafOf("Z")), false}, {boxes(n, leafOf("1")), boxes(n+1, leafOf("1")), false},
		} {
			body := impl.Term{Kind: impl.TmIf, Kids: []impl.Term{leafOf("1"), c.a, c.b}}
			p := program(body)
			if got := inferredText(p, 0); (got != "") != c.same || got != typeAsStated(p, body) {
				t.Errorf("%d nodes: %.300s and %.300s: type %.300q", n, impl.PrintTerm(c.a), impl.PrintTerm(c.b), got)
			}
		}
	}
}

// TestTypesOfTheLargestPrograms has as many definitions as there may be, as large as they may be, and full of large types.
func TestTypesOfTheLargestPrograms(t *testing.T) {
	p := defsOf(8)
	p.Datas = datasOf("Nat = Z | S[Nat]")
	largest := func(last string) impl.Term {
		body := filled(termOf("(+ # "+last+")"), sizedSum(21))
		for range 8 {
			boxed := boxes(1, wideLambdas(14, intType(), leafOf("1")))
			body = impl.Term{Kind: impl.TmLet, Name: "y", Kids: []impl.Term{boxed, body}}
		}
		return body
	}
	for i := range p.Defs {
		p.Defs[i].Body = largest("1")
	}
	if size := nodesOfTerm(p.Defs[0].Body); size < 150 {
		t.Errorf("only %d nodes", size)
	}
	checkAll(t, p, impl.OK)
	p.Defs[7].Body = largest("Z")
	checkAll(t, p, impl.ErrType)
}

// sizedSum has n nodes, which are sums and numbers; n is odd.
func sizedSum(n int) impl.Term {
	if n == 1 {
		return leafOf("1")
	}
	left := (n - 1) / 2
	left -= 1 - left%2
	return impl.Term{Kind: impl.TmOp, Num: impl.OpAdd, Kids: []impl.Term{sizedSum(left), sizedSum(n - 1 - left)}}
}

func TestDeclaredTypes(t *testing.T) {
	for at := range 3 {
		p := checkedProgram("one : Int = 1", "main : !Int = !1", `two : Int -> Nat = \x:Int. Z`)
		checkAll(t, p, impl.OK)
		for _, declared := range []string{"Nat", "!!Int", "Int -> Int", "Nat -> Nat", "!Nat", "Int -> !Nat", "!(Int -> Nat)", "!Int -> Nat", "Pair", "(Int -> Int) -> Nat"} {
			p.Defs[at].Type = typeOf(declared)
			checkAll(t, p, impl.ErrType)
			for k, def := range p.Defs {
				if got := inferredText(p, int64(k)); got != typeAsStated(p, def.Body) {
					t.Errorf("definition %d: type %q", k, got)
				}
			}
		}
	}
	// A name has the declared type of its definition, whatever the type of its body.
	p := checkedProgram("main : Int = f + 1", "f : Int = Z", "g : Nat = f", "h : Nat = h")
	for k, want := range []string{"Int", "Nat", "Int", "Nat"} {
		if got := inferredText(p, int64(k)); got != want {
			t.Errorf("definition %d: type %q", k, got)
		}
	}
	checkAll(t, p, impl.ErrType)
}

func TestInferBody(t *testing.T) {
	p := checkedProgram("main : Int = 1", "f : Int = 1 + Z", "g : Nat = !1", "h : Int -> Int = \\x:Int. \\y:Nat. x", "i : Int = 1 1")
	for k, want := range []string{"Int", "", "!Int", "(Int->(Nat->Int))", ""} {
		if got := inferredText(p, int64(k)); got != want {
			t.Errorf("definition %d: type %q, want %q", k, got, want)
		}
	}
	outside := []int64{-1, -2, 5, 6, 8, 1 << 32, 1<<32 + 1, math.MinInt64, math.MaxInt64}
	for _, k := range outside {
		if x, code := impl.InferBody(p, k); code != impl.ErrNotFound || !equalTypes(x, impl.Type{}) {
			t.Errorf("definition %d: %v, code %d", k, x, code)
		}
	}
	// The names of all definitions are checked before the index and the types.
	for code, last := range map[int64]string{impl.ErrName: "1 + x", impl.ErrRange: "1 + S"} {
		p := checkedProgram("main : Int = 1", "f : Int = 1 1", "last : Int = "+last)
		for _, k := range append(outside, 0, 1, 2) {
			if x, got := impl.InferBody(p, k); got != code || !equalTypes(x, impl.Type{}) {
				t.Errorf("definition %d: %v, code %d, want %d", k, x, got, code)
			}
		}
	}
	for _, p := range invalidPrograms() {
		for _, k := range []int64{-1, 0, 1, 8} {
			if x, code := impl.InferBody(p, k); code != impl.ErrInvalid || !equalTypes(x, impl.Type{}) {
				t.Errorf("invalid program, definition %d: %v, code %d", k, x, code)
			}
		}
	}
}

// invalidPrograms are not valid in one of their parts, also ones of any size.
func invalidPrograms() []impl.Program {
	main := impl.Def{Name: "main", Type: intType(), Body: leafOf("1")}
	list := []impl.Program{{}, {Datas: datasOf("A = B")}, {Defs: []impl.Def{main, main}}, {Defs: []impl.Def{main, {}}}, {Defs: append(defsOf(8).Defs, main)}, {Defs: append([]impl.Def{main}, defsOf(100000).Defs...)}}
	for _, datas := range someInvalidDatas() {
		list = append(list, impl.Program{Datas: datas, Defs: []impl.Def{main}})
	}
	for _, body := range append(invalidTerms(), endlessTerms()...) {
		list = append(list, withBody(body), impl.Program{Defs: []impl.Def{main, {Name: "f", Type: intType(), Body: body}}})
	}
	for _, x := range slices.Concat(brokenTypes(), largeTypes(), endlessTypes()) {
		list = append(list, impl.Program{Defs: []impl.Def{{Name: "main", Type: x, Body: leafOf("1")}}}, impl.Program{Defs: []impl.Def{main, {Name: "f", Type: x, Body: leafOf("1")}}})
	}
	for _, name := range append(keywords(), "", "Main", "1", "x_", "abcdefghijklm") {
		list = append(list, impl.Program{Defs: []impl.Def{main, {Name: name, Type: intType(), Body: leafOf("1")}}})
	}
	return list
}

func TestInvalidProgramsFailAllChecks(t *testing.T) {
	for i, p := range invalidPrograms() {
		at, code := impl.MainDef(p)
		if got := []int64{impl.CheckTypes(p), impl.CheckLevels(p), impl.CheckProgram(p), code, at}; !slices.Equal(got, []int64{impl.ErrInvalid, impl.ErrInvalid, impl.ErrInvalid, impl.ErrInvalid, 0}) {
			t.Errorf("invalid program %d: codes %d", i, got)
		}
	}
}

func TestMainDef(t *testing.T) {
	check := func(p impl.Program, wantAt, wantCode int64) {
		t.Helper()
		if at, code := impl.MainDef(p); at != wantAt || code != wantCode {
			t.Errorf("%.300s: %d, code %d, want %d and %d", impl.PrintProgram(p), at, code, wantAt, wantCode)
		}
	}
	for n := 1; n <= 8; n++ {
		check(defsOf(n), 0, impl.ErrNotFound)
		for at := range n {
			p := defsOf(n)
			p.Defs[at].Name = "main"
			check(p, int64(at), impl.OK)
			// It is a definition, whether its names and types are correct or not.
			for _, body := range []string{"x", "S", "(! 1)", `(\x (+ x x))`} {
				p.Defs[n-1-at].Body = termOf(body)
				check(p, int64(at), impl.OK)
			}
		}
	}
	for _, name := range []string{"mai", "mains", "mAin", "main1", "f"} {
		p := defsOf(3)
		p.Defs[1].Name = name
		check(p, 0, impl.ErrNotFound)
	}
	check(checkedProgram(`f : Int -> Int = \main:Int. main`), 0, impl.ErrNotFound)
	check(checkedProgram("f : Int = main"), 0, impl.ErrNotFound)
	check(checkedProgram("f : Int = let main = 1 in main", "main : Int = f"), 1, impl.OK)
}
