package tests

import (
	"fmt"
	"math"
	"math/rand"
	"slices"
	"testing"

	"loop.example/g01074/impl"
)

// defsOf is a program of n definitions.
func defsOf(n int) impl.Program {
	var p impl.Program
	for i := range n {
		p.Defs = append(p.Defs, impl.Def{Name: fmt.Sprint("d", i), Type: intType(), Body: leafOf("1")})
	}
	return p
}

func TestValidPrograms(t *testing.T) {
	for n := range 12 {
		if got := impl.ValidProgram(defsOf(n)); got != (1 <= n && n <= 8) {
			t.Errorf("%d definitions: valid is %t", n, got)
		}
	}
	if impl.ValidProgram(defsOf(100000)) || impl.ValidProgram(impl.Program{Datas: datasOf("A = B")}) {
		t.Error("too many definitions or none")
	}
	for _, n := range []int{1, 2, 8} {
		for at := range n {
			for _, name := range []string{"x", "main", "abcdefghijkl"} {
				p := defsOf(n)
				p.Defs[at].Name = name
				checkValidProgram(t, p, true)
			}
			for _, name := range append(keywords(), "", "X", "Main", "1", "x_", "abcdefghijklm", "é") {
				p := defsOf(n)
				p.Defs[at].Name = name
				checkValidProgram(t, p, false)
			}
			for other := range n {
				p := defsOf(n)
				p.Defs[at].Name = p.Defs[other].Name
				checkValidProgram(t, p, at == other)
			}
			for _, x := range largestTypes() {
				p := defsOf(n)
				p.Defs[at].Type = x
				checkValidProgram(t, p, true)
			}
			for _, x := range append(brokenTypes(), bangTypes(6, intType()), binaryType(5, intType()), tangledType(60, intType())) {
				p := defsOf(n)
				p.Defs[at].Type = x
				checkValidProgram(t, p, false)
			}
			for _, x := range []impl.Term{sizedTerm(160), boxes(23, leafOf("x")), termOf("(match y (|Q,x x))")} {
				p := defsOf(n)
				p.Defs[at].Body = x
				checkValidProgram(t, p, true)
			}
			for _, x := range append(invalidTerms(), tangledTerm(60, leafOf("x"))) {
				p := defsOf(n)
				p.Defs[at].Body = x
				checkValidProgram(t, p, false)
			}
		}
	}
	for _, datas := range someValidDatas() {
		checkValidProgram(t, impl.Program{Datas: datas, Defs: defsOf(1).Defs}, true)
	}
	for _, datas := range someInvalidDatas() {
		checkValidProgram(t, impl.Program{Datas: datas, Defs: defsOf(1).Defs}, false)
	}
}

func checkValidProgram(t *testing.T, p impl.Program, want bool) {
	t.Helper()
	if impl.ValidProgram(p) != want {
		t.Errorf("%.300v: valid is %t", p, !want)
	}
	code := impl.CheckNames(p)
	if want == (code == impl.ErrInvalid) {
		t.Errorf("%.300v: valid is %t, code %d", p, want, code)
	}
	if code != impl.OK && (len(impl.UsedDefs(p, 0)) != 0 || len(impl.ReachableDefs(p, 0)) != 0) {
		t.Errorf("%.300v: code %d, and uses %d", p, code, impl.UsedDefs(p, 0))
	}
}

func TestSameProgram(t *testing.T) {
	first := func() impl.Program {
		return programOf("Nat = Z | S[Nat]; Loop = L[Loop, Int]", "main : Nat -> Int = (\\x:Nat (match x (|Z 1) (|S,y 2)))", "two : Nat = (S (S Z))")
	}
	for i, change := range []func(p *impl.Program){
		func(p *impl.Program) { p.Datas = p.Datas[:1] }, func(p *impl.Program) { p.Datas = nil },
		func(p *impl.Program) { p.Datas[0], p.Datas[1] = p.Datas[1], p.Datas[0] },
		func(p *impl.Program) { p.Datas[1].Name = "Loops" }, func(p *impl.Program) { p.Datas[0].Cons = p.Datas[0].Cons[:1] },
		func(p *impl.Program) { p.Datas[0].Cons[1].Name = "T" }, func(p *impl.Program) { p.Datas[1].Cons[0].Fields[1] = dataType("Nat") },
		func(p *impl.Program) { p.Datas[1].Cons[0].Fields = p.Datas[1].Cons[0].Fields[:1] },
		func(p *impl.Program) { p.Defs = p.Defs[:1] }, func(p *impl.Program) { p.Defs = nil },
		func(p *impl.Program) { p.Defs[0], p.Defs[1] = p.Defs[1], p.Defs[0] },
		func(p *impl.Program) { p.Defs[1].Name = "three" }, func(p *impl.Program) { p.Defs[0].Type = dataType("Nat") },
		func(p *impl.Program) { p.Defs[0].Type.Kids[1] = dataType("Nat") }, func(p *impl.Program) { p.Defs[1].Body = termOf("(S Z)") },
		func(p *impl.Program) { p.Defs[0].Body.Name = "y" }, func(p *impl.Program) { p.Defs[0].Body.Kids[0].Kids[2].Names[0] = "z" },
		func(p *impl.Program) { p.Defs[0].Body.Type = intType() }, func(p *impl.Program) { p.Defs[0].Body.Kids[0].Kids[2].Kids[0].Num = 3 },
	} {
		p := first()
		change(&p)
		if impl.SameProgram(p, first()) || impl.SameProgram(first(), p) || !impl.SameProgram(p, p) || !impl.SameProgram(p, roomyProgram(p)) {
			t.Errorf("change %d: %v", i, p)
		}
	}
	if !impl.SameProgram(first(), first()) || !impl.SameProgram(impl.Program{}, impl.Program{Datas: []impl.Data{}, Defs: []impl.Def{}}) || impl.SameProgram(impl.Program{}, first()) {
		t.Error("programs are the same, and an empty slice is no other than nil")
	}
	var broken []impl.Program
	for _, x := range invalidTerms() {
		broken = append(broken, withBody(x))
	}
	for i, p := range broken {
		for k, q := range broken {
			if got := impl.SameProgram(p, q); got != equalTerms(p.Defs[0].Body, q.Defs[0].Body) {
				t.Errorf("programs of invalid terms %d and %d: same is %t", i, k, got)
			}
		}
	}
}

func TestSameProgramWithSharedTypes(t *testing.T) {
	program := func(x impl.Type) impl.Program {
		data := impl.Data{Name: "A", Cons: slices.Repeat([]impl.Constructor{{Name: "A", Fields: slices.Repeat([]impl.Type{x}, 100)}}, 100)}
		return impl.Program{Datas: slices.Repeat([]impl.Data{data}, 10), Defs: slices.Repeat([]impl.Def{{Type: x}}, 1000)}
	}
	a, b, other := program(tangledType(9999, intType())), program(tangledType(9999, intType())), program(tangledType(9999, dataType("A")))
	if !impl.SameProgram(a, b) || impl.SameProgram(a, other) {
		t.Error("programs with many large types")
	}
}

const someDatas = "Nat = Z | S[Nat]; Pair = P[Int, Nat]; Unit = U"

// namedBodies are bodies with the code that CheckNames returns for them in a program with someDatas and the definitions main and other.
func namedBodies() map[int64][]string {
	return map[int64][]string{
		impl.OK: {
			"1", "main", "other", "Z", "U", "(S Z)", "(S (S (S Z)))", "(P 1 Z)", "(P main other)", `(\x:Nat x)`, `(\x:Nat->!Pair x)`, `(\main main)`, "(let:x 1 x)", "(let:main main main)", "(! (@ main 1))",
			"(match Z (|Z 1) (|S,x x))", "(match 1 (|Z main) (|S,main main))", "(match 1 (|P,a,b (P a b)))", "(match U (|U 1))", "(match (match 1 (|U Z)) (|Z 1) (|S,x (match x (|Z 1) (|S,x x))))", "(if 1 Z main)",
		},
		impl.ErrName: {
			"x", "mai", "mains", `(\x y)`, "(let:x x 1)", "(let:x 1 y)", "(+ (let:x 1 x) x)", "(@ main x)", "(if 1 2 x)", "(match Z (|Z x) (|S,x x))", "(match x (|Z 1) (|S,x x))", "(match 1 (|Z 1) (|S,x y))",
			"T", "(T 1)", "(T 1 2)", "(S T)", "(S (S T))", "Nat", "Pair", "Int", "(match 1 (|T 1))", "(match 1 (|Nat 1))", "(match 1 (|Z 1) (|S,x 1) (|T 1))", "(match 1 (|Z 1) (|T,x 1))", "(match T (|Z 1) (|S,x x))", "(match 1 (|Z 1) (|S,x T))",
			`(\x:Tree x)`, `(\x:Z x)`, `(\x:Nat->Tree x)`, `(\x:Tree->Nat x)`, `(\x:!!Tree x)`, `(\x:Nat (\y:Tree 1))`, "(match 1 (|Z 1) (|S,x (\\y:Int->!Tree y)))",
			"(S x)", "(P x 1)", "(S (P x))", "(T S)", "(S (S) T)", "(match (S) (|Z x))", "(match 1 (|T 1) (|Z 1))",
		},
		impl.ErrRange: {
			"S", "(S Z Z)", "(S Z Z Z)", "(Z 1)", "(Z 1 2 3)", "P", "(P 1)", "(P 1 2 3)", "(U 1)", "(S S)", "(S (S (Z Z)))", "(P (P 1 Z) P)",
			"(match 1 (|Z 1))", "(match 1 (|S,x 1))", "(match 1 (|S,x 1) (|Z 1))", "(match 1 (|Z 1) (|Z 1))", "(match 1 (|S,x 1) (|S,x 1))", "(match 1 (|Z 1) (|S,x 1) (|Z 1))", "(match 1 (|Z 1) (|S,x 1) (|S,x 1))", "(match 1 (|Z 1) (|Z 1) (|S,x 1))",
			"(match 1 (|U 1) (|U 1))", "(match 1 (|Z 1) (|P,a,b 1))", "(match 1 (|Z 1) (|U 1))", "(match 1 (|U 1) (|S,x 1))", "(match 1 (|Z 1) (|S,x 1) (|U 1))", "(match 1 (|Z 1) (|S,x 1) (|P,a,b 1) (|U 1))", "(match 1 (|P,a,b 1) (|U 1))",
			"(match 1 (|Z,x 1) (|S,x 1))", "(match 1 (|Z 1) (|S 1))", "(match 1 (|Z 1) (|S,x,y 1))", "(match 1 (|Z 1) (|S,x,y,z 1))", "(match 1 (|Z,x 1) (|S 1))", "(match 1 (|P,a 1))", "(match 1 (|P,a,b,c 1))", "(match 1 (|P 1))", "(match 1 (|U,x 1))",
			"(match S (|Z 1) (|S,x x))", "(match 1 (|Z 1) (|S,x (S x x)))", "(match 1 (|Z (match 1 (|Z 1))) (|S,x 1))",
		},
		impl.ErrInvalid: {"X_", "(|Z 1)", "(S 1 1 1 1)", "(match 1)", "(match 1 1)", "(match 1 (|Z,x,x x) (|T y))", "(@ S)", "(! T x)", "2147483648", `(\x:Int->Int->Int->Int->Int->Int->Int x)`},
	}
}

func TestCheckNames(t *testing.T) {
	for code, bodies := range namedBodies() {
		for _, body := range bodies {
			for _, place := range []string{
				"#", "(+ # 1)", "(+ 1 #)", `(\q #)`, "(@ # 1)", "(@ 1 #)", "(! (! #))", "(let:q # 1)", "(let:q 1 #)", "(S #)", "(P # 1)", "(P 1 #)",
				"(match # (|U 1))", "(match 1 (|Z #) (|S,q 1))", "(match 1 (|Z 1) (|S,q #))", "(match 1 (|P,q,r #))", "(if # 1 1)", "(if 1 # 1)", "(if 1 1 #)",
			} {
				for at := range 3 {
					p := programOf(someDatas, "main : Nat = 1", "other : !Nat = 2", "third : Pair -> Unit = 3")
					p.Defs[at].Body = filled(termOf(place), termOf(body))
					if got := impl.CheckNames(p); got != code || impl.ValidProgram(p) != (code != impl.ErrInvalid) {
						t.Errorf("%s in %s in definition %d: code %d, want %d", body, place, at, got, code)
					}
				}
			}
		}
	}
}

func TestCheckNamesOfTypes(t *testing.T) {
	for text, code := range map[string]int64{
		"Int": impl.OK, "Nat": impl.OK, "!Nat -> Pair": impl.OK, "!(Nat -> Unit) -> !!Int": impl.OK,
		"Tree": impl.ErrName, "Z": impl.ErrName, "Na": impl.ErrName, "!Tree": impl.ErrName, "Tree -> Nat": impl.ErrName, "Nat -> Tree": impl.ErrName, "!(Nat -> !!Tree) -> Int": impl.ErrName,
		"!!!!!!Int": impl.ErrInvalid, "nat": impl.ErrInvalid, "Int -> Int -> Int -> Int -> Int -> Int -> Int": impl.ErrInvalid,
	} {
		for at := range 3 {
			p := programOf(someDatas, "main : Nat = 1", "other : Nat = 2", "third : Nat = 3")
			p.Defs[at].Type = typeOf(text)
			if got := impl.CheckNames(p); got != code {
				t.Errorf("%s of definition %d: code %d, want %d", text, at, got, code)
			}
			p.Defs[at].Type = intType()
			p.Defs[at].Body = impl.Term{Kind: impl.TmLam, Name: "x", Type: typeOf(text), Kids: []impl.Term{leafOf("x")}}
			if got := impl.CheckNames(p); got != code {
				t.Errorf("%s of a function in definition %d: code %d, want %d", text, at, got, code)
			}
		}
	}
	for _, datas := range []string{"", "A = B", "Nat = Zero"} {
		if got := impl.CheckNames(programOf(datas, "main : Int = 1")); got != impl.OK {
			t.Errorf("%q: code %d", datas, got)
		}
		for _, def := range []string{"main : Tree = 1", "main : Int = Z", "main : Int = (match 1 (|Z 1))", `main : Int = (\x:Tree 1)`} {
			if got := impl.CheckNames(programOf(datas, def)); got != impl.ErrName {
				t.Errorf("%q, %s: code %d", datas, def, got)
			}
		}
	}
	p := programOf("Nat = Z | S[Tree]", "main : Tree = S")
	if got := impl.CheckNames(p); got != impl.ErrInvalid {
		t.Errorf("with a field of an undeclared type: code %d", got)
	}
}

// TestCheckNamesOfTwoErrors has two errors in one definition or in two, in both orders.
func TestCheckNamesOfTwoErrors(t *testing.T) {
	type fault struct {
		code int64
		make func(def *impl.Def)
	}
	body := func(code int64, text string) fault {
		return fault{code, func(def *impl.Def) { def.Body.Kids = append(def.Body.Kids, termOf(text)) }}
	}
	result := func(code int64, text string) fault {
		return fault{code, func(def *impl.Def) { def.Type = funType(def.Type, typeOf(text)) }}
	}
	faults := []fault{
		body(impl.ErrInvalid, "(@ 1)"), body(impl.ErrInvalid, "(|Z 1)"), result(impl.ErrInvalid, "nat"), {impl.ErrInvalid, func(def *impl.Def) { def.Name = "X" }}, {impl.ErrInvalid, func(def *impl.Def) { def.Name = "fourth" }},
		body(impl.ErrName, "x"), body(impl.ErrName, "T"), body(impl.ErrName, "(match 1 (|T 1))"), body(impl.ErrName, `(\x:Tree x)`), result(impl.ErrName, "Nat -> Tree"),
		body(impl.ErrRange, "S"), body(impl.ErrRange, "(match 1 (|Z 1))"), body(impl.ErrRange, "(match 1 (|Z 1) (|S 1))"),
	}
	rank := map[int64]int{impl.ErrInvalid: 1, impl.ErrName: 2, impl.ErrRange: 3}
	for i, a := range faults {
		for k, b := range faults {
			for at := range 3 {
				for other := range 3 {
					p := programOf(someDatas, "main : Nat = (P)", "other : Nat = (P)", "third : Nat = (P)", "fourth : Nat = 1")
					a.make(&p.Defs[at])
					b.make(&p.Defs[other])
					for d := range 3 {
						p.Defs[d].Body.Kids = append(p.Defs[d].Body.Kids, leaves(2)...)[:2]
					}
					want := a.code
					if rank[b.code] < rank[a.code] {
						want = b.code
					}
					if got := impl.CheckNames(p); got != want {
						t.Errorf("errors %d and %d in definitions %d and %d: code %d, want %d", i, k, at, other, got, want)
					}
				}
			}
		}
	}
}

// checkNamesAsStated is CheckNames for valid programs, error by error.
func checkNamesAsStated(p impl.Program) int64 {
	places := map[string]string{}
	fields := map[string]int{}
	for _, data := range p.Datas {
		for tag, constructor := range data.Cons {
			places[constructor.Name] = fmt.Sprint(data.Name, tag)
			fields[constructor.Name] = len(constructor.Fields)
		}
	}
	code := int64(impl.OK)
	var look func(t impl.Term)
	look = func(t impl.Term) {
		_, declared := places[t.Name]
		switch t.Kind {
		case impl.TmLam:
			if !impl.KnownType(p.Datas, t.Type) {
				code = impl.ErrName
			}
		case impl.TmCon, impl.TmCase:
			if !declared {
				code = impl.ErrName
			}
			if code == impl.OK && fields[t.Name] != len(t.Names) && t.Kind == impl.TmCase || code == impl.OK && fields[t.Name] != len(t.Kids) && t.Kind == impl.TmCon {
				code = impl.ErrRange
			}
		case impl.TmMatch:
			whole := false
			for _, data := range p.Datas {
				same := len(data.Cons) == len(t.Kids)-1
				for tag, branch := range t.Kids[1:] {
					same = same && places[branch.Name] == fmt.Sprint(data.Name, tag)
				}
				whole = whole || same
			}
			if code == impl.OK && !whole {
				code = impl.ErrRange
			}
		}
		for _, kid := range t.Kids {
			look(kid)
		}
	}
	for _, def := range p.Defs {
		if !impl.KnownType(p.Datas, def.Type) {
			code = impl.ErrName
		}
		for _, name := range freeAsNumbered(def.Body) {
			if !slices.ContainsFunc(p.Defs, func(d impl.Def) bool { return d.Name == name }) {
				code = impl.ErrName
			}
		}
		look(def.Body)
	}
	return code
}

// spoilNode changes a node of a term so that it may not fit the declarations any more.
func spoilNode(random *rand.Rand, x *impl.Term) {
	switch random.Intn(8) {
	case 0:
		x.Name += "q"
	case 1:
		x.Name = []string{"Z", "S", "A", "B", "C", "P", "Q", "w", "q"}[random.Intn(9)]
	case 2:
		x.Kids = append(x.Kids, leafOf("1"))
	case 3:
		x.Kids = x.Kids[:max(0, len(x.Kids)-1)]
	case 4:
		x.Names = append(x.Names, "q")
	case 5:
		x.Names = x.Names[:max(0, len(x.Names)-1)]
	case 6:
		x.Type = typeOf("Nat -> Tree")
	case 7:
		if x.Kind == impl.TmMatch {
			x.Kids[1], x.Kids[2] = x.Kids[2], x.Kids[1]
		}
	}
}

func TestCheckNamesOfSpoiledPrograms(t *testing.T) {
	random := rand.New(rand.NewSource(6))
	codes := map[int64]int{}
	for range 20000 {
		p := randomProgram(random)
		if got := impl.CheckNames(p); got != impl.OK {
			t.Fatalf("%.500v: code %d", p, got)
		}
		for range 1 + random.Intn(2) {
			body := &p.Defs[random.Intn(len(p.Defs))].Body
			spoilNode(random, nodeAt(body, random.Intn(nodesOfTerm(*body))))
		}
		want := int64(impl.ErrInvalid)
		if impl.ValidProgram(p) {
			want = checkNamesAsStated(p)
		}
		codes[want]++
		if got := impl.CheckNames(p); got != want {
			t.Errorf("%.500v: code %d, want %d", p, got, want)
		}
	}
	for _, code := range []int64{impl.OK, impl.ErrInvalid, impl.ErrName, impl.ErrRange} {
		if codes[code] < 500 {
			t.Errorf("code %d occurs %d times only", code, codes[code])
		}
	}
}

func TestUsedAndReachableDefs(t *testing.T) {
	for _, c := range []struct {
		defs            []string
		used, reachable string
	}{
		{[]string{"a : Int = 1"}, "[[]]", "[[0]]"},
		{[]string{"a : Int = a"}, "[[0]]", "[[0]]"},
		{[]string{"a : Int = b", "b : Int = b", "c : Int = (+ a a)"}, "[[1] [1] [0]]", "[[0 1] [1] [0 1 2]]"},
		{[]string{"a : Int = b", "b : Int = a"}, "[[1] [0]]", "[[0 1] [0 1]]"},
		{[]string{"a : Int = b", "b : Int = c", "c : Int = a", "d : Int = a"}, "[[1] [2] [0] [0]]", "[[0 1 2] [0 1 2] [0 1 2] [0 1 2 3]]"},
		{[]string{"a : Int = (+ d (+ b c))", "b : Int = 1", "c : Int = (+ d d)", "d : Int = 1"}, "[[1 2 3] [] [3] []]", "[[0 1 2 3] [1] [2 3] [3]]"},
		{[]string{"d : Int = 1", "c : Int = d", "b : Int = c", "a : Int = b"}, "[[] [0] [1] [2]]", "[[0] [0 1] [0 1 2] [0 1 2 3]]"},
		{[]string{"a : Int = b", "b : Int = c", "c : Int = d", "d : Int = e", "e : Int = f", "f : Int = g", "g : Int = h", "h : Int = 1"}, "[[1] [2] [3] [4] [5] [6] [7] []]", "[[0 1 2 3 4 5 6 7] [1 2 3 4 5 6 7] [2 3 4 5 6 7] [3 4 5 6 7] [4 5 6 7] [5 6 7] [6 7] [7]]"},
		// Names of definitions that are bound in a body.
		{[]string{"a : Int = 1", `b : Int = (\a a)`, "c : Int = (let:a 1 a)", "d : Int = (let:a a 1)", "e : Int = (match 1 (|Z 1) (|S,a a))"}, "[[] [] [] [0] []]", "[[0] [1] [2] [0 3] [4]]"},
		{[]string{"a : Int = 1", `b : Int = (+ (\a a) a)`, "c : Int = (+ (let:a 1 a) a)", "d : Int = (match a (|Z a) (|S,a a))", "e : Int = (match 1 (|Z a) (|S,a a))"}, "[[] [0] [0] [0] [0]]", "[[0] [0 1] [0 2] [0 3] [0 4]]"},
		{[]string{`a : Int = (\a a)`, `b : Int = (\a (\b (+ a (+ b c))))`, "c : Int = (let:c (+ c b) c)"}, "[[] [2] [1 2]]", "[[0] [1 2] [1 2]]"},
		// Names in the place of definitions that are not among the first ones.
		{[]string{"z : Int = (! y)", "y : Int = (if 1 x z)", "x : Int = (@ x w)", "w : Int = (S z)"}, "[[1] [0 2] [2 3] [0]]", "[[0 1 2 3] [0 1 2 3] [0 1 2 3] [0 1 2 3]]"},
	} {
		p := programOf("Nat = Z | S[Nat]", c.defs...)
		var used, reachable [][]int64
		for k := range c.defs {
			used = append(used, impl.UsedDefs(p, int64(k)))
			reachable = append(reachable, impl.ReachableDefs(p, int64(k)))
		}
		if fmt.Sprint(used) != c.used || fmt.Sprint(reachable) != c.reachable {
			t.Errorf("%q: used are %v, want %s, reachable are %v, want %s", c.defs, used, c.used, reachable, c.reachable)
		}
		for _, k := range []int64{-1, -2, int64(len(c.defs)), int64(len(c.defs)) + 1, 8, 1 << 32, math.MinInt64, math.MaxInt64} {
			if len(impl.UsedDefs(p, k)) != 0 || len(impl.ReachableDefs(p, k)) != 0 {
				t.Errorf("%q: definition %d uses %d and reaches %d", c.defs, k, impl.UsedDefs(p, k), impl.ReachableDefs(p, k))
			}
		}
	}
}

func TestNoUsesIfNamesAreWrong(t *testing.T) {
	for code, bodies := range namedBodies() {
		for _, body := range bodies {
			p := programOf(someDatas, "main : Nat = main", "other : Nat = main", "third : Nat = other")
			p.Defs = append(p.Defs, impl.Def{Name: "last", Type: intType(), Body: termOf(body)})
			for k := range int64(3) {
				used, reachable := impl.UsedDefs(p, k), impl.ReachableDefs(p, k)
				if code == impl.OK && (len(used) != 1 || len(reachable) != int(k)+1) || code != impl.OK && len(used)+len(reachable) != 0 {
					t.Errorf("%s, code %d: definition %d uses %d and reaches %d", body, code, k, used, reachable)
				}
			}
		}
	}
}

// leastClosedSet is the intersection of all sets of definitions, one bit each, that have definition k and are closed under uses.
func leastClosedSet(uses []int, k int) int {
	least := 1<<len(uses) - 1
	for set := range 1 << len(uses) {
		closed := set&(1<<k) != 0
		for i, used := range uses {
			closed = closed && (set&(1<<i) == 0 || used&^set == 0)
		}
		if closed {
			least &= set
		}
	}
	return least
}

func asSet(t *testing.T, indices []int64) int {
	set := 0
	for i, index := range indices {
		if i > 0 && indices[i-1] >= index {
			t.Errorf("%d are not ascending", indices)
		}
		set |= 1 << index
	}
	return set
}

// TestReachableDefs is the second half of P4, and the first half for programs.
func TestReachableDefs(t *testing.T) {
	random := rand.New(rand.NewSource(7))
	proper := 0
	for range 1500 {
		p := randomProgram(random)
		q := impl.Program{Datas: p.Datas}
		var uses []int
		for k, def := range p.Defs {
			q.Defs = append(q.Defs, impl.Def{Name: def.Name, Type: def.Type, Body: withOwnNames(def.Body)})
			uses = append(uses, 0)
			for i, other := range p.Defs {
				if slices.Contains(freeAsNumbered(def.Body), other.Name) {
					uses[k] |= 1 << i
				}
			}
		}
		if impl.CheckNames(q) != impl.OK {
			t.Fatalf("%.300v: code %d", q, impl.CheckNames(q))
		}
		for k := range p.Defs {
			used, reachable := impl.UsedDefs(p, int64(k)), impl.ReachableDefs(p, int64(k))
			if asSet(t, used) != uses[k] || asSet(t, reachable) != leastClosedSet(uses, k) {
				t.Errorf("%.500v: definition %d uses %d and reaches %d", p, k, used, reachable)
			}
			if !slices.Equal(used, impl.UsedDefs(q, int64(k))) || !slices.Equal(reachable, impl.ReachableDefs(q, int64(k))) {
				t.Errorf("%.500v: with other bound names definition %d uses %d and reaches %d", p, k, impl.UsedDefs(q, int64(k)), impl.ReachableDefs(q, int64(k)))
			}
			if len(reachable) > len(used)+1 && len(reachable) < len(p.Defs) {
				proper++
			}
		}
	}
	if proper < 100 {
		t.Errorf("only %d definitions reach more than they use and less than all", proper)
	}
}

func programAsTold(p, other impl.Program) string {
	told := fmt.Sprint(impl.ValidProgram(p), impl.CheckNames(p), impl.SameProgram(p, p), impl.SameProgram(p, other))
	for k := int64(-1); k <= int64(min(len(p.Defs), 9)); k++ {
		told += fmt.Sprint(impl.UsedDefs(p, k), impl.ReachableDefs(p, k))
	}
	return told
}

// TestProgramsArePure is P1 for the functions of programs.
func TestProgramsArePure(t *testing.T) {
	random := rand.New(rand.NewSource(8))
	var list []impl.Program
	for range 200 {
		list = append(list, randomProgram(random), randomProgram(random))
		body := &list[len(list)-1].Defs[0].Body
		spoilNode(random, body)
	}
	for _, x := range invalidTerms() {
		list = append(list, withBody(x))
	}
	for _, datas := range someInvalidDatas()[10:] {
		list = append(list, impl.Program{Datas: datas, Defs: defsOf(9).Defs})
	}
	other := roomyProgram(randomProgram(random))
	unchanged := dumpProgram(other)
	var first []string
	for i := range list {
		list[i] = roomyProgram(list[i])
		before := dumpProgram(list[i])
		first = append(first, programAsTold(list[i], other))
		for k := range int64(len(list[i].Defs)) {
			spoilSlice(impl.UsedDefs(list[i], k), -1)
			spoilSlice(impl.ReachableDefs(list[i], k), -1)
		}
		if after := dumpProgram(list[i]); after != before || dumpProgram(other) != unchanged {
			t.Fatalf("%.300s became %.300s", before, after)
		}
	}
	for i := len(list) - 1; i >= 0; i-- {
		if got := programAsTold(list[i], other); got != first[i] {
			t.Errorf("first %.300s, then %.300s", first[i], got)
		}
	}
}
