package tests

import (
	"fmt"
	"math"
	"math/rand"
	"slices"
	"strings"
	"testing"

	"loop.example/g01074/impl"
)

func TestTermConstants(t *testing.T) {
	got := []int64{impl.TmVar, impl.TmNum, impl.TmOp, impl.TmLam, impl.TmApp, impl.TmBox, impl.TmLet, impl.TmCon, impl.TmMatch, impl.TmCase, impl.TmIf, impl.MaxTerm, impl.MaxDepth, impl.MaxDefs}
	if want := []int64{1, 2, 3, 4, 5, 6, 7, 8, 9, 10, 11, 160, 24, 8}; !slices.Equal(got, want) {
		t.Errorf("got %d, want %d", got, want)
	}
}

// TestExamplesOfTerms asserts the examples of chapter 3.
func TestExamplesOfTerms(t *testing.T) {
	if got := impl.FreeNames(termOf(`(\x (+ y (+ x (let:x z x))))`)); !slices.Equal(got, []string{"y", "z"}) {
		t.Errorf("free are %q", got)
	}
	if !impl.AlphaSame(termOf(`(\x x)`), termOf(`(\y y)`)) || impl.AlphaSame(termOf(`(\x y)`), termOf(`(\y y)`)) {
		t.Error("functions that differ in the name of their variable")
	}
	for body, want := range map[string]int64{"(S Z)": impl.OK, "(S)": impl.ErrRange, "T": impl.ErrName} {
		if got := impl.CheckNames(programOf("Nat = Z | S[Nat]", "main : Nat = "+body)); got != want {
			t.Errorf("%s: code %d, want %d", body, got, want)
		}
	}
}

// nodeKind is a valid node of a kind, and the numbers of kids that it may have.
type nodeKind struct {
	node        impl.Term
	least, most int
}

func nodeKinds() []nodeKind {
	return []nodeKind{
		{leafOf("x"), 0, 0}, {leafOf("7"), 0, 0}, {leafOf("Z"), 0, 3}, {nodeOf("+"), 2, 2}, {nodeOf(`\x`), 1, 1}, {nodeOf("@"), 2, 2},
		{nodeOf("!"), 1, 1}, {nodeOf("let:x"), 2, 2}, {nodeOf("match"), 2, 5}, {nodeOf("|Z,x"), 1, 1}, {nodeOf("if"), 3, 3},
	}
}

// withKids gives a node so many kids; it is put into a match if it is a case.
func withKids(node impl.Term, n int) impl.Term {
	node.Kids = leaves(n)
	if node.Kind == impl.TmMatch && n > 0 {
		node.Kids = append(leaves(1), slices.Repeat([]impl.Term{termOf("(|Z 1)")}, n-1)...)
	}
	if node.Kind == impl.TmCase {
		return impl.Term{Kind: impl.TmMatch, Kids: []impl.Term{leafOf("1"), node}}
	}
	return node
}

func checkValidTerm(t *testing.T, x impl.Term, want bool) {
	t.Helper()
	size := int64(0)
	if want {
		size = int64(nodesOfTerm(x))
	}
	if impl.ValidTerm(x) != want || impl.TermSize(x) != size {
		t.Errorf("%.300s: valid is %t, size is %d", fmt.Sprint(x), impl.ValidTerm(x), impl.TermSize(x))
	}
}

func TestKidsOfNodes(t *testing.T) {
	for _, kind := range nodeKinds() {
		for n := range 8 {
			checkValidTerm(t, withKids(kind.node, n), kind.least <= n && n <= kind.most)
			checkValidTerm(t, boxes(3, withKids(kind.node, n)), kind.least <= n && n <= kind.most)
		}
	}
}

func TestFieldsOfNodes(t *testing.T) {
	// The kinds but those.
	but := func(kinds ...int64) []int64 {
		return slices.DeleteFunc([]int64{1, 2, 3, 4, 5, 6, 7, 8, 9, 10, 11}, func(kind int64) bool { return slices.Contains(kinds, kind) })
	}
	for i, c := range []struct {
		set   func(x *impl.Term)
		kinds []int64
	}{
		{func(x *impl.Term) { x.Num = 0 }, but(impl.TmOp)},
		{func(x *impl.Term) { x.Num = 1 }, []int64{impl.TmNum, impl.TmOp}},
		{func(x *impl.Term) { x.Num = -1 }, []int64{impl.TmNum}},
		{func(x *impl.Term) { x.Num = 1 << 32 }, nil},
		{func(x *impl.Term) { x.Name = "" }, but(impl.TmVar, impl.TmLam, impl.TmLet, impl.TmCon, impl.TmCase)},
		{func(x *impl.Term) { x.Name = "y" }, []int64{impl.TmVar, impl.TmLam, impl.TmLet}},
		{func(x *impl.Term) { x.Name = "Y" }, []int64{impl.TmCon, impl.TmCase}},
		{func(x *impl.Term) { x.Name = "\x00" }, nil},
		{func(x *impl.Term) { x.Type = impl.Type{} }, but(impl.TmLam)},
		{func(x *impl.Term) { x.Type = dataType("Nat") }, []int64{impl.TmLam}},
		{func(x *impl.Term) { x.Type = typeOf("Int -> !Nat") }, []int64{impl.TmLam}},
		{func(x *impl.Term) { x.Type = impl.Type{Name: "Nat"} }, nil},
		{func(x *impl.Term) { x.Type = impl.Type{Kids: wideType(0, 1).Kids} }, nil},
		{func(x *impl.Term) { x.Type = impl.Type{Kind: 9} }, nil},
		{func(x *impl.Term) { x.Names = nil }, but()},
		{func(x *impl.Term) { x.Names = []string{"x"} }, []int64{impl.TmCase}},
		{func(x *impl.Term) { x.Names = []string{"x", "y"} }, []int64{impl.TmCase}},
		{func(x *impl.Term) { x.Names = []string{"x", "x"} }, nil},
		{func(x *impl.Term) { x.Names = []string{""} }, nil},
	} {
		for _, kind := range nodeKinds() {
			for n := kind.least; n <= kind.most; n++ {
				node := kind.node
				c.set(&node)
				if want := slices.Contains(c.kinds, node.Kind); impl.ValidTerm(withKids(node, n)) != want {
					t.Errorf("field %d of kind %d with %d kids: valid is %t", i, node.Kind, n, !want)
				}
				checkValidTerm(t, withKids(kind.node, n), true)
			}
		}
	}
}

func TestEmptySlicesOfNodes(t *testing.T) {
	for _, kind := range nodeKinds() {
		node := kind.node
		if node.Names == nil {
			node.Names = []string{}
		}
		if node.Type.Kids == nil {
			node.Type.Kids = []impl.Type{}
		}
		checkValidTerm(t, withKids(node, kind.least), true)
	}
	checkValidTerm(t, impl.Term{Kind: impl.TmVar, Name: "x", Kids: []impl.Term{}}, true)
}

func TestUnknownKindsOfTerms(t *testing.T) {
	for _, kind := range []int64{-1, 0, 12, 13, 1 << 8, 1<<8 + 2, 1<<32 + 1, 1<<32 + 2, 1<<32 + 6, math.MinInt64, math.MinInt64 + 2, math.MaxInt64} {
		for n := range 6 {
			for _, name := range []string{"", "x", "X"} {
				x := impl.Term{Kind: kind, Name: name, Kids: leaves(n)}
				checkValidTerm(t, x, false)
				for _, wrap := range wrappers() {
					checkValidTerm(t, wrap(x), false)
				}
			}
		}
	}
}

func TestNumbersOfTerms(t *testing.T) {
	for _, n := range edgeIntegers() {
		number := impl.Term{Kind: impl.TmNum, Num: n}
		checkValidTerm(t, number, -2147483648 <= n && n <= 2147483647)
		checkValidTerm(t, boxes(2, number), -2147483648 <= n && n <= 2147483647)
		checkValidTerm(t, impl.Term{Kind: impl.TmOp, Num: n, Kids: leaves(2)}, 1 <= n && n <= 6)
	}
	for _, op := range []int64{-1, 0, 1, 2, 3, 4, 5, 6, 7, 8, 1<<32 + 1} {
		checkValidTerm(t, impl.Term{Kind: impl.TmOp, Num: op, Kids: leaves(2)}, 1 <= op && op <= 6)
	}
}

func TestNamesOfNodes(t *testing.T) {
	for _, c := range []struct {
		lower, upper bool
		names        []string
	}{
		{true, false, []string{"x", "main", "abcdefghijkl", "x1", "xY", "lets", "int"}},
		{false, true, []string{"X", "Nat", "Abcdefghijkl", "X1", "Xy", "Let", "Int"}},
		{false, false, []string{"", "1", "1x", "x_", "X_", " x", "x ", "é", "É", "abcdefghijklm", "Abcdefghijklm", "\x00", "x\xff", strings.Repeat("a", 100000)}},
		{false, false, keywords()},
	} {
		for _, name := range c.names {
			checkValidTerm(t, impl.Term{Kind: impl.TmVar, Name: name}, c.lower)
			checkValidTerm(t, impl.Term{Kind: impl.TmLam, Name: name, Type: intType(), Kids: leaves(1)}, c.lower)
			checkValidTerm(t, impl.Term{Kind: impl.TmLet, Name: name, Kids: leaves(2)}, c.lower)
			checkValidTerm(t, impl.Term{Kind: impl.TmCon, Name: name, Kids: leaves(2)}, c.upper)
			checkValidTerm(t, withKids(impl.Term{Kind: impl.TmCase, Name: name}, 1), c.upper)
			for _, names := range [][]string{{name}, {name, "b"}, {"b", name}, {"b", "c", name}} {
				checkValidTerm(t, withKids(impl.Term{Kind: impl.TmCase, Name: "Z", Names: names}, 1), c.lower)
			}
		}
	}
}

func TestVariablesOfCases(t *testing.T) {
	for text, want := range map[string]bool{
		"(|Z 1)": true, "(|Z,x 1)": true, "(|Z,x,y 1)": true, "(|Z,x,y,z 1)": true, "(|Z,x,y,z,w 1)": false, "(|Z,a,b,c,d,e,f 1)": false,
		"(|Z,x,x 1)": false, "(|Z,x,y,x 1)": false, "(|Z,x,x,y 1)": false, "(|Z,y,x,x 1)": false, "(|Z,x,x,x 1)": false, "(|Z,x,xx,xxx 1)": true,
		"(|Z,X 1)": false, "(|Z,x,Y 1)": false, "(|Z,x,y,Z 1)": false, "(|Z,let 1)": false, "(|Z, 1)": false, "(|Z,x, 1)": false, "(|Z,1 1)": false,
	} {
		for _, place := range []string{"(match 1 #)", "(match 1 # (|S,x,y,z 1))", "(match 1 (|S,x,y,z x) #)", "(! (match 1 (|A 1) (|B 1) (|C 1) #))"} {
			checkValidTerm(t, filled(termOf(place), termOf(text)), want)
		}
	}
	many := termOf("(|Z 1)")
	for i := range 300000 {
		many.Names = append(many.Names, fmt.Sprint("x", i))
	}
	checkValidTerm(t, filled(termOf("(match 1 #)"), many), false)
}

func TestTypesOfLambdas(t *testing.T) {
	for _, x := range validTypes() {
		checkValidTerm(t, impl.Term{Kind: impl.TmLam, Name: "x", Type: x, Kids: leaves(1)}, true)
	}
	for _, x := range append(invalidTypes(), endlessTypes()...) {
		node := impl.Term{Kind: impl.TmLam, Name: "x", Type: x, Kids: leaves(1)}
		if impl.ValidTerm(node) || impl.TermSize(node) != 0 || impl.ValidTerm(boxes(2, node)) {
			t.Errorf("a function of an invalid type is valid")
		}
	}
}

func TestPlacesOfCases(t *testing.T) {
	branch := termOf("(|Z x)")
	checkValidTerm(t, branch, false)
	for _, wrap := range wrappers() {
		checkValidTerm(t, wrap(leafOf("x")), true)
		checkValidTerm(t, wrap(branch), false)
		checkValidTerm(t, boxes(2, wrap(branch)), false)
	}
	for text, want := range map[string]bool{
		"(match 1 (|Z 1))": true, "(match (|Z 1) (|Z 1))": false, "(match (|Z 1) 1)": false, "(match 1 1)": false, "(match 1 (|Z 1) 1)": false, "(match 1 1 (|Z 1))": false,
		"(match 1 (|Z 1) (match 1 (|S 1)))": false, "(match (match 1 (|Z 1)) (|S 1))": true, "(match 1 (|Z (match 1 (|S 1))))": true, "(match 1 (|Z (|S 1)))": false,
		"(match 1 (|A 1) (|B 1) (|C 1) (|D 1))": true, "(match 1 (|A 1) (|B 1) (|C 1) 1)": false, "(match 1 (|A 1) (|B 1) (|C 1) (|D 1) (|E 1))": false,
		"(match 1 (|Z 1) (|Z 1))": true, "(match 1 (|Z,x x) (|A,x,y,z x))": true, "(match 1)": false, "(match)": false,
	} {
		checkValidTerm(t, termOf(text), want)
	}
}

func TestTermsAtTheLimits(t *testing.T) {
	deep := boxes(23, leafOf("x"))
	sumOf := func(a, b impl.Term) impl.Term {
		return impl.Term{Kind: impl.TmOp, Num: impl.OpAdd, Kids: []impl.Term{a, b}}
	}
	for _, c := range []struct {
		t           impl.Term
		size, depth int
		want        bool
	}{
		{sizedTerm(159), 159, depthOfTerm(sizedTerm(159)), true},
		{sizedTerm(160), 160, depthOfTerm(sizedTerm(160)), true},
		{sizedTerm(161), 161, depthOfTerm(sizedTerm(161)), false},
		{filled(termOf("(+ # 1)"), sizedTerm(158)), 160, depthOfTerm(sizedTerm(158)) + 1, true},
		{filled(termOf("(+ # 1)"), sizedTerm(159)), 161, depthOfTerm(sizedTerm(159)) + 1, false},
		{filled(termOf("(match 1 (|Z 1) (|S,x #))"), sizedTerm(155)), 160, depthOfTerm(sizedTerm(155)) + 2, true},
		{filled(termOf("(match 1 (|Z 1) (|S,x #))"), sizedTerm(156)), 161, depthOfTerm(sizedTerm(156)) + 2, false},
		{leafOf("x"), 1, 1, true},
		{boxes(22, leafOf("x")), 23, 23, true},
		{deep, 24, 24, true},
		{boxes(1, deep), 25, 25, false},
		{boxes(15, sizedTerm(145)), 160, 24, true},
		{boxes(16, sizedTerm(144)), 160, 25, false},
		{sumOf(boxes(22, leafOf("x")), sizedTerm(136)), 160, 24, true},
		{sumOf(boxes(22, leafOf("x")), sizedTerm(137)), 161, 24, false},
		{sumOf(sizedTerm(137), boxes(22, leafOf("x"))), 161, 24, false},
		{filled(termOf("(if 1 1 (match 1 (|Z 1) (|S #)))"), boxes(20, leafOf("Z"))), 29, 24, true},
		{filled(termOf("(if 1 1 (match 1 (|Z 1) (|S #)))"), boxes(21, leafOf("Z"))), 30, 25, false},
		{filled(termOf("(if # 1 1)"), boxes(23, leafOf("1"))), 27, 25, false},
	} {
		if nodesOfTerm(c.t) != c.size || depthOfTerm(c.t) != c.depth {
			t.Fatalf("%d nodes and depth %d, meant to be %d and %d", nodesOfTerm(c.t), depthOfTerm(c.t), c.size, c.depth)
		}
		checkValidTerm(t, c.t, c.want)
	}
	for _, wrap := range wrappers() {
		around := depthOfTerm(wrap(boxes(9, leafOf("x")))) - 10
		checkValidTerm(t, wrap(boxes(23-around, leafOf("x"))), true)
		checkValidTerm(t, wrap(boxes(24-around, leafOf("x"))), false)
	}
	for _, x := range randomTerms(300) {
		checkValidTerm(t, x, true)
	}
}

// invalidTerms are broken at the top or further inside, too deep or too large.
func invalidTerms() []impl.Term {
	list := []impl.Term{{}, termOf("(|Z x)"), leafOf("X_"), termOf("(@ x)"), termOf("(+ x y z)"), leafOf("2147483648"), termOf("(match x)"), termOf("(match x y)"), {Kind: 12}}
	list = append(list, impl.Term{Kind: impl.TmLam, Name: "x", Kids: leaves(1)}, impl.Term{Kind: impl.TmVar, Name: "x", Num: 1}, termOf("(match 1 (|Z,x,x x))"), sizedTerm(161), boxes(24, leafOf("x")))
	for _, wrap := range wrappers() {
		for _, x := range list[:9] {
			list = append(list, wrap(x))
		}
	}
	return append(list, impl.Term{Kind: impl.TmApp, Kids: leaves(100000)}, termOf("(C 1 1 1 1)"))
}

// endlessTerms are nested thousands of levels deep, have very many kids or so many paths that they cannot be walked through node by node.
func endlessTerms() []impl.Term {
	var list []impl.Term
	for _, wrap := range wrappers() {
		list = append(list, nested(4999, leafOf("x"), wrap))
	}
	list = append(list, boxes(9999, leafOf("x")), boxes(9999, impl.Term{}), tangledTerm(60, leafOf("x")), tangledTerm(9999, leafOf("x")), boxes(5, tangledTerm(60, leafOf("x"))))
	for kind := int64(0); kind <= 12; kind++ {
		list = append(list, impl.Term{Kind: kind, Kids: leaves(300000)}, impl.Term{Kind: kind, Kids: slices.Repeat([]impl.Term{tangledTerm(60, leafOf("x"))}, 1000)})
	}
	types := bangTypes(9998, intType())
	return append(list, nested(9999, leafOf("x"), func(kid impl.Term) impl.Term {
		return impl.Term{Kind: impl.TmLam, Name: "x", Type: types, Kids: []impl.Term{kid}}
	}))
}

func TestInvalidTermsGiveNothing(t *testing.T) {
	for i, x := range append(invalidTerms(), endlessTerms()...) {
		if impl.ValidTerm(x) || impl.TermSize(x) != 0 || len(impl.FreeNames(x)) != 0 || impl.AlphaSame(x, x) || impl.AlphaSame(x, leafOf("x")) || impl.AlphaSame(leafOf("x"), x) {
			t.Errorf("invalid term %d: valid is %t, size is %d, free are %q", i, impl.ValidTerm(x), impl.TermSize(x), impl.FreeNames(x))
		}
		p := withBody(x)
		if impl.ValidProgram(p) || impl.CheckNames(p) != impl.ErrInvalid || len(impl.UsedDefs(p, 0)) != 0 || len(impl.ReachableDefs(p, 0)) != 0 || !impl.SameTerm(x, x) || !impl.SameProgram(p, p) {
			t.Errorf("invalid term %d is the body of a valid program, or not the same as itself", i)
		}
	}
}

func TestSameTerm(t *testing.T) {
	list := append(invalidTerms(), randomTerms(60)...)
	for _, text := range []string{
		"x", "y", "X", "1", "2", "(X)", "(X 1)", "(X 1 1)", "(X 1 2)", "(X 2 1)", `(\x x)`, `(\y y)`, `(\y x)`, `(\x:Int x)`, `(\x:Nat x)`, `(\x:!Int x)`, "(! x)", "(! (! x))",
		"(+ 1 2)", "(- 1 2)", "(+ 2 1)", "(@ 1 2)", "(let:x 1 2)", "(let:y 1 2)", "(match 1 (|Z 2))", "(match 1 (|S 2))", "(match 1 (|Z,x 2))", "(match 1 (|Z,y 2))", "(match 1 (|Z,x,y 2))", "(match 1 (|Z,y,x 2))", "(if 1 2 3)", "(if 1 3 2)",
	} {
		list = append(list, termOf(text))
	}
	list = append(list, impl.Term{Num: 1}, impl.Term{Name: "x"}, impl.Term{Type: intType()}, impl.Term{Type: dataType("A")}, impl.Term{Names: []string{""}}, impl.Term{Names: []string{"", ""}}, impl.Term{Kids: leaves(1)}, impl.Term{Kids: leaves(2)})
	list = append(list, impl.Term{Kind: 1 << 32}, impl.Term{Num: 1 << 32}, impl.Term{Name: "\xff"}, impl.Term{Name: "\xfe"}, impl.Term{Kind: 1, Name: "x", Type: wideType(9, 2)}, impl.Term{Kind: 1, Name: "x", Type: wideType(9, 3)})
	for i, a := range list {
		for k, b := range list {
			if got := impl.SameTerm(a, b); got != equalTerms(a, b) {
				t.Errorf("terms %d and %d: same is %t", i, k, got)
			}
		}
		if !impl.SameTerm(a, roomyTerm(a)) || !impl.SameTerm(roomyTerm(a), a) {
			t.Errorf("term %d is not the same as its copy", i)
		}
	}
	if !impl.SameTerm(impl.Term{}, impl.Term{Type: impl.Type{Kids: []impl.Type{}}, Names: []string{}, Kids: []impl.Term{}}) {
		t.Error("an empty slice is no other than nil")
	}
}

func TestSameTermOfAnyDepthAndWidth(t *testing.T) {
	for i, wrap := range wrappers() {
		a, b, other := nested(4999, leafOf("x"), wrap), nested(4999, leafOf("x"), wrap), nested(4999, leafOf("y"), wrap)
		if !impl.SameTerm(a, b) || impl.SameTerm(a, other) || impl.SameTerm(other, b) || impl.SameTerm(a, nested(4998, leafOf("x"), wrap)) {
			t.Errorf("deep terms with kids in place %d", i)
		}
		if !impl.SameProgram(withBody(a), withBody(b)) || impl.SameProgram(withBody(a), withBody(other)) {
			t.Errorf("programs with deep terms with kids in place %d", i)
		}
	}
	for _, depth := range []int{60, 9999} {
		a, other := tangledTerm(depth, leafOf("x")), tangledTerm(depth, leafOf("y"))
		if !impl.SameTerm(a, a) || !impl.SameTerm(a, tangledTerm(depth, leafOf("x"))) || impl.SameTerm(a, other) || impl.SameTerm(a, tangledTerm(depth-1, leafOf("x"))) {
			t.Errorf("terms of depth %d that share memory", depth)
		}
	}
	wide := impl.Term{Kind: impl.TmApp, Kids: leaves(300000), Names: slices.Repeat([]string{"x"}, 300000)}
	for name, change := range map[string]func(x impl.Term){
		"kid": func(x impl.Term) { x.Kids[299999].Num++ }, "name": func(x impl.Term) { x.Names[299999] = "y" },
	} {
		other := roomyTerm(wide)
		if !impl.SameTerm(wide, other) {
			t.Error("wide terms are the same")
		}
		change(other)
		if impl.SameTerm(wide, other) || impl.SameTerm(other, wide) {
			t.Errorf("wide terms differ in the last %s", name)
		}
	}
}

// TestSameTermWithSharedTypes compares terms with so many nodes of so large types that no type can be walked through for each node.
func TestSameTermWithSharedTypes(t *testing.T) {
	lambdas := func(x impl.Type) impl.Term {
		return nested(9999, leafOf("x"), func(kid impl.Term) impl.Term {
			return impl.Term{Kind: impl.TmLam, Name: "x", Type: x, Kids: []impl.Term{kid}}
		})
	}
	for i, build := range []func(leaf impl.Type) impl.Type{
		func(leaf impl.Type) impl.Type { return bangTypes(9999, leaf) },
		func(leaf impl.Type) impl.Type { return tangledType(9999, leaf) },
		func(leaf impl.Type) impl.Type { return impl.Type{Kids: append(wideType(0, 100000).Kids, leaf)} },
	} {
		a, b, other := lambdas(build(intType())), lambdas(build(intType())), lambdas(build(dataType("A")))
		if !impl.SameTerm(a, b) || impl.SameTerm(a, other) {
			t.Errorf("functions of large types %d", i)
		}
		p := impl.Program{Defs: slices.Repeat([]impl.Def{{Name: "x", Type: build(intType()), Body: a}}, 1000)}
		q := impl.Program{Defs: slices.Repeat([]impl.Def{{Name: "x", Type: build(intType()), Body: b}}, 1000)}
		if !impl.SameProgram(p, q) {
			t.Errorf("programs with functions of large types %d", i)
		}
		q.Defs[999].Body = other
		if impl.SameProgram(p, q) {
			t.Errorf("programs with functions of large types %d that differ at the end", i)
		}
	}
}

// TestSameOfPartsOfOneSlice compares lists of kids that begin at one place in memory and differ behind the part that they have in common.
func TestSameOfPartsOfOneSlice(t *testing.T) {
	types := func(last impl.Type) impl.Type {
		kids := []impl.Type{intType(), last}
		return impl.Type{Kids: []impl.Type{{Kids: kids[:1]}, {Kids: kids}}}
	}
	terms := func(last impl.Term) impl.Term {
		kids := []impl.Term{leafOf("x"), last}
		return impl.Term{Kids: []impl.Term{{Kids: kids[:1]}, {Kids: kids}}}
	}
	if !impl.SameType(types(intType()), types(intType())) || impl.SameType(types(intType()), types(dataType("A"))) {
		t.Error("types with kids in one slice")
	}
	if !impl.SameTerm(terms(leafOf("x")), terms(leafOf("x"))) || impl.SameTerm(terms(leafOf("x")), terms(leafOf("y"))) {
		t.Error("terms with kids in one slice")
	}
}

func TestFreeNames(t *testing.T) {
	for text, want := range map[string]string{
		"x": "x", "1": "", "Z": "", "(+ y x)": "y x", "(+ x x)": "x", "(P y (P x y))": "y x", "(if z y (if x y w))": "z y x w", "(! (! x))": "x", "(@ (@ c b) (@ a b))": "c b a",
		`(\x x)`: "", `(\x y)`: "y", `(\x (\y (+ x y)))`: "", `(@ (\x x) x)`: "x", `(@ x (\x x))`: "x", `(\x (@ y (\y (@ x y))))`: "y",
		"(let:x x x)": "x", "(let:x 1 x)": "", "(let:x x 1)": "x", "(let:x y x)": "y", "(let:x (let:x x x) x)": "x", "(let:x (let:y x y) y)": "x y", "(+ (let:x 1 x) x)": "x",
		"(match x (|Z x) (|S,x x))": "x", "(match y (|Z z) (|S,x x))": "y z", "(match 1 (|Z y) (|S,y y))": "y", "(match 1 (|P,x,y (+ x (+ y z))))": "z", "(match 1 (|P,x,y z) (|Q y))": "z y",
		"(match 1 (|S,x x) (|Z x))": "x", "(match x (|C,x,y,z (P x y z)))": "x",
		// Bound twice or three times, one inside the other, with the same name free before, between and after.
		`(P x (\x (P x (\x x) x)) x)`:                                        "x",
		`(P (\x (P x (\x x) x)) a x)`:                                        "a x",
		`(\x (let:x x (match x (|S,x x))))`:                                  "",
		`(let:x x (match x (|S,x (\x x)) (|Z x)))`:                           "x",
		`(match x (|S,x (let:x x (\x x))) (|Z x))`:                           "x",
		`(+ (\x (let:x (+ x y) (match (+ x z) (|S,x (+ x w))))) (+ x y))`:    "y z w x",
		`(@ (let:x a x) (let:a x a))`:                                        "a x",
		`(let:x (match x (|S,x x)) (+ y (let:y x (+ x y))))`:                 "x y",
		`(if (\x x) (let:x 1 x) (match 1 (|S,x x) (|Z (+ z x))))`:            "z x",
		`(P (match 1 (|S,x x)) (match 1 (|S,y x)) (match 1 (|S,x,y (! y))))`: "x",
		`(\a (\b (\c (P a (P b c d) (@ e a)))))`:                             "d e",
	} {
		x := termOf(text)
		if got := impl.FreeNames(x); !slices.Equal(got, strings.Fields(want)) || !slices.Equal(freeAsNumbered(x), strings.Fields(want)) {
			t.Errorf("%s: free are %q, want %q", text, got, want)
		}
	}
	for _, x := range append(randomTerms(2000), smallTerms()...) {
		if got := impl.FreeNames(x); !slices.Equal(got, freeAsNumbered(x)) {
			t.Errorf("%v: free are %q, want %q", x, got, freeAsNumbered(x))
		}
	}
	var all []string
	x := leafOf("0")
	for i := range 50 {
		all = append(all, fmt.Sprint("n", i))
		x = impl.Term{Kind: impl.TmOp, Num: impl.OpMul, Kids: []impl.Term{x, leafOf(all[i])}}
		if got := impl.FreeNames(x); i < 23 && !slices.Equal(got, all) || i >= 23 && len(got) != 0 {
			t.Errorf("%d names: free are %q", i+1, got)
		}
	}
}

// smallTerms are all terms with at most 4 nodes over the variables x and y, and some with 5.
func smallTerms() []impl.Term {
	bySize := [][]string{nil, {"x", "y"}}
	for n := 2; n <= 4; n++ {
		var list []string
		for _, kid := range bySize[n-1] {
			list = append(list, `(\x `+kid+")", `(\y `+kid+")", "(! "+kid+")")
		}
		for left := 1; left < n-1; left++ {
			for _, a := range bySize[left] {
				for _, b := range bySize[n-1-left] {
					list = append(list, "(@ "+a+" "+b+")", "(let:x "+a+" "+b+")", "(let:y "+a+" "+b+")")
				}
			}
		}
		bySize = append(bySize, list)
	}
	for _, body := range append(slices.Clone(bySize[1]), bySize[2]...) {
		for _, names := range []string{"", ",x", ",y", ",x,y", ",y,x"} {
			bySize[0] = append(bySize[0], "(match x (|S"+names+" "+body+"))")
		}
	}
	var all []impl.Term
	for _, text := range slices.Concat(bySize...) {
		all = append(all, termOf(text))
	}
	return all
}

func checkAlphaSame(t *testing.T, a, b impl.Term, want bool) {
	t.Helper()
	if impl.AlphaSame(a, b) != want || impl.AlphaSame(b, a) != want {
		t.Errorf("%.400v and %.400v: alike is %t and %t, want %t", a, b, impl.AlphaSame(a, b), impl.AlphaSame(b, a), want)
	}
}

func TestAlphaSame(t *testing.T) {
	for _, c := range []struct {
		a, b string
		want bool
	}{
		{"x", "x", true}, {"x", "y", false}, {"1", "1", true}, {"1", "2", false}, {"(+ 1 2)", "(- 1 2)", false}, {"(+ 1 2)", "(@ 1 2)", false}, {"(! x)", "x", false}, {"(P x y)", "(P x y)", true}, {"(P x y)", "(P y x)", false}, {"(P x)", "(P x x)", false},
		{`(\x x)`, `(\y y)`, true}, {`(\x y)`, `(\y y)`, false}, {`(\x y)`, `(\z y)`, true}, {`(\x y)`, `(\x z)`, false}, {`(\x x)`, `(\y x)`, false}, {`(\x y)`, `(\y x)`, false},
		{"(let:x 1 x)", "(let:y 1 y)", true}, {"(let:x x x)", "(let:y x y)", true}, {"(let:x x x)", "(let:y y y)", false}, {"(let:x y x)", "(let:y y y)", true}, {"(let:x y x)", "(let:y y x)", false}, {"(let:x 1 y)", "(let:y 1 y)", false},
		{"(match n (|S,x x))", "(match n (|S,y y))", true}, {"(match n (|S,x y))", "(match n (|S,y y))", false}, {"(match x (|S,x x))", "(match x (|S,y y))", true}, {"(match x (|S,x x))", "(match y (|S,x x))", false},
		{"(match n (|P,x,y x))", "(match n (|P,y,x y))", true}, {"(match n (|P,x,y x))", "(match n (|P,y,x x))", false}, {"(match n (|P,x,y x))", "(match n (|P,x,y y))", false}, {"(match n (|C,a,b,c c))", "(match n (|C,c,b,a a))", true},
		{"(match n (|S,x 1))", "(match n (|S,y 1))", true}, {"(match n (|S,x 1))", "(match n (|S 1))", false}, {"(match n (|S,x x))", "(match n (|S,x,y x))", false},
		// In which binding a name refers to.
		{`(\x (\y x))`, `(\x (\y y))`, false}, {`(\x (\x x))`, `(\x (\y y))`, true}, {`(\x (\x x))`, `(\x (\y x))`, false}, {`(\x (\y (@ x y)))`, `(\y (\x (@ y x)))`, true}, {`(\x (\y (@ x y)))`, `(\y (\x (@ x y)))`, false},
		{`(\x (let:x x x))`, `(\y (let:z y z))`, true}, {`(\x (let:x x x))`, `(\y (let:z z z))`, false}, {`(\x (let:x x x))`, `(\y (let:z y y))`, false}, {`(\x (match x (|S,x x) (|Z x)))`, `(\y (match y (|S,z z) (|Z y)))`, true}, {`(\x (match x (|S,x x)))`, `(\y (match y (|S,x y)))`, false},
		{`(\x (match 1 (|Z x)))`, `(\y (match 1 (|Z y)))`, true}, {`(let:x (\x x) x)`, `(let:a (\b b) a)`, true}, {`(let:x (\x x) x)`, `(let:a (\b a) a)`, false}, {`(\x (match 1 (|P,y,z x)))`, `(\x (match 1 (|P,x,z x)))`, false},
		// In the types of functions, which alone have types.
		{`(\x:Int x)`, `(\y:Int y)`, true}, {`(\x:Int x)`, `(\x:Nat x)`, false}, {`(\x:Int x)`, `(\x:!Int x)`, false}, {`(\x:Nat x)`, `(\y:Nat y)`, true}, {`(\x:Int->Nat x)`, `(\x:Nat->Int x)`, false}, {`(\x:A->B->C x)`, `(\x:A->B->D x)`, false},
		{`(\x (\y:A 1))`, `(\x (\y:B 1))`, false}, {`(\x:A (\y:B 1))`, `(\x:B (\y:A 1))`, false}, {`(\x:A (\y:B 1))`, `(\y:A (\x:B 1))`, true},
		// In the names of constructors, which nothing binds.
		{"Z", "Y", false}, {"(S x)", "(T x)", false}, {"(match n (|S,x x))", "(match n (|T,x x))", false}, {"(match n (|Z 1) (|S 1))", "(match n (|S 1) (|Z 1))", false}, {"(match n (|Z 1) (|S 1))", "(match n (|Z 1))", false},
		// Where a bound name of one is free in the other.
		{`(\x (+ x y))`, `(\y (+ y x))`, false}, {`(\x (+ x y))`, `(\y (+ y y))`, false}, {`(@ (\x x) x)`, `(@ (\y y) x)`, true}, {`(@ (\x x) x)`, `(@ (\y y) y)`, false}, {`(@ (\x x) y)`, `(@ (\y y) x)`, false}, {`(@ x (\x x))`, `(@ x (\y y))`, true},
		{"(+ (let:x 1 x) x)", "(+ (let:y 1 y) x)", true}, {"(+ (let:x 1 x) x)", "(+ (let:y 1 y) y)", false}, {"(match x (|Z x) (|S,x x))", "(match x (|Z x) (|S,y y))", true}, {"(match x (|Z x) (|S,x x))", "(match x (|Z y) (|S,y y))", false},
		// In the shape.
		{"(@ (@ x y) z)", "(@ x (@ y z))", false}, {"(if x y z)", "(if x y z)", true}, {"(P (P x) y)", "(P (P x y))", false}, {"(P x (P) y)", "(P x (P y))", false}, {"(P (! x) y)", "(P x (! y))", false},
	} {
		a, b := termOf(c.a), termOf(c.b)
		checkAlphaSame(t, a, b, c.want)
		checkAlphaSame(t, boxes(2, a), boxes(2, b), c.want)
		if equalTerms(numbered(a), numbered(b)) != c.want {
			t.Fatalf("%s and %s: the test is wrong", c.a, c.b)
		}
	}
}

func TestAlphaSameOfAllSmallTerms(t *testing.T) {
	list := smallTerms()
	var told []string
	for _, x := range list {
		told = append(told, dumpTerm(numbered(x)))
	}
	alike := 0
	for i, a := range list {
		for k, b := range list {
			if got := impl.AlphaSame(a, b); got != (told[i] == told[k]) {
				t.Errorf("%.400v and %.400v: alike is %t", a, b, got)
			}
			if i != k && told[i] == told[k] {
				alike++
			}
		}
	}
	if alike < 200 {
		t.Errorf("only %d pairs are alike", alike)
	}
}

// TestBoundNamesDoNotMatter is the first half of P4, for terms.
func TestBoundNamesDoNotMatter(t *testing.T) {
	random := rand.New(rand.NewSource(5))
	alike, others := 0, 0
	for _, a := range randomTerms(3000) {
		b := withOwnNames(a)
		if impl.TermSize(b) != impl.TermSize(a) || !slices.Equal(impl.FreeNames(a), impl.FreeNames(b)) || !impl.AlphaSame(a, b) || !impl.AlphaSame(b, a) {
			t.Errorf("%.400v and %.400v: alike is %t, free are %q and %q", a, b, impl.AlphaSame(a, b), impl.FreeNames(a), impl.FreeNames(b))
		}
		// Here an occurrence may be caught by another binding.
		c := renamed(a, map[string]string{}, func() string { return "wxyzuv"[random.Intn(6):][:1] })
		want := equalTerms(numbered(a), numbered(c))
		checkAlphaSame(t, a, c, want)
		checkAlphaSame(t, b, c, want)
		if want && !equalTerms(a, c) {
			alike++
		} else if !want {
			others++
		}
	}
	if alike < 300 || others < 300 {
		t.Errorf("only %d and %d terms", alike, others)
	}
}

// TestAlphaSameTellsChanges changes one node of a term in one way.
func TestAlphaSameTellsChanges(t *testing.T) {
	for _, a := range randomTerms(200) {
		for n := range nodesOfTerm(a) {
			for _, change := range []func(x *impl.Term) bool{
				func(x *impl.Term) bool { x.Num ^= 1; return x.Kind == impl.TmNum },
				func(x *impl.Term) bool { x.Num = x.Num%6 + 1; return x.Kind == impl.TmOp },
				func(x *impl.Term) bool { x.Name += "q"; return x.Kind == impl.TmVar },
				func(x *impl.Term) bool { x.Name += "q"; return x.Kind == impl.TmCon || x.Kind == impl.TmCase },
				func(x *impl.Term) bool { x.Type = bangType(x.Type); return x.Kind == impl.TmLam },
				func(x *impl.Term) bool { x.Kind = impl.TmApp; x.Num = 0; return x.Kind == impl.TmOp },
				func(x *impl.Term) bool {
					x.Names = append(x.Names, "q")
					return x.Kind == impl.TmCase && len(x.Names) < 4
				},
				func(x *impl.Term) bool { *x = impl.Term{Kind: impl.TmNum, Num: 99}; return true },
			} {
				b := roomyTerm(a)
				if change(nodeAt(&b, n)) && impl.ValidTerm(b) {
					checkAlphaSame(t, a, b, false)
				}
			}
		}
	}
}

// nodeAt returns the node of a term with so many nodes before it.
func nodeAt(t *impl.Term, before int) *impl.Term {
	var find func(t *impl.Term) *impl.Term
	find = func(t *impl.Term) *impl.Term {
		if before == 0 {
			return t
		}
		before--
		for i := range t.Kids {
			if found := find(&t.Kids[i]); found != nil {
				return found
			}
		}
		return nil
	}
	return find(t)
}

func termAsTold(a, b impl.Term) string {
	return fmt.Sprint(impl.ValidTerm(a), impl.TermSize(a), impl.FreeNames(a), impl.SameTerm(a, a), impl.SameTerm(a, b), impl.AlphaSame(a, a), impl.AlphaSame(a, b))
}

// TestTermsArePure is P1 for the functions of terms.
func TestTermsArePure(t *testing.T) {
	list := append(invalidTerms(), randomTerms(500)...)
	list = append(list, smallTerms()...)
	other := roomyTerm(termOf(`(\x (let:y x (match y (|Z x) (|S,z (P z w)))))`))
	unchanged := dumpTerm(other)
	var first []string
	for i := range list {
		list[i] = roomyTerm(list[i])
		before := dumpTerm(list[i])
		first = append(first, termAsTold(list[i], other))
		spoilSlice(impl.FreeNames(list[i]), "spoiled")
		if after := dumpTerm(list[i]); after != before || dumpTerm(other) != unchanged {
			t.Fatalf("%.300s became %.300s", before, after)
		}
	}
	for i := len(list) - 1; i >= 0; i-- {
		if got := termAsTold(list[i], other); got != first[i] {
			t.Errorf("first %.300s, then %.300s", first[i], got)
		}
	}
}
