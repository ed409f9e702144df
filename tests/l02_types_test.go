package tests

import (
	"fmt"
	"math"
	"math/rand"
	"slices"
	"strings"
	"testing"

	"loop.example/g01074/impl"
)

func intType() impl.Type { return impl.Type{Kind: impl.TyInt} }

func dataType(name string) impl.Type { return impl.Type{Kind: impl.TyData, Name: name} }

func funType(argument, result impl.Type) impl.Type {
	return impl.Type{Kind: impl.TyFun, Kids: []impl.Type{argument, result}}
}

func bangType(kid impl.Type) impl.Type {
	return impl.Type{Kind: impl.TyBang, Kids: []impl.Type{kid}}
}

func bangTypes(n int, kid impl.Type) impl.Type {
	for range n {
		kid = bangType(kid)
	}
	return kid
}

// binaryType has two kids at each node above the given depth, in memory of their own.
func binaryType(depth int, leaf impl.Type) impl.Type {
	if depth == 1 {
		return leaf
	}
	return funType(binaryType(depth-1, leaf), binaryType(depth-1, leaf))
}

// tangledType has few nodes in memory and 2^depth paths, because its kids share memory.
func tangledType(depth int, leaf impl.Type) impl.Type {
	for range depth {
		leaf = funType(leaf, leaf)
	}
	return leaf
}

func wideType(kind int64, n int) impl.Type {
	return impl.Type{Kind: kind, Kids: slices.Repeat([]impl.Type{intType()}, n)}
}

// typeOf reads a type as the document writes it, or panics.
func typeOf(text string) impl.Type {
	t, rest := cutType(strings.ReplaceAll(text, " ", ""))
	if rest != "" {
		panic("no type: " + text)
	}
	return t
}

func cutType(text string) (impl.Type, string) {
	part, rest := cutTypePart(text)
	if !strings.HasPrefix(rest, "->") {
		return part, rest
	}
	result, rest := cutType(rest[2:])
	return funType(part, result), rest
}

func cutTypePart(text string) (impl.Type, string) {
	switch {
	case strings.HasPrefix(text, "!"):
		kid, rest := cutTypePart(text[1:])
		return bangType(kid), rest
	case strings.HasPrefix(text, "("):
		inside, rest := cutType(text[1:])
		if !strings.HasPrefix(rest, ")") {
			panic("no parenthesis at " + rest)
		}
		return inside, rest[1:]
	}
	end := strings.IndexAny(text+")", "-)")
	if text[:end] == "Int" {
		return intType(), text[end:]
	}
	return dataType(text[:end]), text[end:]
}

// closedText is the text of a type with parentheses around every arrow.
func closedText(t impl.Type) string {
	switch t.Kind {
	case impl.TyInt:
		return "Int"
	case impl.TyData:
		return t.Name
	case impl.TyBang:
		return "!" + closedText(t.Kids[0])
	}
	return "(" + closedText(t.Kids[0]) + "->" + closedText(t.Kids[1]) + ")"
}

func depthOfType(t impl.Type) int {
	most := 0
	for _, kid := range t.Kids {
		most = max(most, depthOfType(kid))
	}
	return most + 1
}

func nodesOfType(t impl.Type) int {
	n := 1
	for _, kid := range t.Kids {
		n += nodesOfType(kid)
	}
	return n
}

// smallTypes are all types with at most this number of nodes over Int and the data types A and B.
func smallTypes(size int) []impl.Type {
	bySize := [][]impl.Type{nil, {intType(), dataType("A"), dataType("B")}}
	all := slices.Clone(bySize[1])
	for n := 2; n <= size; n++ {
		var list []impl.Type
		for _, kid := range bySize[n-1] {
			list = append(list, bangType(kid))
		}
		for left := 1; left < n-1; left++ {
			for _, argument := range bySize[left] {
				for _, result := range bySize[n-1-left] {
					list = append(list, funType(argument, result))
				}
			}
		}
		bySize, all = append(bySize, list), append(all, list...)
	}
	return all
}

func randomType(random *rand.Rand, depth int) impl.Type {
	switch n := random.Intn(8); {
	case depth <= 1 || n == 0:
		return []impl.Type{intType(), dataType("A"), dataType("B"), dataType("Nat")}[random.Intn(4)]
	case n < 4:
		return bangType(randomType(random, depth-1))
	}
	return funType(randomType(random, depth-1), randomType(random, depth-1))
}

// largestTypes are as deep or as large as a type may be.
func largestTypes() []impl.Type {
	num := intType()
	return []impl.Type{
		bangTypes(5, num), bangTypes(5, dataType("A")), funType(num, bangTypes(4, num)), funType(bangTypes(4, num), num), typeOf("Int -> Int -> Int -> Int -> Int -> Int"),
		bangType(binaryType(4, num)), bangType(binaryType(4, dataType("A"))), funType(binaryType(3, num), bangType(binaryType(3, num))), funType(bangType(binaryType(3, num)), binaryType(3, num)),
		bangTypes(2, funType(binaryType(3, num), typeOf("(Int -> Int) -> !Int"))),
	}
}

// validTypes are all small types, the largest ones, and others that are the same in each run.
func validTypes() []impl.Type {
	list := append(smallTypes(5), largestTypes()...)
	for _, name := range []string{"Z", "Abcdefghijkl", "INT", "In", "Inta", "Int1", "Let", "X9"} {
		list = append(list, dataType(name), bangType(dataType(name)), funType(dataType(name), intType()))
	}
	random := rand.New(rand.NewSource(2))
	for len(list) < 1500 {
		if t := randomType(random, 6); depthOfType(t) <= 6 && nodesOfType(t) <= 16 {
			list = append(list, t)
		}
	}
	return list
}

// largeTypes are too deep or too large, and well formed apart from that.
func largeTypes() []impl.Type {
	num := intType()
	return []impl.Type{
		bangTypes(6, num), bangTypes(7, num), funType(num, bangTypes(5, num)), funType(bangTypes(5, num), num), typeOf("Int -> Int -> Int -> Int -> Int -> Int -> Int"),
		bangTypes(2, binaryType(4, num)), funType(binaryType(4, num), num), funType(num, binaryType(4, num)), funType(bangType(binaryType(3, num)), bangType(binaryType(3, num))),
		binaryType(5, num), binaryType(6, num), binaryType(7, num), binaryType(12, num), bangTypes(9999, num), funType(num, bangTypes(9998, num)), funType(bangTypes(9998, num), num),
	}
}

// brokenTypes have a node at the top that has not the form that its Kind requires.
func brokenTypes() []impl.Type {
	num := intType()
	list := []impl.Type{{}, {Name: "A"}, {Kids: []impl.Type{num}}}
	for _, kind := range []int64{-1, 0, 5, 6, 1<<32 + 1, 1<<32 + 3, 1<<32 + 4, math.MinInt64, math.MaxInt64} {
		list = append(list, impl.Type{Kind: kind}, impl.Type{Kind: kind, Name: "A"}, wideType(kind, 1), wideType(kind, 2))
	}
	for _, kind := range []int64{impl.TyInt, impl.TyFun, impl.TyBang} {
		for n := range 4 {
			named := wideType(kind, n)
			named.Name = "A"
			list = append(list, named)
		}
		list = append(list, impl.Type{Kind: kind, Name: "Int"}, impl.Type{Kind: kind, Name: "\x00", Kids: wideType(kind, 2).Kids})
	}
	for _, name := range []string{"", "Int", "a", "nat", "1A", "A_b", "A ", " A", "A\n", "Äb", "A\x00", "Abcdefghijklm", "let", "->", "!A", "A->A", strings.Repeat("A", 100000)} {
		list = append(list, dataType(name))
	}
	list = append(list, wideType(impl.TyInt, 1), wideType(impl.TyInt, 2), wideType(impl.TyFun, 0), wideType(impl.TyFun, 1), wideType(impl.TyFun, 3), wideType(impl.TyBang, 0), wideType(impl.TyBang, 2))
	list = append(list, impl.Type{Kind: impl.TyData, Name: "A", Kids: []impl.Type{num}}, impl.Type{Kind: impl.TyData, Name: "A", Kids: []impl.Type{num, num}})
	for _, kind := range []int64{impl.TyInt, impl.TyData, impl.TyFun, impl.TyBang, 9} {
		list = append(list, wideType(kind, 500))
	}
	return list
}

// invalidTypes are large types, and types with a broken node at the top or inside.
func invalidTypes() []impl.Type {
	num, list := intType(), largeTypes()
	for _, t := range brokenTypes() {
		list = append(list, t, bangType(t), bangTypes(5, t), bangTypes(100, t), funType(t, num), funType(num, t), typeOf("Int -> !Int"), typeOf("!(Int -> Int) -> Int"))
		list[len(list)-2].Kids[1].Kids[0] = t
		list[len(list)-1].Kids[0].Kids[0].Kids[1] = t
	}
	return append(list, bangTypes(9999, impl.Type{}))
}

// endlessTypes cannot be walked through node by node.
func endlessTypes() []impl.Type {
	return []impl.Type{
		tangledType(60, intType()), tangledType(60, impl.Type{}), tangledType(9999, intType()), bangTypes(5, tangledType(60, intType())), bangTypes(5000, tangledType(4000, intType())), funType(intType(), tangledType(60, intType())),
		wideType(impl.TyFun, 1000000), wideType(impl.TyInt, 1000000), {Kind: impl.TyFun, Kids: slices.Repeat([]impl.Type{tangledType(60, intType())}, 2)},
	}
}

// dumpType tells a type in full, with the nodes in the unused capacity of its slices.
func dumpType(t impl.Type) string {
	var b strings.Builder
	var tell func(t impl.Type)
	tell = func(t impl.Type) {
		b.WriteString(fmt.Sprint(t.Kind) + t.Name + fmt.Sprint(len(t.Kids)) + "[")
		for _, kid := range t.Kids[:cap(t.Kids)] {
			tell(kid)
		}
		b.WriteString("]")
	}
	tell(t)
	return b.String()
}

// roomyType is t in memory of its own in which all slices have unused capacity.
func roomyType(t impl.Type) impl.Type {
	kids := make([]impl.Type, 0, len(t.Kids)+2)
	for _, kid := range t.Kids {
		kids = append(kids, roomyType(kid))
	}
	for i := len(kids); i < cap(kids); i++ {
		kids[:cap(kids)][i] = dataType("Unused")
	}
	return impl.Type{Kind: t.Kind, Name: t.Name, Kids: kids}
}

// spoilType overwrites all memory of a result.
func spoilType(t impl.Type) {
	kids := t.Kids[:cap(t.Kids)]
	for i := range kids {
		spoilType(kids[i])
		kids[i] = dataType("Spoiled")
	}
}

func dumpDatas(datas []impl.Data) string {
	var b strings.Builder
	for _, d := range datas[:cap(datas)] {
		b.WriteString("data " + d.Name + fmt.Sprint(len(d.Cons)))
		for _, c := range d.Cons[:cap(d.Cons)] {
			b.WriteString(" " + c.Name + dumpType(impl.Type{Kids: c.Fields}))
		}
	}
	return b.String()
}

func roomyDatas(datas []impl.Data) []impl.Data {
	list := make([]impl.Data, 0, len(datas)+2)
	for _, d := range datas {
		cons := make([]impl.Constructor, 0, len(d.Cons)+2)
		for _, c := range d.Cons {
			cons = append(cons, impl.Constructor{Name: c.Name, Fields: roomyType(impl.Type{Kids: c.Fields}).Kids})
		}
		list = append(list, impl.Data{Name: d.Name, Cons: cons})
	}
	return list
}

// datasOf reads declarations such as "Nat = Z | S[Nat]; Loop = L[Loop, Int]".
func datasOf(text string) []impl.Data {
	var datas []impl.Data
	for _, line := range strings.Split(text, ";") {
		name, list, _ := strings.Cut(line, "=")
		d := impl.Data{Name: strings.TrimSpace(name)}
		for _, one := range strings.Split(list, "|") {
			constructor, fields, found := strings.Cut(strings.TrimSpace(one), "[")
			c := impl.Constructor{Name: constructor}
			for _, field := range strings.Split(strings.TrimSuffix(fields, "]"), ",") {
				if found {
					c.Fields = append(c.Fields, typeOf(field))
				}
			}
			d.Cons = append(d.Cons, c)
		}
		datas = append(datas, d)
	}
	return datas
}

func typeAsTold(t impl.Type) string {
	bangs, rest := impl.StripBangs(t)
	return fmt.Sprint(impl.ValidType(t), impl.TypeSize(t), impl.TypeText(t), dumpType(impl.EraseType(t)), bangs, dumpType(rest), impl.SameType(t, t), impl.KnownType(datasOf("A = A; B = B[A]"), t))
}

// TestTypesArePure is P1 for the functions of types.
func TestTypesArePure(t *testing.T) {
	list := append(validTypes(), invalidTypes()...)
	var first []string
	for i := range list {
		list[i] = roomyType(list[i])
		before := dumpType(list[i])
		first = append(first, typeAsTold(list[i]))
		spoilType(impl.EraseType(list[i]))
		_, rest := impl.StripBangs(list[i])
		spoilType(rest)
		if after := dumpType(list[i]); after != before {
			t.Fatalf("%.200s became %.200s", before, after)
		}
	}
	for i := len(list) - 1; i >= 0; i-- {
		if got := typeAsTold(list[i]); got != first[i] {
			t.Errorf("first %.200s, then %.200s", first[i], got)
		}
	}
}

// TestResultsShareNoMemory is P1 for the slices inside one result.
func TestResultsShareNoMemory(t *testing.T) {
	shared := []impl.Type{dataType("A"), intType()}
	fun := impl.Type{Kind: impl.TyFun, Kids: shared}
	both := impl.Type{Kind: impl.TyFun, Kids: []impl.Type{fun, fun}}
	_, rest := impl.StripBangs(bangType(both))
	for _, got := range []impl.Type{rest, impl.EraseType(both)} {
		spoilType(got.Kids[0])
		if !impl.SameType(got.Kids[1], typeOf("A -> Int")) || impl.TypeText(both) != "(A -> Int) -> A -> Int" {
			t.Errorf("the kids share memory: %v of %v", got, both)
		}
	}
}

func TestTypeConstants(t *testing.T) {
	got := []int64{impl.TyInt, impl.TyData, impl.TyFun, impl.TyBang, impl.MaxTypeDepth, impl.MaxTypeSize, impl.MaxData, impl.MaxCons, impl.MaxFields}
	if want := []int64{1, 2, 3, 4, 6, 16, 4, 4, 3}; !slices.Equal(got, want) {
		t.Errorf("got %d, want %d", got, want)
	}
}

func TestValidTypes(t *testing.T) {
	for _, x := range validTypes() {
		if !impl.ValidType(x) || impl.TypeSize(x) != int64(nodesOfType(x)) {
			t.Errorf("%s: valid is %t, size is %d", closedText(x), impl.ValidType(x), impl.TypeSize(x))
		}
	}
	empty := funType(impl.Type{Kind: impl.TyInt, Kids: []impl.Type{}}, impl.Type{Kind: impl.TyData, Name: "A", Kids: []impl.Type{}})
	if !impl.ValidType(empty) || impl.TypeSize(empty) != 3 {
		t.Error("an empty slice is no other than nil")
	}
}

func TestTypesAtTheLimits(t *testing.T) {
	num := intType()
	for _, c := range []struct {
		t           impl.Type
		depth, size int
		valid       bool
	}{
		{num, 1, 1, true},
		{bangTypes(5, num), 6, 6, true},
		{bangTypes(6, num), 7, 7, false},
		{funType(num, bangTypes(4, num)), 6, 7, true},
		{funType(num, bangTypes(5, num)), 7, 8, false},
		{funType(bangTypes(5, num), num), 7, 8, false},
		{binaryType(4, num), 4, 15, true},
		{bangType(binaryType(4, num)), 5, 16, true},
		{bangTypes(2, binaryType(4, num)), 6, 17, false},
		{funType(binaryType(3, num), bangType(binaryType(3, num))), 5, 16, true},
		{funType(binaryType(4, num), num), 5, 17, false},
		{funType(num, binaryType(4, num)), 5, 17, false},
		{binaryType(5, num), 5, 31, false},
	} {
		if depthOfType(c.t) != c.depth || nodesOfType(c.t) != c.size {
			t.Fatalf("%s has the depth %d and %d nodes", closedText(c.t), depthOfType(c.t), nodesOfType(c.t))
		}
		size := int64(0)
		if c.valid {
			size = int64(c.size)
		}
		if impl.ValidType(c.t) != c.valid || impl.TypeSize(c.t) != size {
			t.Errorf("depth %d, %d nodes: valid is %t, size is %d", c.depth, c.size, impl.ValidType(c.t), impl.TypeSize(c.t))
		}
	}
}

func TestInvalidTypesGiveNothing(t *testing.T) {
	datas := datasOf("A = A; Unused = U")
	for i, x := range append(invalidTypes(), endlessTypes()...) {
		if impl.ValidType(x) || impl.TypeSize(x) != 0 || impl.TypeText(x) != "" || impl.KnownType(datas, x) {
			t.Errorf("invalid type %d: valid is %t, size is %d, text is %q, known is %t", i, impl.ValidType(x), impl.TypeSize(x), impl.TypeText(x), impl.KnownType(datas, x))
		}
		bangs, rest := impl.StripBangs(x)
		if !equalTypes(impl.EraseType(x), impl.Type{}) || bangs != 0 || !equalTypes(rest, impl.Type{}) {
			t.Errorf("invalid type %d: erased to %v, stripped of %d to %v", i, impl.EraseType(x), bangs, rest)
		}
		bad := []impl.Data{{Name: "A", Cons: []impl.Constructor{{Name: "A", Fields: []impl.Type{intType(), x}}}}}
		if impl.ValidDatas(bad) {
			t.Errorf("invalid type %d is a field of valid declarations", i)
		}
	}
}

func equalTypes(a, b impl.Type) bool {
	return a.Kind == b.Kind && a.Name == b.Name && slices.EqualFunc(a.Kids, b.Kids, equalTypes)
}

func TestSameType(t *testing.T) {
	list := append(smallTypes(4), brokenTypes()...)
	list = append(list, largestTypes()...)
	list = append(list, largeTypes()...)
	for i, a := range list {
		for j, b := range list {
			want := equalTypes(a, b)
			if got := impl.SameType(a, b); got != want {
				t.Errorf("types %d and %d: same is %t", i, j, got)
			}
		}
		if !impl.SameType(a, roomyType(a)) || !impl.SameType(roomyType(a), a) {
			t.Errorf("type %d is not the same as its copy", i)
		}
	}
	for _, c := range []struct {
		a, b impl.Type
		want bool
	}{
		{impl.Type{}, impl.Type{Kids: []impl.Type{}}, true},
		{impl.Type{Kind: impl.TyInt, Kids: []impl.Type{}}, intType(), true},
		{impl.Type{Kind: impl.TyInt, Name: "A"}, intType(), false},
		{impl.Type{Kind: impl.TyInt, Name: "A"}, impl.Type{Kind: impl.TyInt, Name: "A"}, true},
		{impl.Type{Kind: 1 << 32}, impl.Type{}, false},
		{dataType("A"), dataType("a"), false},
		{dataType("Int"), intType(), false},
		{dataType("\xff"), dataType("\xfe"), false},
		{funType(intType(), dataType("A")), funType(dataType("A"), intType()), false},
		{typeOf("Int -> Int -> Int"), typeOf("(Int -> Int) -> Int"), false},
		{wideType(impl.TyFun, 2), wideType(impl.TyFun, 3), false},
		{wideType(impl.TyFun, 3), wideType(impl.TyFun, 3), true},
	} {
		if impl.SameType(c.a, c.b) != c.want || impl.SameType(c.b, c.a) != c.want {
			t.Errorf("%v and %v: want %t", c.a, c.b, c.want)
		}
	}
}

func TestSameTypeOfAnyDepthAndWidth(t *testing.T) {
	num, other := intType(), dataType("A")
	for _, depth := range []int{60, 5000, 9999} {
		if !impl.SameType(bangTypes(depth, num), bangTypes(depth, num)) || impl.SameType(bangTypes(depth, num), bangTypes(depth, other)) || impl.SameType(bangTypes(depth, num), bangTypes(depth-1, num)) {
			t.Errorf("bangs of depth %d", depth)
		}
		x := tangledType(depth, num)
		if !impl.SameType(x, x) || !impl.SameType(x, tangledType(depth, num)) || impl.SameType(x, tangledType(depth, other)) || impl.SameType(x, tangledType(depth+1, num)) {
			t.Errorf("arrows of depth %d", depth)
		}
		if impl.SameType(funType(x, num), funType(x, other)) || impl.SameType(funType(x, num), funType(tangledType(depth, num), other)) {
			t.Errorf("arrows of depth %d with other results", depth)
		}
	}
	wide, last := wideType(9, 300000), wideType(9, 300000)
	if !impl.SameType(wide, last) {
		t.Error("types with many kids are the same")
	}
	last.Kids[299999] = other
	if impl.SameType(wide, last) || impl.SameType(last, wide) {
		t.Error("types with many kids differ in the last one")
	}
}

func TestTypeTexts(t *testing.T) {
	num, a := intType(), dataType("A")
	for _, c := range []struct {
		t    impl.Type
		want string
	}{
		{num, "Int"},
		{dataType("Nat"), "Nat"},
		{dataType("Abcdefghijkl"), "Abcdefghijkl"},
		{bangType(num), "!Int"},
		{bangTypes(5, a), "!!!!!A"},
		{funType(num, a), "Int -> A"},
		{funType(num, funType(a, num)), "Int -> A -> Int"},
		{funType(funType(num, a), num), "(Int -> A) -> Int"},
		{funType(funType(funType(num, a), num), a), "((Int -> A) -> Int) -> A"},
		{funType(funType(num, a), funType(a, num)), "(Int -> A) -> A -> Int"},
		{funType(num, bangType(num)), "Int -> !Int"},
		{funType(bangType(num), num), "!Int -> Int"},
		{bangType(funType(num, a)), "!(Int -> A)"},
		{bangTypes(2, funType(num, a)), "!!(Int -> A)"},
		{bangType(funType(num, bangType(funType(a, num)))), "!(Int -> !(A -> Int))"},
		{funType(bangType(funType(num, a)), num), "!(Int -> A) -> Int"},
		{funType(num, bangType(funType(num, a))), "Int -> !(Int -> A)"},
		{bangType(funType(funType(num, a), num)), "!((Int -> A) -> Int)"},
		{bangType(funType(num, funType(num, a))), "!(Int -> Int -> A)"},
	} {
		if got := impl.TypeText(c.t); got != c.want {
			t.Errorf("the text of %s is %q, want %q", closedText(c.t), got, c.want)
		}
	}
	for _, x := range validTypes() {
		text := impl.TypeText(x)
		if !equalTypes(typeOf(text), x) || strings.Count(text, "(") != enclosedTypes(x) || strings.Count(text, " ") != 2*strings.Count(text, " -> ") {
			t.Errorf("the text of %s is %q", closedText(x), text)
		}
	}
}

// enclosedTypes counts the function types that are an argument or boxed.
func enclosedTypes(t impl.Type) int {
	n := 0
	for i, kid := range t.Kids {
		n += enclosedTypes(kid)
		if kid.Kind == impl.TyFun && i == 0 {
			n++
		}
	}
	return n
}

// TestExamplesOfTypes asserts the examples of chapter 2.
func TestExamplesOfTypes(t *testing.T) {
	nat := dataType("Nat")
	f := funType(bangType(funType(nat, nat)), intType())
	if got := impl.TypeText(f); got != "!(Nat -> Nat) -> Int" {
		t.Errorf("the text is %q", got)
	}
	if got := impl.TypeText(impl.EraseType(f)); got != "(Nat -> Nat) -> Int" {
		t.Errorf("the text without bangs is %q", got)
	}
	if bangs, rest := impl.StripBangs(bangTypes(2, intType())); bangs != 2 || !impl.SameType(rest, intType()) {
		t.Errorf("stripped of %d bangs to %v", bangs, rest)
	}
	if got := impl.InhabitedDatas(datasOf("Nat = Z | S[Nat]; Loop = L[Loop, Int]")); !slices.Equal(got, []bool{true, false}) {
		t.Errorf("inhabited are %t", got)
	}
}

// TestErasing is the first half of P3: erasing removes exactly the bangs.
func TestErasing(t *testing.T) {
	for _, x := range validTypes() {
		erased := impl.EraseType(x)
		if got, want := closedText(erased), strings.ReplaceAll(closedText(x), "!", ""); got != want {
			t.Errorf("%s is erased to %s", closedText(x), got)
		}
		bangs := int64(strings.Count(closedText(x), "!"))
		if impl.TypeSize(erased) != impl.TypeSize(x)-bangs || !impl.SameType(impl.EraseType(erased), erased) || bangs == 0 && !impl.SameType(erased, x) {
			t.Errorf("%s is erased to %s", closedText(x), closedText(erased))
		}
		if boxed := bangType(x); impl.ValidType(boxed) && !impl.SameType(impl.EraseType(boxed), erased) {
			t.Errorf("%s is erased otherwise below a bang", closedText(x))
		}
	}
	for text, want := range map[string]string{
		"Int": "Int", "!A": "A", "!!!!!Int": "Int", "Int -> A": "Int -> A", "!Int -> !!A": "Int -> A", "!(Int -> !A)": "Int -> A",
		"!(!Int -> Int) -> !(A -> !A)": "(Int -> Int) -> A -> A", "!(Int -> !(Int -> Int) -> Int)": "Int -> (Int -> Int) -> Int",
	} {
		if got := impl.TypeText(impl.EraseType(typeOf(text))); got != want {
			t.Errorf("%s is erased to %q, want %q", text, got, want)
		}
	}
}

func TestStripBangs(t *testing.T) {
	for _, x := range validTypes() {
		bangs, rest := impl.StripBangs(x)
		below := strings.TrimLeft(closedText(x), "!")
		if bangs != int64(len(closedText(x))-len(below)) || closedText(rest) != below {
			t.Errorf("%s: %d bangs before %s", closedText(x), bangs, closedText(rest))
		}
	}
	for _, c := range []struct {
		text, rest string
		bangs      int64
	}{
		{"Int", "Int", 0}, {"A", "A", 0}, {"!Int", "Int", 1}, {"!!!!!A", "A", 5}, {"!Int -> !Int", "!Int -> !Int", 0}, {"!!(!Int -> !A)", "!Int -> !A", 2}, {"!(Int -> Int) -> Int", "!(Int -> Int) -> Int", 0},
	} {
		if bangs, rest := impl.StripBangs(typeOf(c.text)); bangs != c.bangs || impl.TypeText(rest) != c.rest {
			t.Errorf("%s: %d bangs before %s", c.text, bangs, impl.TypeText(rest))
		}
	}
	// Bangs alone, without a type below them.
	for n := 1; n <= 8; n++ {
		alone := impl.Type{Kind: impl.TyBang}
		if bangs, rest := impl.StripBangs(bangTypes(n-1, alone)); bangs != 0 || !equalTypes(rest, impl.Type{}) {
			t.Errorf("%d bangs alone: %d and %v", n, bangs, rest)
		}
	}
}

// manyDatas are declarations with so many constructors and so many fields each.
func manyDatas(datas, constructors, fields int) []impl.Data {
	var list []impl.Data
	for i := range datas {
		d := impl.Data{Name: fmt.Sprint("D", i)}
		for k := range constructors {
			d.Cons = append(d.Cons, impl.Constructor{Name: fmt.Sprint("C", i, "x", k), Fields: wideType(0, fields).Kids})
		}
		list = append(list, d)
	}
	return list
}

func someValidDatas() [][]impl.Data {
	list := [][]impl.Data{nil, {}, manyDatas(4, 4, 3), manyDatas(1, 1, 0), manyDatas(4, 1, 0), manyDatas(1, 4, 0), manyDatas(1, 1, 3)}
	for _, text := range []string{
		"Nat = Z | S[Nat]", "Nat = Z | S[Nat]; Loop = L[Loop, Int]", "A = A", "A = B; B = A", "A = A[A]; B = B[A, B, A]", "A = Int", "A = Let", "Abcdefghijkl = Abcdefghijkl",
		"A = C[B]; B = D[A]", "A = C[!B -> A]; B = D[!!!!!A]", "A = C[!(A -> B -> A)]; B = D[(A -> B) -> Int]", "A = C[D]; B = E[A]; C = F[B]; D = G[C]",
		"A = C[!(((Int -> Int) -> Int -> Int) -> (Int -> Int) -> Int -> A)]",
	} {
		list = append(list, datasOf(text))
	}
	return list
}

func someInvalidDatas() [][]impl.Data {
	list := [][]impl.Data{
		manyDatas(5, 1, 0), manyDatas(5, 4, 3), manyDatas(6, 1, 0), manyDatas(1, 5, 0), manyDatas(4, 5, 3), manyDatas(1, 1, 4), manyDatas(4, 4, 4), manyDatas(1, 0, 0), manyDatas(4, 0, 0),
		manyDatas(100000, 1, 1), manyDatas(1, 100000, 1), manyDatas(1, 1, 100000), {{}}, {{Name: "A"}}, append(datasOf("A = A"), impl.Data{Name: "B"}), append([]impl.Data{{Name: "B"}}, datasOf("A = A")...),
	}
	for _, text := range []string{
		"Int = A", "int = A", "a = A", "1 = A", " = A", "A_b = A", "Abcdefghijklm = A", "let = A", "Äb = A", "A = A; Int = B", "A = A; b = B",
		"A = a", "A = ", "A = 1", "A = let", "A = Abcdefghijklm", "A = A_b", "A = B | c", "A = B; C = d", "A = Äb",
		"A = C; A = C", "A = C; A = D", "A = B; C = D; A = E", "A = C | C", "A = C | D | E | C", "A = C; B = C", "A = C | D; B = E | C", "A = C; B = D; E = F; G = C",
		"A = C[B]", "A = C[!B]", "A = C[B -> A]", "A = C[A -> B]", "A = C[Int, A, B]", "A = C; B = D[!(A -> !C)]", "A = C | D[C]", "A = C[Nat]; B = D[A]", "A = C[AA]", "A = C[A1]",
		"A = C[!!!!!!Int]", "A = C[((Int -> Int) -> Int -> Int) -> (Int -> Int) -> Int -> Int, !!(((Int -> Int) -> Int -> Int) -> (Int -> Int) -> Int -> Int)]", "A = C; B = D; E = F; G = H; I = J",
	} {
		list = append(list, datasOf(text))
	}
	return list
}

func TestValidDatas(t *testing.T) {
	for _, datas := range someValidDatas() {
		if !impl.ValidDatas(datas) {
			t.Errorf("%v is not valid", datas)
		}
	}
	for _, datas := range someInvalidDatas() {
		if impl.ValidDatas(datas) {
			t.Errorf("%.300v is valid", datas)
		}
		if got := impl.InhabitedDatas(datas); len(got) != 0 {
			t.Errorf("%.300v: inhabited are %t", datas, got)
		}
		for _, name := range []string{"A", "B", "C", "D0", "C0x0", "Int", "a", ""} {
			at, found := impl.FindData(datas, name)
			of, tag, built := impl.FindConstructor(datas, name)
			if at != 0 || found || of != 0 || tag != 0 || built || impl.KnownType(datas, dataType(name)) {
				t.Errorf("%.300v: %q gives %d %t and %d %d %t", datas, name, at, found, of, tag, built)
			}
		}
		if impl.KnownType(datas, intType()) {
			t.Errorf("%.300v: Int is known", datas)
		}
	}
}

func TestFindDataAndConstructor(t *testing.T) {
	for _, datas := range someValidDatas() {
		for i, d := range datas {
			if at, ok := impl.FindData(datas, d.Name); at != int64(i) || !ok {
				t.Errorf("%v: %q is at %d, %t", datas, d.Name, at, ok)
			}
			for k, c := range d.Cons {
				if at, tag, ok := impl.FindConstructor(datas, c.Name); at != int64(i) || tag != int64(k) || !ok {
					t.Errorf("%v: %q is at %d, %d, %t", datas, c.Name, at, tag, ok)
				}
			}
		}
		for _, name := range []string{"", "None", "nat", "D4", "C4x0", "C0x4", "a", strings.Repeat("A", 100000)} {
			at, found := impl.FindData(datas, name)
			of, tag, built := impl.FindConstructor(datas, name)
			if at != 0 || found || of != 0 || tag != 0 || built {
				t.Errorf("%v: %.20q gives %d %t and %d %d %t", datas, name, at, found, of, tag, built)
			}
		}
	}
	datas := datasOf("Nat = Z | S[Nat]; A = B; B = Int | A")
	for name, want := range map[string]string{
		"Nat": "0 true 0 0 false", "Z": "0 false 0 0 true", "S": "0 false 0 1 true", "A": "1 true 2 1 true", "B": "2 true 1 0 true", "Int": "0 false 2 0 true",
	} {
		at, found := impl.FindData(datas, name)
		of, tag, built := impl.FindConstructor(datas, name)
		if got := fmt.Sprint(at, found, of, tag, built); got != want {
			t.Errorf("%s: %s, want %s", name, got, want)
		}
	}
}

func TestKnownType(t *testing.T) {
	for text, names := range map[string]string{"A = C": "A", "A = C; B = D": "A B", "B = A": "B", "C = A | B": "C"} {
		datas := datasOf(text)
		for _, x := range append(smallTypes(5), largestTypes()...) {
			want := true
			for _, name := range []string{"A", "B"} {
				want = want && (!strings.Contains(closedText(x), name) || strings.Contains(names, name))
			}
			if got := impl.KnownType(datas, x); got != want {
				t.Errorf("%s: known is %t in %s", closedText(x), got, text)
			}
		}
	}
	if !impl.KnownType(nil, typeOf("!Int -> Int")) || impl.KnownType(nil, dataType("A")) || impl.KnownType(datasOf("A = C"), dataType("C")) {
		t.Error("a type is known without declarations if it names none")
	}
	for _, c := range []struct {
		name string
		want bool
	}{{"Nat", true}, {"Loop", true}, {"Z", false}, {"L", false}, {"Na", false}, {"Natt", false}, {"nat", false}, {"Int", false}} {
		if got := impl.KnownType(datasOf("Nat = Z | S[Nat]; Loop = L[Loop, Int]"), dataType(c.name)); got != c.want {
			t.Errorf("%s: known is %t", c.name, got)
		}
	}
}

// buildable reports whether a value of a type has a tree in which no data type is above itself; if there is any value, there is one like this.
func buildable(datas []impl.Data, t impl.Type, above []string) bool {
	switch t.Kind {
	case impl.TyBang:
		return buildable(datas, t.Kids[0], above)
	case impl.TyData:
		if slices.Contains(above, t.Name) {
			return false
		}
		at := slices.IndexFunc(datas, func(d impl.Data) bool { return d.Name == t.Name })
		return slices.ContainsFunc(datas[at].Cons, func(c impl.Constructor) bool {
			return !slices.ContainsFunc(c.Fields, func(f impl.Type) bool { return !buildable(datas, f, append(slices.Clone(above), t.Name)) })
		})
	}
	return true
}

// inhabitedAsTold reports whether a type is inhabited if the data types are as the result of InhabitedDatas tells.
func inhabitedAsTold(datas []impl.Data, told []bool, t impl.Type) bool {
	_, below := impl.StripBangs(t)
	if below.Kind != impl.TyData {
		return true
	}
	at, _ := impl.FindData(datas, below.Name)
	return told[at]
}

// checkInhabited is the second half of P3 for some declarations, and asks for the smallest set.
func checkInhabited(t *testing.T, datas []impl.Data) {
	told := impl.InhabitedDatas(datas)
	if !impl.ValidDatas(datas) || len(told) != len(datas) {
		t.Fatalf("%v: inhabited are %t", datas, told)
	}
	for i, d := range datas {
		some := false
		for _, c := range d.Cons {
			all := true
			for _, field := range c.Fields {
				all = all && inhabitedAsTold(datas, told, field)
			}
			some = some || all
		}
		if told[i] != some || told[i] != buildable(datas, dataType(d.Name), nil) {
			t.Errorf("%v: inhabited are %t", datas, told)
		}
	}
}

// TestInhabitedDatas is the second half of P3.
func TestInhabitedDatas(t *testing.T) {
	for _, datas := range someValidDatas() {
		checkInhabited(t, datas)
	}
	var forms [][]impl.Type
	for _, text := range []string{"Int", "A", "B", "!A", "!!!B", "A, B", "A -> A", "!(A -> B)", "Int, !!B", "A -> Int, B", "Int, Int, A"} {
		forms = append(forms, datasOf("X = X[" + text + "]")[0].Cons[0].Fields)
	}
	var lists [][][]impl.Type
	for _, first := range forms {
		lists = append(lists, [][]impl.Type{first})
		for _, second := range forms {
			lists = append(lists, [][]impl.Type{first, second})
		}
	}
	for _, a := range lists {
		for _, b := range lists {
			datas := []impl.Data{{Name: "A"}, {Name: "B"}}
			for i, list := range [][][]impl.Type{a, b} {
				for k, fields := range list {
					datas[i].Cons = append(datas[i].Cons, impl.Constructor{Name: fmt.Sprint("C", i, "x", k), Fields: fields})
				}
			}
			checkInhabited(t, datas)
		}
	}
	random := rand.New(rand.NewSource(3))
	for range 5000 {
		checkInhabited(t, randomDatas(random))
	}
}

func randomDatas(random *rand.Rand) []impl.Data {
	n := 1 + random.Intn(4)
	var datas []impl.Data
	for i := range n {
		d := impl.Data{Name: string(rune('A' + i))}
		for k := range 1 + random.Intn(1+random.Intn(4)) {
			c := impl.Constructor{Name: fmt.Sprint("C", i, "x", k)}
			for range random.Intn(4) {
				field := dataType(string(rune('A' + random.Intn(n))))
				switch random.Intn(8) {
				case 0:
					field = bangTypes(1+random.Intn(5), field)
				case 1:
					field = bangTypes(random.Intn(5), funType(field, field))
				case 2:
					field = bangTypes(random.Intn(6), intType())
				}
				c.Fields = append(c.Fields, field)
			}
			d.Cons = append(d.Cons, c)
		}
		datas = append(datas, d)
	}
	return datas
}

func TestInhabitedAtTheEdges(t *testing.T) {
	for text, want := range map[string]string{
		"A = C":                                   "[true]",
		"A = C[A]":                                "[false]",
		"A = C[!A]":                               "[false]",
		"A = C[!!!!!A]":                           "[false]",
		"A = C[A -> A]":                           "[true]",
		"A = C[!(A -> A)]":                        "[true]",
		"A = C[Int -> A]":                         "[true]",
		"A = C[A -> A, A]":                        "[false]",
		"A = C[A] | D":                            "[true]",
		"A = C[A] | D[A, A]":                      "[false]",
		"A = C[B]; B = D[A]":                      "[false false]",
		"A = C[B]; B = D[!A]":                     "[false false]",
		"A = C[B]; B = D[A] | E":                  "[true true]",
		"A = C[B]; B = D[A -> A]":                 "[true true]",
		"A = C[Int, Int, B]; B = D[B]":            "[false false]",
		"A = C[B]; B = D[E]; E = F[G]; G = H":     "[true true true true]",
		"G = H; E = F[G]; B = D[E]; A = C[B]":     "[true true true true]",
		"A = C[B]; B = D[E]; E = F[G]; G = Hh[G]": "[false false false false]",
		"A = C[B]; B = D[E]; E = F[B]; G = H":     "[false false false true]",
		"A = C[!B, Int, !!G]; B = D; G = E[G]":    "[false true false]",
	} {
		if got := fmt.Sprint(impl.InhabitedDatas(datasOf(text))); got != want {
			t.Errorf("%s: inhabited are %s, want %s", text, got, want)
		}
	}
	if len(impl.InhabitedDatas(nil)) != 0 {
		t.Error("without declarations none is inhabited")
	}
}

func datasAsTold(datas []impl.Data) string {
	told := fmt.Sprint(impl.ValidDatas(datas), impl.InhabitedDatas(datas))
	for _, name := range []string{"A", "B", "C", "D0", "C3x3", "Int", "", "z"} {
		at, found := impl.FindData(datas, name)
		of, tag, built := impl.FindConstructor(datas, name)
		told += fmt.Sprint(" ", at, found, of, tag, built, impl.KnownType(datas, dataType(name)))
	}
	return told
}

// TestDatasArePure is P1 for the functions of data declarations.
func TestDatasArePure(t *testing.T) {
	list := append(someValidDatas(), someInvalidDatas()...)
	var first []string
	for i := range list {
		list[i] = roomyDatas(list[i])
		before := dumpDatas(list[i])
		first = append(first, datasAsTold(list[i]))
		told := impl.InhabitedDatas(list[i])
		for k := range told {
			told[k] = !told[k]
		}
		if after := dumpDatas(list[i]); after != before {
			t.Fatalf("%.200s became %.200s", before, after)
		}
	}
	for i := len(list) - 1; i >= 0; i-- {
		if got := datasAsTold(list[i]); got != first[i] {
			t.Errorf("first %s, then %s", first[i], got)
		}
	}
}
