package tests

import (
	"fmt"
	"math"
	"math/rand"
	"slices"
	"testing"

	"loop.example/g01074/impl"
)

func TestCoreConstants(t *testing.T) {
	got := []int64{impl.CoVar, impl.CoNum, impl.CoOp, impl.CoLam, impl.CoApp, impl.CoBox, impl.CoLet, impl.CoCon, impl.CoMat, impl.CoSwi, impl.CoRef, impl.MaxCore, impl.MaxCoreDepth, impl.MaxIndex, impl.MaxShift, impl.MaxBook, impl.MaxLevel}
	if want := []int64{1, 2, 3, 4, 5, 6, 7, 8, 9, 10, 11, 400, 80, 255, 64, 24, 8}; !slices.Equal(got, want) {
		t.Errorf("got %d, want %d", got, want)
	}
}

// TestExamplesOfCores asserts the examples of chapter 6.
func TestExamplesOfCores(t *testing.T) {
	match := impl.Core{Kind: impl.CoLam, Kids: []impl.Core{{Kind: impl.CoMat, Data: []int64{2, 3}, Kids: []impl.Core{{Kind: impl.CoVar}}}}}
	if got := impl.CoreText(match); got != "^[2 3:#0]" {
		t.Errorf("the text is %q", got)
	}
	result, code := impl.InstantiateCore(coreOf("(#0 ^(#1 #2))"), coreOf("#4"))
	if code != impl.OK || impl.CoreText(result) != "(#4 ^(#5 #1))" {
		t.Errorf("%s, code %d", impl.CoreText(result), code)
	}
	for text, want := range map[string]bool{"^(let #0 in !(#0 #0))": true, "^(#0 #0)": false, "^!#0": false} {
		if impl.IsStratified(coreOf(text)) != want {
			t.Errorf("%s: stratified is %t", text, !want)
		}
	}
}

func checkValidCore(t *testing.T, c impl.Core, want bool) {
	t.Helper()
	size := int64(0)
	if want {
		size = int64(nodesOfCore(c))
	}
	if impl.ValidCore(c) != want || impl.CoreSize(c) != size || (impl.CoreText(c) != "") != want {
		t.Errorf("%.300s: valid is %t, size is %d, text is %.300q", fmt.Sprint(c), impl.ValidCore(c), impl.CoreSize(c), impl.CoreText(c))
	}
}

// formsOfCores is the table of chapter 6: for each kind the least and the greatest Value, number of Data and number of Kids.
func formsOfCores() [][6]int64 {
	return [][6]int64{
		1: {0, 255, 0, 0, 0, 0}, 2: {-2147483648, 2147483647, 0, 0, 0, 0}, 3: {1, 6, 0, 0, 2, 2}, 4: {0, 0, 0, 0, 1, 1}, 5: {0, 0, 0, 0, 2, 2}, 6: {0, 0, 0, 0, 1, 1},
		7: {0, 0, 0, 0, 2, 2}, 8: {0, 3, 0, 0, 0, 3}, 9: {0, 0, 1, 4, 1, 1}, 10: {0, 0, 2, 2, 1, 1}, 11: {0, 23, 0, 0, 0, 0},
	}
}

func TestFieldsOfCores(t *testing.T) {
	values := append(edgeIntegers(), 2, 3, 4, 5, 6, 7, 8, 22, 23, 24, 25, 254, 255, 256, 257, 1<<8, 1<<32+1, 1<<32+3)
	valid := map[int64]int{}
	for kind := int64(1); kind <= 11; kind++ {
		form := formsOfCores()[kind]
		for _, value := range values {
			for data := range int64(7) {
				for kids := range int64(6) {
					want := form[0] <= value && value <= form[1] && form[2] <= data && data <= form[3] && form[4] <= kids && kids <= form[5]
					c := impl.Core{Kind: kind, Value: value, Data: slices.Repeat([]int64{5}, int(data)), Kids: numbers(int(kids))}
					checkValidCore(t, c, want)
					checkValidCore(t, putInto("^(1 !?)", c), want)
					if want {
						valid[kind]++
					}
				}
			}
		}
	}
	if len(valid) != 11 {
		t.Errorf("valid are %v", valid)
	}
}

func TestDefinitionsOfCores(t *testing.T) {
	for _, def := range append(edgeIntegers(), 0, 1, 22, 23, 24, 25, 1<<32, 1<<32+1) {
		want := 0 <= def && def <= 23
		checkValidCore(t, impl.Core{Kind: impl.CoRef, Value: def}, want)
		for length := 1; length <= 5; length++ {
			for at := range length {
				data := slices.Repeat([]int64{3}, length)
				data[at] = def
				checkValidCore(t, impl.Core{Kind: impl.CoMat, Data: data, Kids: numbers(1)}, want && length <= 4)
				checkValidCore(t, impl.Core{Kind: impl.CoSwi, Data: data, Kids: numbers(1)}, want && length == 2)
			}
		}
	}
	for _, kind := range []int64{impl.CoMat, impl.CoSwi} {
		checkValidCore(t, impl.Core{Kind: kind, Data: []int64{7, 7}, Kids: numbers(1)}, true)
		checkValidCore(t, impl.Core{Kind: kind, Data: make([]int64, 300000), Kids: numbers(1)}, false)
	}
}

func TestEmptySlicesOfCores(t *testing.T) {
	for _, text := range []string{"#0", "7", "(1 + 1)", "^1", "(1 1)", "!1", "(let 1 in 1)", "<0>", "[1:1]", "{1 1:1}", "@0"} {
		a, b := coreOf(text), coreOf(text)
		if a.Data == nil {
			a.Data = []int64{}
		}
		if a.Kids == nil {
			a.Kids = []impl.Core{}
		}
		checkValidCore(t, a, true)
		if !impl.SameCore(a, b) || !impl.SameCore(b, a) || impl.CoreText(a) != text {
			t.Errorf("%s with empty slices has the text %s", text, impl.CoreText(a))
		}
	}
}

func TestUnknownKindsOfCores(t *testing.T) {
	for _, kind := range []int64{-1, 0, 12, 13, 1 << 8, 1<<8 + 2, 1<<32 + 1, 1<<32 + 2, 1<<32 + 6, math.MinInt64, math.MinInt64 + 2, math.MaxInt64} {
		for kids := range 4 {
			for data := range 3 {
				c := impl.Core{Kind: kind, Data: make([]int64, data), Kids: numbers(kids)}
				checkValidCore(t, c, false)
				for _, place := range corePlaces() {
					checkValidCore(t, putInto(place, c), false)
				}
			}
		}
	}
}

func TestCoresAtTheLimits(t *testing.T) {
	for _, c := range []struct {
		c           impl.Core
		size, depth int
		want        bool
	}{
		{sizedCore(399, "#0"), 399, depthOfCore(sizedCore(399, "#0")), true},
		{sizedCore(400, "#0"), 400, depthOfCore(sizedCore(400, "#0")), true},
		{sizedCore(401, "#0"), 401, depthOfCore(sizedCore(401, "#0")), false},
		{putInto("(? 1)", sizedCore(398, "#0")), 400, depthOfCore(sizedCore(398, "#0")) + 1, true},
		{putInto("(? 1)", sizedCore(399, "#0")), 401, depthOfCore(sizedCore(399, "#0")) + 1, false},
		{putInto("(1 ?)", sizedCore(399, "#0")), 401, depthOfCore(sizedCore(399, "#0")) + 1, false},
		{coreOf("#0"), 1, 1, true},
		{nestedCore(78, "!?", coreOf("#0")), 79, 79, true},
		{nestedCore(79, "!?", coreOf("#0")), 80, 80, true},
		{nestedCore(80, "!?", coreOf("#0")), 81, 81, false},
		{nestedCore(60, "^?", sizedCore(340, "1")), 400, 60 + depthOfCore(sizedCore(340, "1")), true},
		{nestedCore(60, "^?", sizedCore(341, "1")), 401, 60 + depthOfCore(sizedCore(341, "1")), false},
		{nestedCore(80, "^?", sizedCore(320, "1")), 400, 80 + depthOfCore(sizedCore(320, "1")), false},
		{putInto("(1 ?)", nestedCore(78, "!?", coreOf("1"))), 81, 80, true},
		{putInto("(1 ?)", nestedCore(79, "!?", coreOf("1"))), 82, 81, false},
		{putInto("(? 1)", nestedCore(79, "!?", coreOf("1"))), 82, 81, false},
	} {
		if nodesOfCore(c.c) != c.size || depthOfCore(c.c) != c.depth {
			t.Fatalf("%d nodes and depth %d, meant to be %d and %d", nodesOfCore(c.c), depthOfCore(c.c), c.size, c.depth)
		}
		checkValidCore(t, c.c, c.want)
	}
	for _, place := range corePlaces() {
		checkValidCore(t, nestedCore(79, place, coreOf("@1")), true)
		checkValidCore(t, nestedCore(80, place, coreOf("@1")), false)
	}
	for _, c := range randomCores(61, 500) {
		checkValidCore(t, c, true)
	}
}

// brokenCores are broken at the top or further inside, too deep or too large.
func brokenCores() []impl.Core {
	list := append(coresOf("?", "#256", "#-1", "2147483648", "<4>", "<0 1 1 1 1>", "[0 1 2 3 4:1]", "{0:1}", "{0 1 2:1}", "[24:1]", "{1 24:1}", "@24", "@-1"), impl.Core{Kind: 12}, impl.Core{Kind: impl.CoLam}, impl.Core{Kind: impl.CoApp, Kids: numbers(1)}, impl.Core{Kind: impl.CoVar, Data: []int64{0}})
	for _, place := range corePlaces() {
		for _, c := range list[:17] {
			list = append(list, putInto(place, c), putInto("(let #0 in (#0 ?))", putInto(place, c)))
		}
	}
	return append(list, sizedCore(401, "#0"), nestedCore(80, "!?", coreOf("#0")), nestedCore(80, "(let #0 in ?)", coreOf("#0")))
}

// endlessCores are nested thousands of levels deep, have very many kids or so many paths that they cannot be walked through node by node.
func endlessCores() []impl.Core {
	var list []impl.Core
	for _, place := range corePlaces() {
		list = append(list, nestedCore(4999, place, coreOf("#0")))
	}
	list = append(list, nestedCore(9999, "!?", coreOf("#0")), nestedCore(9999, "^?", impl.Core{}), tangledCore(60, coreOf("#0")), tangledCore(9999, coreOf("#0")), nestedCore(5, "^?", tangledCore(60, coreOf("#0"))))
	for kind := int64(0); kind <= 12; kind++ {
		list = append(list, impl.Core{Kind: kind, Kids: numbers(300000)}, impl.Core{Kind: kind, Data: make([]int64, 300000), Kids: slices.Repeat([]impl.Core{tangledCore(60, coreOf("#0"))}, 1000)})
	}
	return list
}

// isNoCore reports whether the results of a failed call are the zero value and this code.
func isNoCore(c impl.Core, code, want int64) bool {
	return code == want && equalCores(c, impl.Core{})
}

func TestInvalidCoresGiveNothing(t *testing.T) {
	for i, c := range append(brokenCores(), endlessCores()...) {
		if impl.ValidCore(c) || impl.CoreSize(c) != 0 || impl.CoreText(c) != "" || impl.IsClosed(c) || impl.IsErased(c) || impl.IsStratified(c) || !impl.SameCore(c, c) {
			t.Errorf("invalid term %d: valid is %t, size is %d, closed is %t, erased is %t, stratified is %t", i, impl.ValidCore(c), impl.CoreSize(c), impl.IsClosed(c), impl.IsErased(c), impl.IsStratified(c))
		}
		for _, index := range []int64{-1, 0, 1, 255, 256, math.MaxInt64} {
			if got := impl.CountVar(c, index); got != 0 {
				t.Errorf("invalid term %d has the variable %d %d times", i, index, got)
			}
		}
		for _, by := range []int64{0, 1, 64, -1, 65} {
			if result, code := impl.ShiftCore(c, by, 0); !isNoCore(result, code, impl.ErrInvalid) {
				t.Errorf("invalid term %d shifted by %d: code %d", i, by, code)
			}
		}
		for _, other := range append(coresOf("1", "#0", "(#0 #0)", "?"), c) {
			if result, code := impl.InstantiateCore(c, other); !isNoCore(result, code, impl.ErrInvalid) {
				t.Errorf("invalid term %d as a body: code %d", i, code)
			}
			if result, code := impl.InstantiateCore(other, c); !isNoCore(result, code, impl.ErrInvalid) {
				t.Errorf("invalid term %d as an argument: code %d", i, code)
			}
		}
		for _, b := range []impl.Book{{Defs: []impl.Core{c}}, {Defs: []impl.Core{coreOf("1"), c}}, {Defs: []impl.Core{c, coreOf("1")}}} {
			if impl.ValidBook(b) || !impl.SameBook(b, b) {
				t.Errorf("a book with the invalid term %d: valid is %t", i, impl.ValidBook(b))
			}
		}
	}
}

func TestSameCore(t *testing.T) {
	list := append(brokenCores(), randomCores(62, 60)...)
	list = append(list, coresOf("#0", "#1", "0", "1", "@0", "@1", "^#0", "^#1", "!#0", "(1 2)", "(2 1)", "(1 + 2)", "(1 - 2)", "(2 + 1)", "(let 1 in 2)", "(let 2 in 1)", "<0>", "<1>", "<0 1>", "<0 1 1>", "<0 1 2>", "<0 2 1>", "[1:1]", "[2:1]", "[1 2:1]", "[2 1:1]", "[1 2 3:1]", "{1 2:1}", "{2 1:1}", "{1 2:2}")...)
	list = append(list, impl.Core{Value: 1}, impl.Core{Value: 1 << 32}, impl.Core{Kind: 1 << 32}, impl.Core{Data: []int64{0}}, impl.Core{Data: []int64{0, 0}}, impl.Core{Data: []int64{1 << 32}}, impl.Core{Kids: numbers(1)}, impl.Core{Kids: numbers(2)})
	for i, a := range list {
		for k, b := range list {
			want := equalCores(a, b)
			if impl.SameCore(a, b) != want {
				t.Errorf("terms %d and %d: same is %t", i, k, !want)
			}
			for _, books := range [][2]impl.Book{{{Defs: []impl.Core{a}}, {Defs: []impl.Core{b}}}, {{Defs: []impl.Core{a, a}}, {Defs: []impl.Core{a, b}}}, {{Defs: []impl.Core{a, a}}, {Defs: []impl.Core{b, a}}}} {
				if impl.SameBook(books[0], books[1]) != want {
					t.Errorf("books of the terms %d and %d: same is %t", i, k, !want)
				}
			}
		}
	}
	for _, a := range randomCores(63, 100) {
		if !impl.SameCore(a, roomyCore(a)) {
			t.Errorf("%.300v is not the same as its copy", a)
		}
		for n := range nodesOfCore(a) {
			for i, change := range []func(c *impl.Core){
				func(c *impl.Core) { c.Kind++ }, func(c *impl.Core) { c.Value ^= 1 << 40 }, func(c *impl.Core) { c.Data = append(c.Data, 0) }, func(c *impl.Core) { c.Kids = append(c.Kids, impl.Core{}) },
			} {
				b := roomyCore(a)
				change(coreAt(&b, n))
				if impl.SameCore(a, b) || impl.SameCore(b, a) {
					t.Errorf("%.300v is the same with change %d of node %d", a, i, n)
				}
			}
		}
	}
}

func TestSameCoreOfAnyDepthAndWidth(t *testing.T) {
	for _, place := range corePlaces() {
		a, b, other := nestedCore(4999, place, coreOf("#0")), nestedCore(4999, place, coreOf("#0")), nestedCore(4999, place, coreOf("#1"))
		if !impl.SameCore(a, b) || impl.SameCore(a, other) || impl.SameCore(other, b) || impl.SameCore(a, nestedCore(4998, place, coreOf("#0"))) {
			t.Errorf("deep terms in the place %s", place)
		}
	}
	for _, depth := range []int{60, 9999} {
		a, other := tangledCore(depth, coreOf("#0")), tangledCore(depth, coreOf("#1"))
		if !impl.SameCore(a, a) || !impl.SameCore(a, tangledCore(depth, coreOf("#0"))) || impl.SameCore(a, other) || impl.SameCore(a, tangledCore(depth-1, coreOf("#0"))) {
			t.Errorf("terms of depth %d that share memory", depth)
		}
		many := func(c impl.Core) impl.Book { return impl.Book{Defs: slices.Repeat([]impl.Core{c}, 1000)} }
		if !impl.SameBook(many(a), many(tangledCore(depth, coreOf("#0")))) || impl.SameBook(many(a), many(other)) {
			t.Errorf("books of terms of depth %d that share memory", depth)
		}
	}
	wide := impl.Core{Kind: impl.CoApp, Data: make([]int64, 300000), Kids: numbers(300000)}
	for name, change := range map[string]func(c impl.Core){
		"kid": func(c impl.Core) { c.Kids[299999].Value++ }, "definition": func(c impl.Core) { c.Data[299999] = 1 },
	} {
		other := roomyCore(wide)
		if !impl.SameCore(wide, other) {
			t.Error("wide terms are the same")
		}
		change(other)
		if impl.SameCore(wide, other) || impl.SameCore(other, wide) {
			t.Errorf("wide terms differ in the last %s", name)
		}
	}
}

// TestSameCoreWithSharedData compares terms with so many nodes with so many definitions that these cannot be compared for each node.
func TestSameCoreWithSharedData(t *testing.T) {
	build := func(last int64) impl.Core {
		data := append(make([]int64, 300000), last)
		c := coreOf("#0")
		for range 9999 {
			c = impl.Core{Kind: impl.CoMat, Data: data, Kids: []impl.Core{c}}
		}
		return c
	}
	a := build(1)
	if !impl.SameCore(a, build(1)) || impl.SameCore(a, build(2)) {
		t.Error("terms with many definitions")
	}
}

// TestSameOfPartsOfOneCore compares lists that begin at one place in memory and differ behind the part that they have in common.
func TestSameOfPartsOfOneCore(t *testing.T) {
	kids := func(last string) impl.Core {
		kids := coresOf("#0", last)
		return impl.Core{Kids: []impl.Core{{Kids: kids[:1]}, {Kids: kids}}}
	}
	data := func(last int64) impl.Core {
		data := []int64{0, last}
		return impl.Core{Kids: []impl.Core{{Data: data[:1]}, {Data: data}}}
	}
	if !impl.SameCore(kids("#0"), kids("#0")) || impl.SameCore(kids("#0"), kids("#1")) {
		t.Error("kids in one slice")
	}
	if !impl.SameCore(data(0), data(0)) || impl.SameCore(data(0), data(1)) {
		t.Error("definitions in one slice")
	}
}

func TestCoreTexts(t *testing.T) {
	x, y, z := impl.Core{Kind: impl.CoVar}, impl.Core{Kind: impl.CoNum, Value: -5}, impl.Core{Kind: impl.CoRef, Value: 23}
	for want, c := range map[string]impl.Core{
		"#0": x, "#255": {Kind: impl.CoVar, Value: 255}, "-5": y, "0": {Kind: impl.CoNum}, "-2147483648": {Kind: impl.CoNum, Value: -2147483648}, "2147483647": {Kind: impl.CoNum, Value: 2147483647}, "@23": z, "@0": {Kind: impl.CoRef},
		"(#0 + -5)": {Kind: impl.CoOp, Value: impl.OpAdd, Kids: []impl.Core{x, y}}, "(#0 - -5)": {Kind: impl.CoOp, Value: impl.OpSub, Kids: []impl.Core{x, y}}, "(#0 * -5)": {Kind: impl.CoOp, Value: impl.OpMul, Kids: []impl.Core{x, y}},
		"(#0 / -5)": {Kind: impl.CoOp, Value: impl.OpDiv, Kids: []impl.Core{x, y}}, "(#0 < -5)": {Kind: impl.CoOp, Value: impl.OpLess, Kids: []impl.Core{x, y}}, "(@23 = #0)": {Kind: impl.CoOp, Value: impl.OpEqual, Kids: []impl.Core{z, x}},
		"^#0": {Kind: impl.CoLam, Kids: []impl.Core{x}}, "(@23 #0)": {Kind: impl.CoApp, Kids: []impl.Core{z, x}}, "!-5": {Kind: impl.CoBox, Kids: []impl.Core{y}}, "(let -5 in #0)": {Kind: impl.CoLet, Kids: []impl.Core{y, x}},
		"<0>": {Kind: impl.CoCon}, "<3 #0>": {Kind: impl.CoCon, Value: 3, Kids: []impl.Core{x}}, "<1 #0 -5 @23>": {Kind: impl.CoCon, Value: 1, Kids: []impl.Core{x, y, z}},
		"[7:#0]": {Kind: impl.CoMat, Data: []int64{7}, Kids: []impl.Core{x}}, "[3 2 0 23:-5]": {Kind: impl.CoMat, Data: []int64{3, 2, 0, 23}, Kids: []impl.Core{y}}, "{1 0:@23}": {Kind: impl.CoSwi, Data: []int64{1, 0}, Kids: []impl.Core{z}},
	} {
		if got := impl.CoreText(c); got != want || !equalCores(coreOf(want), c) {
			t.Errorf("%v: %q, want %q", c, got, want)
		}
	}
	random := rand.New(rand.NewSource(64))
	for range 3000 {
		text := randomCoreText(random, 1+random.Intn(8), 3)
		if c := coreOf(text); nodesOfCore(c) <= 400 && impl.CoreText(c) != text {
			t.Errorf("%s becomes %s", text, impl.CoreText(c))
		}
	}
}

// checkFree compares what is told of the free variables of a valid term.
func checkFree(t *testing.T, c impl.Core, counts map[int64]int64) {
	t.Helper()
	if impl.IsClosed(c) != (len(counts) == 0) {
		t.Errorf("%s: closed is %t", impl.CoreText(c), impl.IsClosed(c))
	}
	for _, index := range []int64{-1, -2, 0, 1, 2, 3, 4, 5, 6, 7, 8, 253, 254, 255, 256, 1 << 32, math.MaxInt64, math.MaxInt64 - 1, math.MinInt64} {
		if got := impl.CountVar(c, index); got != counts[index] {
			t.Errorf("%s: the variable %d occurs %d times, want %d", impl.CoreText(c), index, got, counts[index])
		}
	}
}

func TestFreeVariables(t *testing.T) {
	for text, counts := range map[string]map[int64]int64{
		"#0": {0: 1}, "#255": {255: 1}, "7": {}, "@3": {}, "<2>": {}, "(#0 #0)": {0: 2}, "(#2 + #1)": {1: 1, 2: 1},
		"^#0": {}, "^#1": {0: 1}, "^#255": {254: 1}, "^^#0": {}, "^^#1": {}, "^^#2": {0: 1}, "^(^#1 ^#2)": {0: 1}, "(^#0 #0)": {0: 1}, "(#0 ^#0)": {0: 1}, "^^^^#9": {5: 1}, "^(#1 ^(#2 ^(#3 #4)))": {0: 3, 1: 1},
		"(let #0 in #0)": {0: 1}, "(let 1 in #0)": {}, "(let 1 in #1)": {0: 1}, "(let #1 in #1)": {0: 1, 1: 1}, "(let #2 in #0)": {2: 1}, "(let (let #0 in #0) in #0)": {0: 1}, "(let 1 in (let #0 in #0))": {}, "(let 1 in (let #1 in #2))": {0: 2}, "(let ^#1 in ^#1)": {0: 1}, "(let ^#0 in ^#1)": {}, "(let ^#1 in ^#2)": {0: 2}, "^(let #1 in #1)": {0: 1}, "^(let #0 in #1)": {},
		"!#0": {0: 1}, "^!#0": {}, "^!!#1": {0: 1}, "<0 #0 ^#0 #1>": {0: 1, 1: 1}, "<0 ^#0 ^#1 ^#2>": {0: 1, 1: 1}, "[1 2:#3]": {3: 1}, "^[1 2:#3]": {2: 1}, "{1 2:#0}": {0: 1}, "^{1 2:#0}": {}, "({1 2:^#0} #0)": {0: 1}, "(^[1:#0] ^[1:#1])": {0: 1},
	} {
		c := coreOf(text)
		checkFree(t, c, counts)
		if fmt.Sprint(nameCore(c).occurrences()) != fmt.Sprint(counts) {
			t.Fatalf("%s: the test is wrong", text)
		}
	}
	closed, open := 0, 0
	for _, c := range append(randomCores(65, 4000), smallCores(2, 5)...) {
		counts := nameCore(c).occurrences()
		checkFree(t, c, counts)
		if len(counts) == 0 {
			closed++
		} else {
			open++
		}
	}
	if closed < 500 || open < 500 {
		t.Errorf("only %d closed and %d open terms", closed, open)
	}
	for n := range 79 {
		for variable := range 80 {
			counts := map[int64]int64{}
			if variable >= n {
				counts[int64(variable-n)] = 1
			}
			checkFree(t, nestedCore(n, "^?", coreOf(fmt.Sprint("#", variable))), counts)
		}
	}
}

func TestIsErased(t *testing.T) {
	for _, place := range corePlaces() {
		want := place != "!?" && place != "(let ? in 1)" && place != "(let 1 in ?)"
		for text, erased := range map[string]bool{"#0": true, "7": true, "@3": true, "<0>": true, "^#3": true, "!#0": false, "(let 1 in #0)": false, "(1 !2)": false, "[1 2:(3 + (4 (let 5 in 6)))]": false} {
			if got := impl.IsErased(putInto(place, coreOf(text))); got != (want && erased) {
				t.Errorf("%s in %s: erased is %t", text, place, got)
			}
		}
	}
	erased := 0
	for _, c := range randomCores(66, 1000) {
		want := true
		for n := range nodesOfCore(c) {
			if kind := coreAt(&c, n).Kind; kind == impl.CoBox || kind == impl.CoLet {
				want = false
			}
		}
		if impl.IsErased(c) != want {
			t.Errorf("%s: erased is %t", impl.CoreText(c), !want)
		} else if want && len(c.Kids) > 0 {
			erased++
		}
	}
	if erased < 100 {
		t.Errorf("only %d erased terms", erased)
	}
}
