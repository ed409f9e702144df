package tests

import (
	"fmt"
	"math/rand"
	"slices"
	"strings"
	"testing"

	"loop.example/g01074/impl"
)

// TestExamplesOfTheEvaluator asserts the examples of chapter 8 and its constants.
func TestExamplesOfTheEvaluator(t *testing.T) {
	if got := []int64{impl.StBeta, impl.StOperate, impl.StChoose, impl.StExpand, impl.MaxSteps}; !slices.Equal(got, []int64{1, 2, 3, 4, 2000}) {
		t.Errorf("constants %d", got)
	}
	erased, code := impl.EraseCore(coreOf("(let !^#0 in !(#0 (#0 5)))"))
	if impl.CoreText(erased) != "(^#0 (^#0 5))" || code != impl.OK {
		t.Errorf("%s, code %d", impl.CoreText(erased), code)
	}
	b := bookOf("^(#0 * 2)")
	normal, counts, code := impl.Normalize(b, coreOf("(@0 21)"), 3)
	if impl.CoreText(normal) != "42" || !slices.Equal(counts, []int64{1, 1, 0, 1}) || code != impl.OK {
		t.Errorf("%s with %d, code %d", impl.CoreText(normal), counts, code)
	}
	if normal, counts, code = impl.Normalize(b, coreOf("(@0 21)"), 2); !isNoCore(normal, code, impl.ErrBudget) || len(counts) > 0 {
		t.Errorf("%v with %d, code %d", normal, counts, code)
	}
	developed, redexes, code := impl.DevelopCore(b, coreOf("((@0 1) + (^#0 (2 + 3)))"))
	if impl.CoreText(developed) != "((^(#0 * 2) 1) + 5)" || redexes != 3 || code != impl.OK {
		t.Errorf("%s, %d redexes, code %d", impl.CoreText(developed), redexes, code)
	}
}

func checkErase(t *testing.T, c, want impl.Core, wantCode int64) {
	t.Helper()
	got, code := impl.EraseCore(c)
	if !equalCores(got, want) || code != wantCode {
		t.Errorf("%.300s: erasure %.300s, code %d, want %.300s, code %d", impl.CoreText(c), impl.CoreText(got), code, impl.CoreText(want), wantCode)
	}
}

// checkErased compares an erasure with chapter 8 and tells the code.
func checkErased(t *testing.T, c impl.Core) int64 {
	t.Helper()
	want, code := eraseAsStated(c)
	checkErase(t, c, want, code)
	return code
}

// TestErasures has each kind of node, and lets whose variables occur in all ways.
func TestErasures(t *testing.T) {
	for text, want := range map[string]string{
		// What has neither boxes nor lets stays as it is, redexes too.
		"7": "7", "-2147483648": "-2147483648", "@3": "@3", "@23": "@23", "<2>": "<2>", "^#0": "^#0", "^^#1": "^^#1", "(1 + 2)": "(1 + 2)", "(1 = 2)": "(1 = 2)", "(^#0 1)": "(^#0 1)", "(@0 1)": "(@0 1)", "<1 1 2 3>": "<1 1 2 3>", "[1 2:<0>]": "[1 2:<0>]", "[23:@1]": "[23:@1]", "{1 2:3}": "{1 2:3}", "^(#0 #0)": "^(#0 #0)",
		// Boxes, stratified or not.
		"!7": "7", "!!!7": "7", "!^!#0": "^#0", "^!#0": "^#0", "^!!^!(#0 !#1)": "^^(#0 #1)", "(!1 + !!2)": "(1 + 2)", "(!^!#0 !!2)": "(^#0 2)", "<3 !1 !!2 !!!3>": "<3 1 2 3>", "[4 5:!<0 !1>]": "[4 5:<0 1>]", "{4 5:!!1}": "{4 5:1}", "^{4 5:!#0}": "^{4 5:#0}",
		// The variable of a let: not at all, once and several times, inside boxes and beside them.
		"(let 1 in 2)": "2", "(let 1 in #0)": "1", "(let 1 in !#0)": "1", "(let !1 in #0)": "1", "(let !!1 in !!#0)": "1", "(let 1 in (#0 #0))": "(1 1)", "(let !@3 in !(#0 + #0))": "(@3 + @3)", "(let 1 in (#0 !(#0 !!#0)))": "(1 (1 1))", "(let 1 in <0 #0 2 #0>)": "<0 1 2 1>", "(let 1 in [2 3:#0])": "[2 3:1]", "(let <0 1> in {2 3:#0})": "{2 3:<0 1>}", "!(let !1 in !#0)": "1",
		// Under binders, with variables from outside.
		"(let 1 in ^#0)": "^#0", "(let 1 in ^#1)": "^1", "(let 1 in ^^(#2 (#1 #0)))": "^^(1 (#1 #0))", "^(let #0 in #0)": "^#0", "^(let #0 in #1)": "^#0", "^(let 5 in #1)": "^#0", "^(let 5 in #0)": "^5", "^(let #0 in ^(#0 #1))": "^^(#0 #1)", "^(let #0 in ^(#2 #1))": "^^(#1 #1)", "^(let ^(#0 #1) in ^(#1 #0))": "^^(^(#0 #2) #0)", "^^(let (#1 #0) in ^(#1 (#2 #0)))": "^^^((#2 #1) (#1 #0))", "^^(let #1 in ^^(#2 (#3 (#4 (#0 #1)))))": "^^^^(#3 (#2 (#3 (#0 #1))))", "(let ^^(#0 #1) in ^(#1 ^(#2 #1)))": "^(^^(#0 #1) ^(^^(#0 #1) #1))",
		// Lets in the first part and in the second part of lets.
		"(let (let 1 in 2) in 3)": "3", "(let (let 1 in #0) in #0)": "1", "(let (let 1 in (#0 #0)) in (#0 + #0))": "((1 1) + (1 1))", "(let (let (let 1 in <0 #0>) in <1 #0>) in <2 #0>)": "<2 <1 <0 1>>>", "(let 1 in (let 2 in #0))": "2", "(let 1 in (let 2 in #1))": "1", "(let 1 in (let 2 in (#0 #1)))": "(2 1)", "(let 5 in (let #0 in 6))": "6", "(let 5 in (let #0 in #0))": "5", "(let 5 in (let #0 in #1))": "5", "(let 1 in (let #0 in (#0 #1)))": "(1 1)", "(let 1 in (let (#0 #0) in (#0 #1)))": "((1 1) 1)", "(let 1 in (let 2 in (let (#0 #1) in (#0 #2))))": "((2 1) 1)", "(let 1 in (let ^#1 in (#0 #1)))": "(^1 1)", "(let 1 in ((let #0 in (#0 #1)) (let 2 in (#0 #1))))": "((1 1) (2 1))", "^(let #0 in (let ^#1 in ^(#1 #2)))": "^^(^#2 #1)", "^(let #0 in (let (#0 #1) in (let (#0 #1) in (#0 (#1 #2)))))": "^(((#0 #0) #0) ((#0 #0) #0))",
		// Boxes in boxes, with lets between them.
		"!(let !!1 in !(let !#0 in !(#0 #1)))": "(1 1)", "(let !^(#0 !#0) in !(#0 (let 2 in #1)))": "(^(#0 #0) ^(#0 #0))", "(let !(let !1 in !#0) in !(let !#0 in !#0))": "1", "(let !^#0 in !(let !(#0 5) in !(#1 (#1 #0))))": "(^#0 (^#0 (^#0 5)))",
	} {
		c := coreOf(text)
		if stated, code := eraseAsStated(c); impl.CoreText(stated) != want || code != impl.OK {
			t.Fatalf("%s: the test is wrong: %s", text, impl.CoreText(stated))
		}
		checkErase(t, c, coreOf(want), impl.OK)
		for _, place := range corePlaces() {
			checkErased(t, putInto(place, c))
			checkErased(t, putInto(strings.NewReplacer("(1", "(!(let 1 in #0)", " 1)", " !(let 1 in #0))").Replace(place), c))
		}
	}
}

// closedCores are closed terms with boxes and lets: random ones, stratified or not, and all small ones of some kinds.
func closedCores(seed int64, n int) []impl.Core {
	var list []impl.Core
	for _, c := range append(randomCores(seed, n), smallCores(1, 5)...) {
		if c = nestedCore(4, "^?", c); impl.IsClosed(c) {
			list = append(list, c)
		}
	}
	random := rand.New(rand.NewSource(seed))
	for range n {
		if c := coreOf(stratifiedText(random, 1<<40, 2+random.Intn(10), 0, nil)); impl.IsClosed(c) {
			list = append(list, c)
		}
	}
	return list
}

func TestErasuresOfManyCores(t *testing.T) {
	counts := map[string]int{}
	for _, c := range closedCores(101, 4000) {
		if checkErased(t, c) != impl.OK {
			counts["full"]++
			continue
		}
		erased, _ := impl.EraseCore(c)
		if !impl.IsErased(erased) || !impl.IsClosed(erased) {
			t.Errorf("%s becomes %s", impl.CoreText(c), impl.CoreText(erased))
		}
		checkErase(t, erased, erased, impl.OK)
		if impl.IsErased(c) {
			checkErase(t, c, c, impl.OK)
			counts["erased before"]++
		}
		if nodesOfCore(erased) > nodesOfCore(c) {
			counts["larger"]++
		}
		// A box around any node does not matter.
		n := rand.New(rand.NewSource(int64(nodesOfCore(c)))).Intn(nodesOfCore(c))
		boxed := roomyCore(c)
		*coreAt(&boxed, n) = putInto("!?", *coreAt(&c, n))
		if impl.ValidCore(boxed) {
			checkErase(t, boxed, erased, impl.OK)
			counts["boxed"]++
		}
	}
	if counts["erased before"] < 300 || counts["larger"] < 100 || counts["full"] < 20 {
		t.Errorf("only %v", counts)
	}
}

// doublings is a let in a let and so on, each of which has the variable of the one around it twice. Its erasure has 2^(n+1) - 1 nodes.
func doublings(n int) impl.Core {
	c := coreOf("#0")
	for range n - 1 {
		c = putInto("(let (#0 #0) in ?)", c)
	}
	return putInto("(let (1 1) in ?)", c)
}

func pairOf(kind int64, first, second impl.Core) impl.Core {
	return impl.Core{Kind: kind, Kids: []impl.Core{first, second}}
}

// TestErasuresAtTheLimits has erasures of MaxCore nodes and of depth MaxCoreDepth, and of one more.
func TestErasuresAtTheLimits(t *testing.T) {
	with := func(place string, first, second impl.Core) impl.Core {
		return pairOf(impl.CoLet, first, putInto(place, second))
	}
	for i, c := range []struct {
		c           impl.Core
		size, depth int
	}{
		{sizedErased(400), 400, -1},
		{sizedCore(400, "7"), -1, -1},
		{with("?", sizedErased(398), coreOf("#0")), 398, -1},
		{with("(#0 ?)", sizedErased(199), coreOf("#0")), 399, -1},
		{with("(#0 ?)", sizedErased(199), coreOf("^#1")), 400, -1},
		{with("(#0 ?)", sizedErased(199), coreOf("^^#2")), 401, -1},
		{with("(#0 ?)", sizedErased(200), coreOf("#0")), 401, -1},
		{with("(#0 ?)", sizedErased(199), coreOf("!^!#1")), 400, -1},
		{with("(#0 ?)", putInto("!?", sizedErased(199)), coreOf("^#1")), 400, -1},
		{with("<0 #0 #0 ?>", sizedErased(133), coreOf("#0")), 400, -1},
		{with("<0 #0 #0 ?>", sizedErased(133), coreOf("^#1")), 401, -1},
		{with("?", pillar(40, "1"), pillar(41, "#0")), -1, 80},
		{with("?", pillar(40, "1"), pillar(42, "#0")), -1, 81},
		{with("?", pillar(41, "1"), pillar(41, "#0")), -1, 81},
		{with("(? #0)", pillar(41, "1"), pillar(39, "#0")), -1, 80},
		{with("(? #0)", pillar(41, "1"), pillar(40, "#0")), -1, 81},
		{with("?", nestedCore(39, "^?", coreOf("#38")), nestedCore(40, "^?", coreOf("#40"))), -1, 80},
		{with("?", nestedCore(39, "^?", coreOf("#38")), nestedCore(41, "^?", coreOf("#41"))), -1, 81},
		{nestedCore(79, "!?", coreOf("7")), 1, 1},
		{nestedCore(38, "^!?", coreOf("^#38")), 40, 40},
		{putInto("^?", with("?", pillar(40, "#0"), pillar(40, "#0"))), 80, 80},
		{putInto("^?", with("?", pillar(40, "#0"), pillar(41, "#0"))), 81, 81},
		{putInto("!?", with("?", pillar(40, "1"), pillar(41, "#0"))), 80, 80},
		{putInto("^?", with("(#0 ?)", sizedErased(199), coreOf("#0"))), 400, -1},
		{putInto("^^?", with("(#0 ?)", sizedErased(199), coreOf("#0"))), 401, -1},
		{doublings(7), 255, 8},
		{pairOf(impl.CoApp, doublings(7), sizedErased(144)), 400, -1},
		{pairOf(impl.CoApp, doublings(7), sizedErased(145)), 401, -1},
		{doublings(8), 511, 9},
	} {
		if !impl.IsClosed(c.c) {
			t.Fatalf("%d: the test is wrong: %s", i, impl.CoreText(c.c))
		}
		code := checkErased(t, c.c)
		if full := c.size > 400 || c.depth > 80; full != (code == impl.ErrFull) {
			t.Fatalf("%d: the test is wrong: code %d", i, code)
		}
		if result, _ := impl.EraseCore(c.c); code == impl.OK && (c.size > 0 && nodesOfCore(result) != c.size || c.depth > 0 && depthOfCore(result) != c.depth) {
			t.Errorf("%d: %d nodes and depth %d", i, nodesOfCore(result), depthOfCore(result))
		}
	}
}

// TestErasuresThatDoNotOccur has limits of nodes whose erasures are not in that of the root.
func TestErasuresThatDoNotOccur(t *testing.T) {
	let := func(first, second impl.Core) impl.Core { return pairOf(impl.CoLet, first, second) }
	allowed := []impl.Core{let(sizedErased(199), coreOf("(#0 ^#1)")), let(pillar(40, "1"), pillar(41, "#0")), doublings(7)}
	full := []impl.Core{let(sizedErased(200), coreOf("(#0 #0)")), let(sizedErased(199), coreOf("(#0 ^^#2)")), let(pillar(40, "1"), pillar(42, "#0")), doublings(8), doublings(60), doublings(70)}
	for _, place := range []string{"(let ? in 7)", "(let !? in 7)", "(let 1 in (let ? in 7))", "(let (let ? in 1) in 7)", "(let (let ? in #0) in 7)", "!(let !? in !7)", "^(let ? in #1)", "(let <0> in (let 5 in (let ? in 7)))", "(1 (let ? in 2))", "(let (let ? in 7) in (#0 #0))", "(let 1 in (#0 (let ? in #1)))"} {
		for _, c := range allowed {
			if _, code := impl.EraseCore(putInto(place, c)); code != impl.OK {
				t.Errorf("%s with %.300s: code %d", place, impl.CoreText(c), code)
			}
			checkErased(t, putInto(place, c))
		}
		for _, c := range full {
			checkErase(t, putInto(place, c), impl.Core{}, impl.ErrFull)
			if code := checkErased(t, putInto(place, c)); code != impl.ErrFull {
				t.Fatalf("%s with %.300s: the test is wrong", place, impl.CoreText(c))
			}
		}
	}
	// Nodes with the kinds of all others in what does not occur.
	for _, place := range corePlaces() {
		for _, c := range full {
			checkErase(t, putInto("(let ? in 7)", putInto(place, c)), impl.Core{}, impl.ErrFull)
		}
	}
	// A node whose erasure just fits, below one whose erasure does not.
	checkErase(t, putInto("(let ^? in 7)", allowed[0]), impl.Core{}, impl.ErrFull)
	checkErase(t, putInto("(let !? in 7)", allowed[0]), coreOf("7"), impl.OK)
	checkErase(t, putInto("(let ^? in 7)", allowed[1]), impl.Core{}, impl.ErrFull)
	checkErase(t, putInto("(let !? in 7)", allowed[1]), coreOf("7"), impl.OK)
}

// openCores are valid terms that are not closed, of which some have erasures that are closed.
func openCores() []impl.Core {
	return coresOf("#0", "#255", "^#1", "!^!#1", "(let #0 in 1)", "(let 1 in #1)", "(let ^#1 in 2)", "<0 1 #3>", "[0 1:#0]", "{0 1:#0}", "(1 + #0)", "(^#0 #0)", "^(let #1 in 7)")
}

func TestErrorsOfErasing(t *testing.T) {
	for _, c := range slices.Concat(openCores(), brokenCores(), endlessCores()) {
		checkErase(t, c, impl.Core{}, impl.ErrInvalid)
		for _, other := range []impl.Core{doublings(8), doublings(60)} {
			checkErase(t, pairOf(impl.CoApp, other, c), impl.Core{}, impl.ErrInvalid)
			checkErase(t, pairOf(impl.CoApp, c, other), impl.Core{}, impl.ErrInvalid)
		}
	}
}

func checkEraseBook(t *testing.T, b impl.Book, want []impl.Core, wantCode int64) {
	t.Helper()
	got, code := impl.EraseBook(b)
	if !slices.EqualFunc(got.Defs, want, equalCores) || code != wantCode {
		t.Errorf("%.300q: erasure %.300q, code %d, want %.300q, code %d", coreTexts(b.Defs), coreTexts(got.Defs), code, coreTexts(want), wantCode)
	}
}

// TestEraseBook has books with definitions that are too large, and invalid ones before and behind them.
func TestEraseBook(t *testing.T) {
	checkEraseBook(t, bookOf("(let 1 in #0)", "!@0"), coresOf("1", "@0"), impl.OK)
	checkEraseBook(t, bookOf("^(let #0 in !(#0 (#0 5)))", "!7", "<0 !@2 !@1>", "[2 0:!(let <1> in #0)]"), coresOf("^(#0 (#0 5))", "7", "<0 @2 @1>", "[2 0:<1>]"), impl.OK)
	for _, b := range []impl.Book{{}, bookOf("@1"), bookOf("!@1"), bookOf("7", "(let @2 in 1)"), {Defs: numbers(25)}, {Defs: slices.Repeat([]impl.Core{doublings(8)}, 25)}} {
		checkEraseBook(t, b, nil, impl.ErrInvalid)
	}
	for _, length := range []int{1, 2, 3, 24} {
		for at := range length {
			checkEraseBook(t, bookWith(length, at, coreOf("(let !3 in !^(#0 #1))")), bookWith(length, at, coreOf("^(#0 3)")).Defs, impl.OK)
			checkEraseBook(t, bookWith(length, at, doublings(8)), nil, impl.ErrFull)
			checkEraseBook(t, bookWith(length, at, putInto("(let ? in 1)", doublings(8))), nil, impl.ErrFull)
			checkEraseBook(t, bookWith(length, at, putInto("(let 1 in ?)", coreOf(fmt.Sprint("@", length)))), nil, impl.ErrInvalid)
			for _, c := range slices.Concat(openCores(), brokenCores()[:20]) {
				checkEraseBook(t, bookWith(length, at, c), nil, impl.ErrInvalid)
				for other := range min(length, 4) {
					b := bookWith(length, at, c)
					b.Defs[other] = doublings(8)
					if other != at {
						checkEraseBook(t, b, nil, impl.ErrInvalid)
					}
				}
			}
		}
	}
	for _, c := range endlessCores() {
		checkEraseBook(t, impl.Book{Defs: []impl.Core{doublings(8), c}}, nil, impl.ErrInvalid)
	}
}

func TestErasuresOfManyBooks(t *testing.T) {
	random := rand.New(rand.NewSource(102))
	list := closedCores(103, 1000)
	counts := map[int64]int{}
	for range 500 {
		var b impl.Book
		var want []impl.Core
		all := int64(impl.OK)
		for range 1 + random.Intn(24) {
			c := list[random.Intn(len(list))]
			erased, code := eraseAsStated(c)
			b.Defs, want, all = append(b.Defs, c), append(want, erased), max(all, code)
		}
		if !impl.ValidBook(b) {
			all = impl.ErrInvalid
		}
		if all != impl.OK {
			want = nil
		}
		checkEraseBook(t, b, want, all)
		counts[all]++
	}
	if counts[impl.OK] < 20 || counts[impl.ErrInvalid] < 20 || counts[impl.ErrFull] < 20 {
		t.Errorf("codes %v", counts)
	}
}

// under is a term inside so many functions.
func under(n int, c impl.Core) impl.Core { return nestedCore(n, "^?", c) }

// erasedUnder is the erasure of a term that is closed by so many functions, without these.
func erasedUnder(n int, c impl.Core) (impl.Core, int64) {
	result, code := impl.EraseCore(under(n, c))
	if code != impl.OK {
		return result, code
	}
	for range n {
		result = result.Kids[0]
	}
	return result, code
}

// TestErasureCommutesWithInstantiation is the second part of P9: what is instantiated and erased is the same as what is erased and instantiated.
func TestErasureCommutesWithInstantiation(t *testing.T) {
	compared := 0
	check := func(body, arg impl.Core) {
		instance, code := impl.InstantiateCore(body, arg)
		if code != impl.OK || !impl.IsClosed(under(5, instance)) {
			return
		}
		want, wantCode := erasedUnder(5, instance)
		erasedBody, one := erasedUnder(6, body)
		erasedArg, two := erasedUnder(5, arg)
		if one != impl.OK || two != impl.OK {
			return
		}
		got, code := impl.InstantiateCore(erasedBody, erasedArg)
		if wantCode == impl.OK && (!equalCores(got, want) || code != impl.OK) {
			t.Errorf("%s with %s: %s, code %d, instantiated first: %s", impl.CoreText(body), impl.CoreText(arg), impl.CoreText(got), code, impl.CoreText(want))
		}
		// The same as the erasure of a let, and as a step of a function.
		let := pairOf(impl.CoLet, arg, body)
		if again, letCode := erasedUnder(5, let); letCode == impl.OK && !equalCores(again, got) {
			t.Errorf("%s becomes %s, want %s", impl.CoreText(let), impl.CoreText(again), impl.CoreText(got))
		}
		redex := pairOf(impl.CoApp, under(1, erasedBody), erasedArg)
		if next, kind, stepCode := impl.StepCore(impl.Book{Defs: numbers(24)}, under(5, redex)); stepCode == impl.OK && (kind != impl.StBeta || !equalCores(next, under(5, got))) {
			t.Errorf("%s becomes %s by a step %d", impl.CoreText(redex), impl.CoreText(next), kind)
		}
		if !impl.IsErased(body) && !impl.IsErased(arg) && impl.CountVar(body, 0) > 0 {
			compared++
		}
	}
	bodies, args := randomCores(104, 8000), randomCores(105, 8000)
	for i := range bodies {
		check(bodies[i], args[i])
	}
	for _, body := range smallCores(1, 4) {
		for _, arg := range smallCores(1, 3) {
			check(body, arg)
		}
	}
	if compared < 500 {
		t.Errorf("only %d", compared)
	}
}
