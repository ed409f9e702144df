package tests

import (
	"fmt"
	"math"
	"math/rand"
	"slices"
	"strings"
	"testing"

	"loop.example/g01074/impl"
)

// checkShift compares ShiftCore with a result, which is not looked at if the code is not OK.
func checkShift(t *testing.T, c impl.Core, by, from int64, want impl.Core, wantCode int64) {
	t.Helper()
	result, code := impl.ShiftCore(c, by, from)
	if code != wantCode || !equalCores(result, want) {
		t.Errorf("%.300s shifted by %d from %d: %.300s, code %d, want %.300s, code %d", impl.CoreText(c), by, from, impl.CoreText(result), code, impl.CoreText(want), wantCode)
	}
}

func TestShiftCore(t *testing.T) {
	for _, c := range []struct {
		text     string
		by, from int64
		want     string
	}{
		{"#0", 0, 0, "#0"}, {"#0", 1, 0, "#1"}, {"#0", 64, 0, "#64"}, {"#0", 64, 1, "#0"}, {"#5", 3, 5, "#8"}, {"#5", 3, 6, "#5"}, {"#5", 3, 4, "#8"}, {"#191", 64, 0, "#255"}, {"#255", 0, 0, "#255"}, {"#255", 0, 255, "#255"}, {"#254", 1, 254, "#255"}, {"#254", 1, 255, "#254"}, {"#255", 64, 64, ""}, {"#255", 1, 255, ""}, {"#255", 1, 256, ""},
		{"7", 64, 0, "7"}, {"@3", 64, 0, "@3"}, {"<2>", 5, 0, "<2>"}, {"(#0 #1)", 2, 1, "(#0 #3)"}, {"(#0 + #1)", 2, 0, "(#2 + #3)"}, {"!(#0 !#3)", 4, 2, "!(#0 !#7)"}, {"<1 #0 #1 #2>", 10, 1, "<1 #0 #11 #12>"}, {"[4 5:#1]", 1, 1, "[4 5:#2]"}, {"{4 5:#1}", 1, 2, "{4 5:#1}"},
		// Under binders.
		{"^#0", 3, 0, "^#0"}, {"^#1", 3, 0, "^#4"}, {"^#1", 3, 1, "^#1"}, {"^(#0 (#1 #2))", 3, 1, "^(#0 (#1 #5))"}, {"^^(#0 (#1 (#2 #3)))", 2, 1, "^^(#0 (#1 (#2 #5)))"}, {"(#0 ^(#0 #1))", 3, 0, "(#3 ^(#0 #4))"}, {"^(^#2 #2)", 1, 1, "^(^#2 #3)"}, {"^(^#2 #2)", 1, 0, "^(^#3 #3)"},
		{"(let #0 in #0)", 5, 0, "(let #5 in #0)"}, {"(let #1 in #1)", 5, 0, "(let #6 in #6)"}, {"(let #1 in #1)", 5, 1, "(let #6 in #1)"}, {"(let #0 in (let #1 in #2))", 5, 0, "(let #5 in (let #6 in #7))"}, {"(let #0 in (let #0 in #2))", 5, 0, "(let #5 in (let #0 in #7))"}, {"(let ^#1 in ^#2)", 1, 0, "(let ^#2 in ^#3)"},
		// Where an index under binders becomes MaxIndex, and one more.
		{"^#254", 1, 0, "^#255"}, {"^#255", 1, 0, ""}, {"^#255", 1, 254, ""}, {"^#255", 1, 255, "^#255"}, {"^^#255", 1, 254, "^^#255"}, {"^^#255", 1, 253, ""}, {"(let #255 in 1)", 1, 255, ""}, {"(let 1 in #255)", 1, 255, "(let 1 in #255)"}, {"(let 1 in #255)", 1, 254, ""}, {"(#0 #255)", 1, 0, ""}, {"(#255 #0)", 1, 0, ""}, {"(#0 ^^^#192)", 64, 0, ""}, {"(#0 ^^^#191)", 64, 0, "(#64 ^^^#255)"}, {"(#0 ^^^#191)", 64, 189, "(#0 ^^^#191)"},
		// by and from at their limits and beyond.
		{"#0", 64, 255, "#0"}, {"#0", -1, 0, ""}, {"#0", 65, 0, ""}, {"#0", 0, -1, ""}, {"#0", 0, 256, ""}, {"#0", math.MinInt64, 0, ""}, {"#0", math.MaxInt64, 0, ""}, {"#0", 0, math.MinInt64, ""}, {"#0", 0, math.MaxInt64, ""}, {"#0", 1 << 32, 0, ""}, {"#0", 0, 1 << 32, ""}, {"7", -1, 0, ""}, {"7", 65, 0, ""}, {"7", 1, -1, ""}, {"7", 1, 256, ""}, {"#255", 65, 256, ""}, {"#5", -1, -1, ""}, {"#5", 65, -1, ""}, {"7", 0, 0, "7"}, {"^#0", 64, 255, "^#0"}, {"#255", -1, 0, ""}, {"#255", -64, 255, ""},
	} {
		x := coreOf(c.text)
		stated, code := shiftAsStated(x, c.by, c.from)
		want, wantCode := impl.Core{}, int64(impl.ErrRange)
		if c.want != "" {
			want, wantCode = coreOf(c.want), impl.OK
		}
		if code != wantCode || !equalCores(stated, want) {
			t.Fatalf("%s shifted by %d from %d: the test is wrong", c.text, c.by, c.from)
		}
		checkShift(t, x, c.by, c.from, want, wantCode)
	}
}

// TestShiftOfManyCores compares with what is stated of names.
func TestShiftOfManyCores(t *testing.T) {
	random := rand.New(rand.NewSource(71))
	codes := map[int64]int{}
	for _, c := range append(randomCores(72, 3000), smallCores(3, 4)...) {
		for _, by := range []int64{0, 1, 64, random.Int63n(68) - 1} {
			for _, from := range []int64{0, 1, 2, random.Int63n(260) - 1} {
				want, code := shiftAsStated(c, by, from)
				checkShift(t, c, by, from, want, code)
				codes[code]++
			}
		}
	}
	if codes[impl.OK] < 10000 || codes[impl.ErrRange] < 1000 {
		t.Errorf("codes %v", codes)
	}
}

func TestErrorsOfShift(t *testing.T) {
	for _, c := range coresOf("?", "#256", "(#0 <4>)", "#-1", "^[24:#0]") {
		for _, by := range []int64{0, 1, -1, 65} {
			for _, from := range []int64{0, 255, -1, 256} {
				checkShift(t, c, by, from, impl.Core{}, impl.ErrInvalid)
			}
		}
	}
}

func checkInstantiate(t *testing.T, body, arg, want impl.Core, wantCode int64) {
	t.Helper()
	result, code := impl.InstantiateCore(body, arg)
	if code != wantCode || !equalCores(result, want) {
		t.Errorf("%.300s with %.300s: %.300s, code %d, want %.300s, code %d", impl.CoreText(body), impl.CoreText(arg), impl.CoreText(result), code, impl.CoreText(want), wantCode)
	}
}

func TestInstantiateCore(t *testing.T) {
	for _, c := range []struct{ body, arg, want string }{
		{"#0", "7", "7"}, {"#0", "#0", "#0"}, {"#0", "#255", "#255"}, {"#1", "7", "#0"}, {"#255", "7", "#254"}, {"5", "7", "5"}, {"@3", "#0", "@3"}, {"<1>", "#0", "<1>"}, {"(#0 #0)", "(#0 #1)", "((#0 #1) (#0 #1))"}, {"(#1 + #0)", "#3", "(#0 + #3)"}, {"!#0", "!#0", "!!#0"}, {"<2 #0 #1 #2>", "4", "<2 4 #0 #1>"}, {"[1 2:#0]", "<0>", "[1 2:<0>]"}, {"{1 2:#0}", "#9", "{1 2:#9}"},
		// Variables that do not occur.
		{"(#1 #2)", "(#0 #0)", "(#0 #1)"}, {"^#0", "#0", "^#0"}, {"^#2", "#0", "^#1"}, {"(let 1 in #0)", "#0", "(let 1 in #0)"}, {"(let 1 in #2)", "#0", "(let 1 in #1)"},
		// Under binders.
		{"^#1", "7", "^7"}, {"^#1", "#0", "^#1"}, {"^(#0 #1)", "#3", "^(#0 #4)"}, {"^^#2", "#3", "^^#5"}, {"^^(#0 (#1 (#2 #3)))", "#0", "^^(#0 (#1 (#2 #2)))"}, {"(#0 ^(#1 ^#2))", "#4", "(#4 ^(#5 ^#6))"}, {"^#1", "^#0", "^^#0"}, {"^#1", "^#1", "^^#2"}, {"^#1", "(let #0 in #1)", "^(let #1 in #2)"}, {"^#1", "^(#0 (#1 #2))", "^^(#0 (#2 #3))"},
		{"(let #0 in #0)", "7", "(let 7 in #0)"}, {"(let #0 in #1)", "#0", "(let #0 in #1)"}, {"(let #0 in #1)", "#5", "(let #5 in #6)"}, {"(let #1 in #2)", "#5", "(let #0 in #1)"}, {"(let ^#1 in ^#2)", "#5", "(let ^#6 in ^#7)"}, {"(let (let #0 in #1) in (let #1 in #2))", "#5", "(let (let #5 in #6) in (let #6 in #7))"},
		{"!^!(#1 !#0)", "!#1", "!^!(!#2 !#0)"}, {"^<0 #1 ^#2 #1>", "(#0 ^#1)", "^<0 (#1 ^#2) ^(#2 ^#3) (#1 ^#2)>"},
		// Where an index becomes MaxIndex, and one more.
		{"^#1", "#254", "^#255"}, {"^#1", "#255", ""}, {"^^#2", "#253", "^^#255"}, {"^^#2", "#254", ""}, {"(let #0 in 1)", "#255", "(let #255 in 1)"}, {"(let 1 in #1)", "#255", ""}, {"^#0", "#255", "^#0"}, {"^#2", "#255", "^#1"}, {"(^#1 #0)", "#255", ""}, {"(#0 ^#1)", "#255", ""}, {"^#255", "#0", "^#254"}, {"^#1", "^#255", ""}, {"^#1", "^#254", "^^#255"}, {"^(#1 #255)", "7", "^(7 #254)"},
	} {
		body, arg := coreOf(c.body), coreOf(c.arg)
		want, wantCode := impl.Core{}, int64(impl.ErrRange)
		if c.want != "" {
			want, wantCode = coreOf(c.want), impl.OK
		}
		if stated, code := instantiateAsStated(body, arg); code != wantCode || !equalCores(stated, want) {
			t.Fatalf("%s with %s: the test is wrong", c.body, c.arg)
		}
		checkInstantiate(t, body, arg, want, wantCode)
	}
}

// sumOfCores joins terms so that each is one level deeper than the one before it.
func sumOfCores(list ...impl.Core) impl.Core {
	if len(list) == 1 {
		return list[0]
	}
	return impl.Core{Kind: impl.CoOp, Value: impl.OpAdd, Kids: []impl.Core{list[0], sumOfCores(list[1:]...)}}
}

// chain is a term of that depth with a term at its end.
func chain(depth int, end string) impl.Core { return nestedCore(depth-1, "!?", coreOf(end)) }

// TestInstantiateAtTheLimits has results of MaxCore nodes, of depth MaxCoreDepth, and of one more.
func TestInstantiateAtTheLimits(t *testing.T) {
	lambdas := func(n int, end string) impl.Core { return nestedCore(n, "^?", coreOf(end)) }
	for i, c := range []struct {
		body, arg   impl.Core
		size, depth int
		code        int64
	}{
		{coreOf("#0"), sizedCore(400, "#0"), 400, depthOfCore(sizedCore(400, "#0")), impl.OK},
		{coreOf("!#0"), sizedCore(399, "#0"), 400, depthOfCore(sizedCore(399, "#0")) + 1, impl.OK},
		{coreOf("!#0"), sizedCore(400, "#0"), 401, depthOfCore(sizedCore(400, "#0")) + 1, impl.ErrFull},
		{coreOf("(#0 !#0)"), sizedCore(199, "#0"), 400, depthOfCore(sizedCore(199, "#0")) + 2, impl.OK},
		{coreOf("(!#0 !#0)"), sizedCore(199, "#0"), 401, depthOfCore(sizedCore(199, "#0")) + 2, impl.ErrFull},
		{sizedCore(400, "#0"), coreOf("#7"), 400, depthOfCore(sizedCore(400, "#0")), impl.OK},
		{sizedCore(400, "#1"), sizedCore(400, "#0"), 400, depthOfCore(sizedCore(400, "#0")), impl.OK},
		{sizedCore(399, "#0"), coreOf("!7"), 527, depthOfCore(sizedCore(399, "#0")) + 1, impl.ErrFull},
		{sizedCore(400, "#0"), sizedCore(400, "#0"), 51472, 21, impl.ErrFull},
		{sumOfCores(sizedCore(198, "1"), coreOf("#0")), sizedCore(201, "1"), 400, -1, impl.OK},
		{sumOfCores(sizedCore(198, "1"), coreOf("#0")), sizedCore(202, "1"), 401, -1, impl.ErrFull},
		{coreOf("#0"), chain(80, "#0"), 80, 80, impl.OK},
		{chain(80, "#0"), coreOf("1"), 80, 80, impl.OK},
		{chain(80, "#0"), coreOf("!1"), 81, 81, impl.ErrFull},
		{chain(2, "#0"), chain(79, "1"), 80, 80, impl.OK},
		{chain(2, "#0"), chain(80, "1"), 81, 81, impl.ErrFull},
		{chain(41, "#0"), chain(40, "1"), 80, 80, impl.OK},
		{chain(41, "#0"), chain(41, "1"), 81, 81, impl.ErrFull},
		{chain(80, "#1"), chain(80, "1"), 80, 80, impl.OK},
		{chain(80, "#0"), chain(80, "1"), 159, 159, impl.ErrFull},
		{sumOfCores(chain(79, "#1"), coreOf("#0")), chain(79, "1"), 159, 80, impl.OK},
		{sumOfCores(chain(79, "#1"), coreOf("#0")), chain(80, "1"), 160, 81, impl.ErrFull},
		{sumOfCores(coreOf("#0"), chain(79, "#1")), chain(80, "1"), 160, 81, impl.ErrFull},
		// At both limits.
		{sumOfCores(sizedCore(318, "1"), chain(40, "#0")), chain(40, "1"), 398, 80, impl.OK},
		{sumOfCores(sizedCore(320, "1"), chain(40, "#0")), chain(40, "1"), 400, 80, impl.OK},
		{sumOfCores(sizedCore(321, "1"), chain(40, "#0")), chain(40, "1"), 401, 80, impl.ErrFull},
		{sumOfCores(sizedCore(319, "1"), chain(40, "#0")), chain(41, "1"), 400, 81, impl.ErrFull},
		// With an index that is too great as well, or without that alone.
		{lambdas(2, "#2"), coreOf("#254"), 3, 3, impl.ErrRange},
		{lambdas(79, "#79"), coreOf("!#254"), 81, 81, impl.ErrFull},
		{lambdas(79, "#79"), coreOf("#176"), 80, 80, impl.OK},
		{lambdas(79, "#79"), coreOf("#177"), 80, 80, impl.ErrRange},
		{lambdas(79, "#79"), coreOf("!#177"), 81, 81, impl.ErrFull},
		{sumOfCores(coreOf("^#1"), sizedCore(397, "#0")), coreOf("#255"), 400, -1, impl.ErrRange},
		{sumOfCores(coreOf("^#1"), sizedCore(397, "#0")), coreOf("!#255"), 529, -1, impl.ErrFull},
		{sumOfCores(coreOf("^#1"), sizedCore(397, "#1")), coreOf("!#255"), 401, -1, impl.ErrFull},
		{sumOfCores(coreOf("^#1"), sizedCore(396, "#1")), coreOf("!#255"), 400, -1, impl.ErrRange},
	} {
		want, code := instantiateAsStated(c.body, c.arg)
		names := new(naming)
		body, arg := names.named(c.body), names.named(c.arg)
		result := body.replaced(func(variable int) namedCore {
			if variable > 0 {
				return freeCore(variable - 1)
			}
			return arg
		}).unnamed()
		if code != c.code || nodesOfCore(result) != c.size || c.depth > 0 && depthOfCore(result) != c.depth {
			t.Fatalf("%d: %d nodes and depth %d, code %d: the test is wrong", i, nodesOfCore(result), depthOfCore(result), code)
		}
		checkInstantiate(t, c.body, c.arg, want, c.code)
	}
}

// TestErrorsOfInstantiate has more than one error at once.
func TestErrorsOfInstantiate(t *testing.T) {
	invalid := coresOf("?", "#256", "^<4>", "(#0 [24:1])", "#-1")
	for _, c := range invalid {
		for _, other := range append(append(coresOf("1", "#0", "#1", "^#1", "#255"), sizedCore(400, "#0"), chain(80, "#0")), invalid...) {
			checkInstantiate(t, c, other, impl.Core{}, impl.ErrInvalid)
			checkInstantiate(t, other, c, impl.Core{}, impl.ErrInvalid)
			// With a result that would be too large and have an index that is too great.
			checkInstantiate(t, sumOfCores(sizedCore(390, "#0"), coreOf("^#1"), c), sizedCore(399, "#255"), impl.Core{}, impl.ErrInvalid)
			checkInstantiate(t, sumOfCores(sizedCore(390, "#0"), coreOf("^#1")), sumOfCores(sizedCore(200, "#255"), c), impl.Core{}, impl.ErrInvalid)
		}
	}
	checkInstantiate(t, sumOfCores(sizedCore(390, "#0"), coreOf("^#1")), sizedCore(399, "#255"), impl.Core{}, impl.ErrFull)
}

func TestInstantiateManyCores(t *testing.T) {
	codes := map[int64]int{}
	check := func(body, arg impl.Core) {
		want, code := instantiateAsStated(body, arg)
		checkInstantiate(t, body, arg, want, code)
		codes[code]++
	}
	bodies, args := randomCores(73, 4000), randomCores(74, 4000)
	for i := range bodies {
		check(bodies[i], args[i])
		check(putInto("^?", bodies[i]), args[i])
	}
	for _, body := range smallCores(2, 4) {
		for _, arg := range smallCores(2, 3) {
			check(body, arg)
		}
	}
	// Large ones.
	random := rand.New(rand.NewSource(75))
	for range 3500 {
		lambdas := random.Intn(79)
		body := sizedCore(1+random.Intn(60), []string{"#0", "^#1", "(#0 #1)", "(let #0 in #1)"}[random.Intn(4)])
		check(nestedCore(lambdas, "^?", coreOf(fmt.Sprint("#", lambdas+random.Intn(2)))), sizedCore(1+random.Intn(40), fmt.Sprint("#", 150+random.Intn(100))))
		check(body, sizedCore(1+random.Intn(20), fmt.Sprint("#", 250+random.Intn(6))))
	}
	if codes[impl.OK] < 10000 || codes[impl.ErrRange] < 200 || codes[impl.ErrFull] < 200 {
		t.Errorf("codes %v", codes)
	}
}

// shiftedOK is a shift that is known to be possible.
func shiftedOK(t *testing.T, c impl.Core, by, from int64) impl.Core {
	t.Helper()
	result, code := impl.ShiftCore(c, by, from)
	if code != impl.OK {
		t.Fatalf("%s shifted by %d from %d: code %d", impl.CoreText(c), by, from, code)
	}
	return result
}

// TestShiftsAddUp is the first part of P7: the second shift begins at any of the variables that the first one has moved or left free.
func TestShiftsAddUp(t *testing.T) {
	random := rand.New(rand.NewSource(76))
	changed := 0
	for _, c := range append(randomCores(77, 1500), smallCores(3, 4)...) {
		for range 6 {
			a, b, from := random.Int63n(65), random.Int63n(65), random.Int63n(4)
			if random.Intn(2) == 0 {
				a, b = random.Int63n(4), random.Int63n(4)
			}
			again := from + random.Int63n(a+1)
			if a+b > 64 {
				continue
			}
			first, code := impl.ShiftCore(c, a, from)
			if code != impl.OK {
				checkShift(t, c, a+b, from, impl.Core{}, code)
				continue
			}
			second, code := impl.ShiftCore(first, b, again)
			checkShift(t, c, a+b, from, second, code)
			if code == impl.OK && !impl.SameCore(second, c) && a > 0 && b > 0 {
				changed++
			}
		}
		checkShift(t, c, 0, random.Int63n(256), c, impl.OK)
	}
	if changed < 1000 {
		t.Errorf("only %d terms changed", changed)
	}
}

// TestShiftsOfTwoPlaces has two shifts that are done in either order: a variable that the lower one moves is farther up when the upper one comes second.
func TestShiftsOfTwoPlaces(t *testing.T) {
	random := rand.New(rand.NewSource(78))
	for _, c := range append(randomCores(79, 1500), smallCores(3, 4)...) {
		a, b, low := random.Int63n(30), random.Int63n(30), random.Int63n(3)
		high := low + random.Int63n(3)
		first, code := impl.ShiftCore(c, a, low)
		if code != impl.OK {
			continue
		}
		one, oneCode := impl.ShiftCore(first, b, high+a)
		second, code := impl.ShiftCore(c, b, high)
		if code == impl.OK {
			checkShift(t, second, a, low, one, oneCode)
		}
	}
}

// TestShiftsAreUndone is the second part of P7.
func TestShiftsAreUndone(t *testing.T) {
	args := append(randomCores(80, 50), sizedCore(400, "#255"), chain(80, "#255"))
	random := rand.New(rand.NewSource(81))
	count := 0
	for _, c := range append(randomCores(82, 1500), smallCores(3, 4)...) {
		if greatestIndex(c) == 255 {
			continue
		}
		arg := args[random.Intn(len(args))]
		up := shiftedOK(t, c, 1, 0)
		if impl.CountVar(up, 0) != 0 {
			t.Errorf("%s has the variable 0", impl.CoreText(up))
		}
		checkInstantiate(t, up, arg, c, impl.OK)
		// A shift by more is undone one by one.
		if by := random.Int63n(8); greatestIndex(c) < 200 {
			up = shiftedOK(t, c, by, 0)
			for range by {
				up, _ = impl.InstantiateCore(up, arg)
			}
			if !impl.SameCore(up, c) {
				t.Errorf("%s: a shift by %d is not undone: %s", impl.CoreText(c), by, impl.CoreText(up))
			}
			count++
		}
		// The variable that a shift from 1 makes room for is instantiated behind a binder, with one that is undone too.
		if greatestIndex(c) < 254 && depthOfCore(c) < 80 && nodesOfCore(c) < 400 {
			checkInstantiate(t, putInto("^?", shiftedOK(t, c, 1, 1)), arg, putInto("^?", c), impl.OK)
		}
	}
	if count < 1500 {
		t.Errorf("only %d terms", count)
	}
}

// TestOrderOfInstantiations is the third part of P7: the variable 1 of a body, which is 0 behind a binder, is instantiated after the variable 0 or before it.
func TestOrderOfInstantiations(t *testing.T) {
	compared := 0
	check := func(body, a, b impl.Core) {
		first, code := impl.InstantiateCore(body, a)
		if code != impl.OK {
			return
		}
		inner, innerCode := impl.InstantiateCore(a, b)
		outer, outerCode := impl.InstantiateCore(putInto("^?", body), b)
		if innerCode != impl.OK || outerCode != impl.OK {
			return
		}
		want, code := impl.InstantiateCore(first, b)
		checkInstantiate(t, outer.Kids[0], inner, want, code)
		if impl.CountVar(body, 0) > 0 && impl.CountVar(body, 1) > 0 && impl.CountVar(a, 0) > 0 {
			compared++
		}
	}
	bodies, args, others := randomCores(83, 6000), randomCores(84, 6000), randomCores(85, 6000)
	for i := range bodies {
		check(bodies[i], args[i], others[i])
	}
	for _, body := range smallCores(2, 4) {
		for _, a := range smallCores(1, 3) {
			for _, b := range coresOf("#0", "#1", "^#0", "^#1", "(#0 #1)", "(let #0 in #1)") {
				check(body, a, b)
			}
		}
	}
	if compared < 2000 {
		t.Errorf("only %d", compared)
	}
}

// TestInstantiatedShift instantiates a body and an argument that are shifted together.
func TestInstantiatedShift(t *testing.T) {
	random := rand.New(rand.NewSource(86))
	bodies, args := randomCores(87, 2000), randomCores(88, 2000)
	for i := range bodies {
		by, from := random.Int63n(20), random.Int63n(3)
		result, code := impl.InstantiateCore(bodies[i], args[i])
		body, bodyCode := impl.ShiftCore(bodies[i], by, from+1)
		arg, argCode := impl.ShiftCore(args[i], by, from)
		if code == impl.OK && bodyCode == impl.OK && argCode == impl.OK {
			want, code := impl.ShiftCore(result, by, from)
			checkInstantiate(t, body, arg, want, code)
		}
	}
}

// coreAsTold tells the results of all functions of one or two core terms.
func coreAsTold(c, other impl.Core) string {
	var b strings.Builder
	b.WriteString(fmt.Sprint(impl.ValidCore(c), impl.CoreSize(c), impl.CoreText(c), impl.IsClosed(c), impl.IsErased(c), impl.IsStratified(c), impl.CountVar(c, 0), impl.CountVar(c, 1), impl.SameCore(c, c), impl.SameCore(c, other)))
	for _, by := range []int64{0, 1, 64, 65} {
		result, code := impl.ShiftCore(c, by, 1)
		b.WriteString(fmt.Sprint(impl.CoreText(result), code))
	}
	for _, pair := range [][2]impl.Core{{c, other}, {other, c}, {c, c}} {
		result, code := impl.InstantiateCore(pair[0], pair[1])
		b.WriteString(fmt.Sprint(impl.CoreText(result), code))
	}
	return b.String()
}

// spoilResults overwrites the memory of all results for core terms.
func spoilResults(c, other impl.Core) {
	for _, by := range []int64{0, 1, 64} {
		result, _ := impl.ShiftCore(c, by, 1)
		spoilCore(result)
	}
	for _, pair := range [][2]impl.Core{{c, other}, {other, c}, {c, c}, {coreOf("#0"), c}, {c, coreOf("#9")}} {
		result, _ := impl.InstantiateCore(pair[0], pair[1])
		spoilCore(result)
	}
}

// TestCoresArePure is P1 for the functions of core terms.
func TestCoresArePure(t *testing.T) {
	list := append(brokenCores(), randomCores(89, 500)...)
	list = append(list, smallCores(2, 3)...)
	other := roomyCore(coreOf("^(let #1 in <1 #2 [3 4:#0] {5 6:(#0 #3)}>)"))
	unchanged := dumpCore(other)
	var first []string
	for i := range list {
		list[i] = roomyCore(list[i])
		before := dumpCore(list[i])
		first = append(first, coreAsTold(list[i], other))
		spoilResults(list[i], other)
		if after := dumpCore(list[i]); after != before || dumpCore(other) != unchanged {
			t.Fatalf("%.300s became %.300s", before, after)
		}
	}
	for i := len(list) - 1; i >= 0; i-- {
		if got := coreAsTold(list[i], other); got != first[i] {
			t.Errorf("first %.300s, then %.300s", first[i], got)
		}
	}
}

// sharedCore is a valid term whose kids are one slice in memory, and whose definitions are one too.
func sharedCore() impl.Core {
	data := []int64{1, 2}
	kids := []impl.Core{{Kind: impl.CoVar, Value: 1}}
	choice := impl.Core{Kind: impl.CoMat, Data: data, Kids: kids}
	both := []impl.Core{choice, {Kind: impl.CoSwi, Data: data, Kids: kids}}
	pair := impl.Core{Kind: impl.CoApp, Kids: both}
	return impl.Core{Kind: impl.CoLam, Kids: []impl.Core{{Kind: impl.CoApp, Kids: []impl.Core{pair, pair}}}}
}

// TestCoresShareNoMemory is P1 for the results of shifts and instantiations: no two slices, of one result, of two results or of an argument, have memory in common.
func TestCoresShareNoMemory(t *testing.T) {
	args := append(randomCores(90, 60), sharedCore(), coreOf("^(#0 [1 2:#0])"), coreOf("[1 2:(#0 #0)]"), coreOf("(#0 (#0 ^(#1 ^(#2 #2))))"))
	var m memoryOf
	var kept []impl.Core
	keep := func(c impl.Core, code int64) {
		m.addCore(c)
		kept = append(kept, c)
	}
	m.addCore(coreOf("#0"))
	for _, c := range args[:60] {
		m.addCore(c)
	}
	for _, c := range args {
		for range 2 {
			keep(impl.ShiftCore(c, 0, 0))
			keep(impl.ShiftCore(c, 1, 0))
			keep(impl.ShiftCore(c, 1, 255))
			keep(impl.InstantiateCore(coreOf("#0"), c))
			keep(impl.InstantiateCore(coreOf("(#0 (#0 ^<1 #1 #1 [3 4 5:#0]>))"), c))
			keep(impl.InstantiateCore(c, sharedCore()))
			keep(impl.InstantiateCore(c, c))
		}
	}
	if m.overlap() {
		t.Errorf("two slices share memory in %.300s", fmt.Sprint(kept))
	}
	if slices.ContainsFunc(kept[len(kept)-8:], func(c impl.Core) bool { return c.Kind == 0 }) || len(m) < 3000 {
		t.Errorf("only %d slices", len(m))
	}
}
