package tests

import (
	"testing"

	"loop.example/g01074/impl"
)

func checkDeveloped(t *testing.T, s machineState, want impl.Core, wantRedexes, wantCode int64) {
	t.Helper()
	got, redexes, code := impl.DevelopCore(s.b, s.c)
	if !equalCores(got, want) || redexes != wantRedexes || code != wantCode {
		t.Errorf("%.500s: %d redexes contracted to %.300s, code %d, want %d to %.300s, code %d", s, redexes, impl.CoreText(got), code, wantRedexes, impl.CoreText(want), wantCode)
	}
}

// TestDevelopments has redexes beside each other and in each other, and such that are there only when others have been contracted.
func TestDevelopments(t *testing.T) {
	for _, row := range []struct {
		from, to string
		redexes  int64
	}{
		{"7", "7", 0}, {"@6", "@6", 0}, {"^(#0 @0)", "^(#0 @0)", 0}, {"<0 @6 ^#0>", "<0 @6 ^#0>", 0}, {"[0:5]", "[0:5]", 0},
		// Beside each other.
		{"((1 + 2) + (3 + 4))", "(3 + 7)", 2}, {"((1 + 2) + @2)", "(3 + @2)", 1}, {"<0 (1 + 2) (^#0 5) {0 1:0}>", "<0 3 5 @1>", 3}, {"(5 (1 + (2 * 3)))", "(5 (1 + 6))", 1}, {"((@0 1) = (@0 2))", "((^(#0 * 2) 1) = (^(#0 * 2) 2))", 2}, {"^^((1 + 2) (3 + 4))", "^^(3 7)", 2}, {"((1 + 2) {0 1:@2})", "(3 {0 1:5})", 2},
		// In what a function is applied to, which occurs several times, once or not at all.
		{"(^(#0 + #0) (1 + 2))", "(3 + 3)", 2}, {"(^#0 (1 + 2))", "3", 2}, {"(^5 (1 + 2))", "5", 2}, {"(^5 ((1 + 2) + (3 + 4)))", "5", 3}, {"(^<0 #0 7 #0> (^#0 @6))", "<0 @6 7 @6>", 2},
		// In functions.
		{"(^(^#0 #0) 1)", "1", 2}, {"(^(1 + 2) 3)", "3", 2}, {"(^((1 + 2) + #0) 4)", "(3 + 4)", 2}, {"(^(^(#0 #1) (3 + 4)) (1 + 2))", "(7 3)", 4}, {"(^(@0 #0) @2)", "(^(#0 * 2) @2)", 2}, {"^(^(#0 #1) #0)", "^(#0 #0)", 1}, {"^(^^(#1 (#0 #2)) (^#0 #0))", "^^(#1 (#0 #1))", 2}, {"^(^^(^(#0 #3) #1) #0)", "^^(#1 #1)", 2}, {"(^{0 1:#0} 0)", "{0 1:0}", 1}, {"(^(#0 + 2) 1)", "(1 + 2)", 1},
		// Redexes that there are behind others only.
		{"((^#0 ^#0) 1)", "(^#0 1)", 1}, {"(^(#0 1) ^(#0 + 2))", "(^(#0 + 2) 1)", 1}, {"((1 + 2) + 3)", "(3 + 3)", 1}, {"[0 1:(^#0 <1>)]", "[0 1:<1>]", 1}, {"{0 1:(1 - 1)}", "{0 1:0}", 1}, {"((^#0 @0) 1)", "(@0 1)", 1}, {"((^#0 @2) + 1)", "(@2 + 1)", 1}, {"(1 + (^#0 @2))", "(1 + @2)", 1}, {"[0:(^#0 @3)]", "[0:@3]", 1}, {"(^(#0 #0) ^(#0 #0))", "(^(#0 #0) ^(#0 #0))", 1}, {"((@1 7) 2)", "((^^(#1 - #0) 7) 2)", 1}, {"(({0 1:0} 1) 2)", "((@1 1) 2)", 1},
		// Definitions are not changed, but what they are applied to is.
		{"(@6 + (3 + 4))", "((1 + 2) + 7)", 2}, {"(1 + @6)", "(1 + (1 + 2))", 1}, {"(@0 (1 + 2))", "(^(#0 * 2) 3)", 2}, {"(@6 (@6 + 1))", "((1 + 2) ((1 + 2) + 1))", 2}, {"[1:@7]", "[1:[4 1:@3]]", 1}, {"{0 1:@6}", "{0 1:(1 + 2)}", 1}, {"(@5 @5)", "(@0 @5)", 1},
		// The fields of what is chosen.
		{"[4:<0 (1 + 2) (^#0 5) @2>]", "(((@4 3) 5) @2)", 3}, {"[0:<0 (1 + 2)>]", "(@0 3)", 2}, {"[0:<1 (1 + 2)>]", "[0:<1 3>]", 1}, {"[1:<0 [0 2:<1>] {2 3:7}>]", "((@1 @2) @2)", 3}, {"{0 1:5}", "@0", 1}, {"(7 / 0)", "0", 1},
	} {
		s := machineState{stepBook(), coreOf(row.from)}
		if want, redexes, code := developAsStated(s.b, s.c); impl.CoreText(want) != row.to || redexes != row.redexes || code != impl.OK {
			t.Fatalf("%s: the test is wrong: %d redexes to %s", row.from, redexes, impl.CoreText(want))
		}
		checkDeveloped(t, s, coreOf(row.to), row.redexes, impl.OK)
		for _, place := range erasedPlaces() {
			checkStated(t, machineState{stepBook(), putInto(place, s.c)})
			checkStated(t, machineState{stepBook(), putInto("(^(#0 #0) ?)", putInto(place, s.c))})
		}
	}
}

// TestDevelopmentsOfSmallStates has all terms of up to five nodes of some kinds.
func TestDevelopmentsOfSmallStates(t *testing.T) {
	b := bookOf("^(#0 - 2)", "<0>")
	for _, c := range smallStates(5) {
		want, redexes, code := developAsStated(b, c)
		checkDeveloped(t, machineState{b, c}, want, redexes, code)
	}
}

// TestDevelopmentsAtTheLimits has results of MaxCore nodes or of the depth MaxCoreDepth, or of one more, of the root and of nodes below it.
func TestDevelopmentsAtTheLimits(t *testing.T) {
	app := func(a, b impl.Core) impl.Core { return pairOf(impl.CoApp, a, b) }
	small := bookOf("1", "^#0")
	def := func(c impl.Core) impl.Book { return impl.Book{Defs: []impl.Core{c, coreOf("^#0")}} }
	// Terms of which D has this size or depth.
	sized400, sized401 := app(coreOf("^(#0 ^#1)"), sizedErased(199)), app(coreOf("^(#0 ^^#2)"), sizedErased(199))
	deep80, deep81 := app(under(1, pillar(40, "#0")), pillar(41, "2")), app(under(1, pillar(41, "#0")), pillar(41, "2"))
	for i, c := range []struct {
		b     impl.Book
		c     impl.Core
		fits  bool
		nodes int
	}{
		{small, sized400, true, 400}, {small, sized401, false, 401}, {small, deep80, true, 80}, {small, deep81, false, 81},
		{small, sizedErased(400), true, 400}, {small, pillar(80, "1"), true, 80},
		{def(sizedErased(398)), coreOf("(@0 1)"), true, 400}, {def(sizedErased(399)), coreOf("(@0 1)"), false, 401}, {def(sizedErased(400)), coreOf("{0 1:@0}"), false, 401}, {def(pillar(79, "1")), coreOf("{0 1:@0}"), true, 80}, {def(pillar(80, "1")), coreOf("{0 1:@0}"), false, 81}, {def(sizedErased(400)), coreOf("(1 + @0)"), false, 402},
		// Below a root of which D is smaller.
		{small, app(coreOf("^7"), sized400), true, 1}, {small, app(coreOf("^7"), sized401), false, 1}, {small, app(coreOf("^7"), deep80), true, 1}, {small, app(coreOf("^7"), deep81), false, 1}, {small, app(coreOf("^7"), under(1, sized400)), false, 1}, {small, app(coreOf("^7"), under(1, deep80)), false, 1},
		{def(sizedErased(398)), coreOf("(^7 (@0 1))"), true, 1}, {def(sizedErased(399)), coreOf("(^7 (@0 1))"), false, 1}, {def(pillar(80, "1")), coreOf("(^7 [0:@0])"), false, 1},
		{small, app(coreOf("^7"), app(coreOf("^8"), sized401)), false, 1}, {small, app(coreOf("^(^7 #0)"), sized401), false, 1}, {small, app(app(coreOf("^^7"), sized401), coreOf("1")), false, 2}, {small, app(under(1, app(coreOf("^7"), sized401)), coreOf("1")), false, 1},
		// The function of a redex has one node and one level more than its body, which is what the root becomes.
		{small, app(under(1, app(coreOf("^(#0 #0)"), sizedErased(199))), coreOf("1")), true, 399}, {small, app(under(1, sized400), coreOf("1")), false, 400},
		{small, app(under(1, app(under(1, pillar(40, "#0")), pillar(40, "2"))), coreOf("1")), true, 79}, {small, app(under(1, deep80), coreOf("1")), false, 80},
		// Two parts that fit alone.
		{small, app(app(coreOf("^(#0 #0)"), sizedErased(99)), app(coreOf("^(#0 #0)"), sizedErased(99))), true, 399}, {small, app(app(coreOf("^(#0 #0)"), sizedErased(99)), app(coreOf("^(#0 ^#1)"), sizedErased(99))), true, 400}, {small, app(app(coreOf("^(#0 #0)"), sizedErased(99)), app(coreOf("^(#0 #0)"), sizedErased(100))), false, 401},
		{small, app(coreOf("^(#0 ^#1)"), app(coreOf("^(#0 #0)"), sizedErased(99))), true, 400}, {small, app(coreOf("^(#0 #0)"), app(coreOf("^(#0 ^#1)"), sizedErased(99))), false, 401},
		// The fields of what is chosen stand deeper than before.
		{small, impl.Core{Kind: impl.CoMat, Data: []int64{0}, Kids: []impl.Core{{Kind: impl.CoCon, Kids: []impl.Core{pillar(77, "1"), coreOf("1"), coreOf("1")}}}}, true, 83}, {small, impl.Core{Kind: impl.CoMat, Data: []int64{0}, Kids: []impl.Core{{Kind: impl.CoCon, Kids: []impl.Core{pillar(78, "1"), coreOf("1"), coreOf("1")}}}}, false, 84},
	} {
		s := machineState{c.b, c.c}
		want, redexes, code := developAsStated(s.b, s.c)
		if (code == impl.OK) != c.fits || code != impl.OK && code != impl.ErrFull || c.fits && nodesOfCore(want) != c.nodes {
			t.Fatalf("%d: the test is wrong: code %d, %d nodes", i, code, nodesOfCore(want))
		}
		checkDeveloped(t, s, want, redexes, code)
		// A step alone may be possible.
		checkStated(t, s)
	}
}

// TestDevelopmentsOfOneRedex has terms in which the development is a step, or nothing.
func TestDevelopmentsOfOneRedex(t *testing.T) {
	counts := map[int64]int{}
	for _, s := range randomStates(131, 3000) {
		_, redexes, code := impl.DevelopCore(s.b, s.c)
		if (code == impl.OK && redexes == 0) != impl.IsNormal(s.b, s.c) {
			t.Errorf("%s: %d redexes, but normal is %t", s, redexes, impl.IsNormal(s.b, s.c))
		}
		if code == impl.OK && redexes == 0 {
			checkDeveloped(t, s, s.c, 0, impl.OK)
		}
		if code == impl.OK && redexes == 1 {
			next, kind, stepCode := impl.StepCore(s.b, s.c)
			checkDeveloped(t, s, next, 1, stepCode)
			counts[kind]++
		}
	}
	for kind := int64(1); kind <= 4; kind++ {
		if counts[kind] < 20 {
			t.Errorf("only %v", counts)
		}
	}
}

// developedToTheEnd is the normal form by developments, and their number, unless there are too many of them.
func developedToTheEnd(s machineState) (impl.Core, int) {
	for n := range 100 {
		if impl.IsNormal(s.b, s.c) {
			return s.c, n
		}
		next, _, code := impl.DevelopCore(s.b, s.c)
		if code != impl.OK {
			break
		}
		s.c = next
	}
	return impl.Core{}, -1
}

// TestDevelopmentsHaveTheSameNormalForm is the third part of P9.
func TestDevelopmentsHaveTheSameNormalForm(t *testing.T) {
	compared, ended := 0, 0
	check := func(s machineState) {
		want, counts, code := impl.Normalize(s.b, s.c, 2000)
		if code != impl.OK {
			return
		}
		developed, _, code := impl.DevelopCore(s.b, s.c)
		if code != impl.OK {
			return
		}
		got, _, code := impl.Normalize(s.b, developed, 2000)
		if code == impl.OK {
			if !equalCores(got, want) {
				t.Errorf("%s: normal form %s, that of the development %s", s, impl.CoreText(want), impl.CoreText(got))
			}
			if counts[0]+counts[1]+counts[2]+counts[3] > 3 {
				compared++
			}
		}
		if got, n := developedToTheEnd(s); n >= 0 {
			if !equalCores(got, want) {
				t.Errorf("%s: normal form %s, by developments %s", s, impl.CoreText(want), impl.CoreText(got))
			}
			if n > 2 {
				ended++
			}
		}
	}
	for _, s := range randomStates(132, 5000) {
		check(s)
	}
	for _, c := range smallStates(5) {
		check(machineState{bookOf("^(#0 - 2)", "<0>"), c})
	}
	for n := range 60 {
		check(machineState{bookOf("^(#0 + #0)"), coreOf(withSteps(n))})
	}
	for _, c := range coresOf("(@0 0)", "(@0 1)", "(@0 5)", "<0 (@0 3) ^(@0 2)>") {
		check(machineState{factorials(), c})
	}
	for _, c := range coresOf("(@0 ((@3 1) 4))", "(@0 ((@6 ^(#0 * 2)) ((@3 1) 4)))", "((@6 @0) <1 <1 2 <0>> <1 ((@3 3) 5) <0>>>)") {
		check(machineState{lists(), c})
	}
	if compared < 800 || ended < 500 {
		t.Errorf("only %d compared, %d of them by developments alone", compared, ended)
	}
}
