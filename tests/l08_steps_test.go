package tests

import (
	"fmt"
	"math/rand"
	"slices"
	"strings"
	"testing"

	"loop.example/g01074/impl"
)

// stepBook has definitions of all kinds: functions, values, ones that are no values yet, and ones that stand for others.
func stepBook() impl.Book {
	return bookOf("^(#0 * 2)", "^^(#1 - #0)", "5", "<1 8 9>", "^^^<0 #2 #1 #0>", "@0", "(1 + 2)", "[4 1:@3]")
}

func checkStep(t *testing.T, s machineState, want impl.Core, wantKind, wantCode int64) {
	t.Helper()
	got, kind, code := impl.StepCore(s.b, s.c)
	if !equalCores(got, want) || kind != wantKind || code != wantCode {
		t.Errorf("%.500s: step %d to %.300s, code %d, want %d to %.300s, code %d", s, kind, impl.CoreText(got), code, wantKind, impl.CoreText(want), wantCode)
	}
	if normal := impl.IsNormal(s.b, s.c); normal != (wantCode == impl.ErrNotFound) {
		t.Errorf("%.500s: normal is %t", s, normal)
	}
}

// checkStated compares a step and a development with chapter 8 and tells the code of the step.
func checkStated(t *testing.T, s machineState) int64 {
	t.Helper()
	want, kind, code := stepAsStated(s.b, s.c)
	checkStep(t, s, want, kind, code)
	wantDeveloped, redexes, wantCode := developAsStated(s.b, s.c)
	checkDeveloped(t, s, wantDeveloped, redexes, wantCode)
	return code
}

// stepRow is a term, what it becomes by a step, and the kind of that.
type stepRow struct {
	from, to string
	kind     int64
}

// rowsOfRedexes has terms of which the root is a redex, for each row of the table.
func rowsOfRedexes() []stepRow {
	var list []stepRow
	for kind, rows := range map[int64][][2]string{
		impl.StBeta: {
			{"(^#0 1)", "1"}, {"(^7 1)", "7"}, {"(^#0 ^#0)", "^#0"}, {"(^(#0 #0) ^#0)", "(^#0 ^#0)"}, {"(^(#0 #0) ^(#0 #0))", "(^(#0 #0) ^(#0 #0))"}, {"(^^(#1 #0) 5)", "^(5 #0)"}, {"(^^(#0 #1) ^#0)", "^(#0 ^#0)"}, {"(^^^(#2 (#1 #0)) <0>)", "^^(<0> (#1 #0))"},
			{"(^@2 1)", "@2"}, {"(^#0 @2)", "@2"}, {"(^(#0 + #0) @2)", "(@2 + @2)"}, {"(^(#0 + #0) (1 + 2))", "((1 + 2) + (1 + 2))"}, {"(^(#0 + (1 + 2)) 3)", "(3 + (1 + 2))"}, {"(^<1 #0 7 #0> 5)", "<1 5 7 5>"}, {"(^[0 1:#0] <0>)", "[0 1:<0>]"}, {"(^{0 1:#0} 0)", "{0 1:0}"}, {"(^(^#0 #0) 1)", "(^#0 1)"}, {"(^5 (1 + 2))", "5"},
		},
		impl.StExpand: {
			{"(@0 1)", "(^(#0 * 2) 1)"}, {"(@2 1)", "(5 1)"}, {"(@5 1)", "(@0 1)"}, {"(@3 @2)", "(<1 8 9> @2)"}, {"(@6 (1 + 2))", "((1 + 2) (1 + 2))"}, {"(@7 ^#0)", "([4 1:@3] ^#0)"},
			{"(@2 + 1)", "(5 + 1)"}, {"(@2 - @6)", "(5 - @6)"}, {"(@6 * (1 + 2))", "((1 + 2) * (1 + 2))"}, {"(@0 / 1)", "(^(#0 * 2) / 1)"}, {"(@5 < ^#0)", "(@0 < ^#0)"}, {"(@7 = <0>)", "([4 1:@3] = <0>)"},
			{"(1 + @2)", "(1 + 5)"}, {"(0 - @6)", "(0 - (1 + 2))"}, {"(1 * @0)", "(1 * ^(#0 * 2))"}, {"(-1 / @3)", "(-1 / <1 8 9>)"}, {"(1 < @5)", "(1 < @0)"}, {"(1 = @7)", "(1 = [4 1:@3])"},
			{"[0 1:@3]", "[0 1:<1 8 9>]"}, {"[2:@2]", "[2:5]"}, {"[0 1 2 3:@7]", "[0 1 2 3:[4 1:@3]]"}, {"[6:@5]", "[6:@0]"}, {"{0 1:@2}", "{0 1:5}"}, {"{0 1:@3}", "{0 1:<1 8 9>}"}, {"{6 6:@6}", "{6 6:(1 + 2)}"}, {"{0 1:@5}", "{0 1:@0}"},
		},
		impl.StOperate: {
			{"(7 + 2)", "9"}, {"(7 - 2)", "5"}, {"(7 * 2)", "14"}, {"(7 / 2)", "3"}, {"(-7 / 2)", "-3"}, {"(5 / 0)", "0"}, {"(7 < 2)", "0"}, {"(2 < 7)", "1"}, {"(2 = 2)", "1"}, {"(2 = 7)", "0"}, {"(2147483647 + 1)", "-2147483648"}, {"(-2147483648 - 1)", "2147483647"}, {"(-2147483648 / -1)", "-2147483648"}, {"(65536 * 65536)", "0"}, {"(0 + 0)", "0"},
		},
		impl.StChoose: {
			{"[0 1:<0>]", "@0"}, {"[0 1:<1>]", "@1"}, {"[5:<0>]", "@5"}, {"[0 1 2 3:<3>]", "@3"}, {"[0 1 2:<2>]", "@2"}, {"[0:<0 7>]", "(@0 7)"}, {"[1 1:<1 7 8>]", "((@1 7) 8)"}, {"[4:<0 1 2 3>]", "(((@4 1) 2) 3)"}, {"[0 1 2 4:<3 7 8 9>]", "(((@4 7) 8) 9)"}, {"[0:<0 (1 + 2)>]", "(@0 (1 + 2))"}, {"[1:<0 @2 @6>]", "((@1 @2) @6)"}, {"[4:<0 ^#0 ^7 <0>>]", "(((@4 ^#0) ^7) <0>)"}, {"[1:<0 3>]", "(@1 3)"},
			{"{0 1:5}", "@0"}, {"{0 1:0}", "@1"}, {"{0 1:1}", "@0"}, {"{0 1:-1}", "@0"}, {"{7 2:-2147483648}", "@7"}, {"{7 2:0}", "@2"}, {"{3 3:0}", "@3"},
		},
	} {
		for _, row := range rows {
			list = append(list, stepRow{row[0], row[1], kind})
		}
	}
	slices.SortFunc(list, func(a, b stepRow) int { return strings.Compare(a.from, b.from) })
	return list
}

// TestRedexes has each row of the table, at the root and in places where there is no other redex.
func TestRedexes(t *testing.T) {
	places := []string{"?", "^?", "(? 1)", "(1 ?)", "(<0> ?)", "(? + 1)", "(1 = ?)", "(<0> - ?)", "(^#0 * ?)", "<0 ?>", "<3 ? 1 1>", "<2 1 ? 1>", "<1 1 1 ?>", "<0 @1 ^#0 ?>", "[3:?]", "[0 1 2 3:?]", "{0 1:?}", "[0:<1 ? 1>]", "[0 1:<2 1 ?>]", "^^(#1 ?)", "^(#0 + ?)", "^<0 #0 ?>"}
	for _, row := range rowsOfRedexes() {
		for _, place := range places {
			s := machineState{stepBook(), putInto(place, coreOf(row.from))}
			if want, kind, code := stepAsStated(s.b, s.c); !equalCores(want, putInto(place, coreOf(row.to))) || kind != row.kind || code != impl.OK {
				t.Fatalf("%s: the test is wrong", s)
			}
			checkStep(t, s, putInto(place, coreOf(row.to)), row.kind, impl.OK)
			checkStated(t, s)
		}
	}
	// Inside of functions, with their variables.
	for from, to := range map[string]string{
		"^(^(#0 #1) #0)": "^(#0 #0)", "^(^^(#1 #2) #0)": "^^(#1 #1)", "^(^^(#2 (#1 #0)) #0)": "^^(#1 (#1 #0))", "^^(^(#0 (#1 #2)) (#1 #0))": "^^((#1 #0) (#0 #1))", "^^(^^(#1 (#0 (#2 #3))) ^(#0 (#1 #2)))": "^^^(^(#0 (#2 #3)) (#0 (#1 #2)))", "^(^#1 5)": "^#0", "^(^#0 #0)": "^#0",
		"^(@0 #0)": "^(^(#0 * 2) #0)", "^(@2 + #0)": "^(5 + #0)", "^[1:<0 #0 7>]": "^((@1 #0) 7)", "^(#0 (2 + 3))": "^(#0 5)",
	} {
		s := machineState{stepBook(), coreOf(from)}
		_, kind, _ := stepAsStated(s.b, s.c)
		checkStep(t, s, coreOf(to), kind, impl.OK)
		checkStated(t, s)
	}
}

// TestNoRedexes has nodes that look like redexes.
func TestNoRedexes(t *testing.T) {
	for _, text := range []string{
		// A definition by itself, or where it is not needed.
		"@0", "@6", "^@0", "<0 @6 @2>", "(5 @6)", "(<0> @0)", "^(#0 @0)", "^(#0 @6)", "((1 2) @6)", "(<0> + @2)", "(^#0 + @6)", "^(#0 + @6)", "((5 1) + @2)", "[0:<1 @6>]",
		// Values and variables.
		"7", "0", "<0>", "<3 1 2 3>", "^#0", "^7", "^^(#1 #0)", "^(#0 #0)",
		// Applications of what is neither a function nor a definition.
		"(5 1)", "(<0> 1)", "(<0 ^#0> 1)", "((5 1) 2)", "([0:5] 1)", "({0 1:<0>} 1)", "((<0> + 1) 1)", "^(#0 1)", "^^((#1 #0) ^#0)",
		// Matches of what is neither a constructor nor a definition, or of one with a tag that is too large.
		"[0:5]", "[0 1:0]", "[0 1:^#0]", "^[0 1:#0]", "[0:[0:5]]", "[0:{0 1:<0>}]", "[0:(5 1)]", "[0:(<0> + 1)]", "[0:<1>]", "[0 1:<2>]", "[0 1:<3>]", "[0 1 2:<3 1 2 3>]", "[0 1 2:<3>]", "[0:<1 7 8>]", "[0:<3>]",
		// Tests of what is neither an integer nor a definition.
		"{0 1:<0>}", "{0 1:<1 2>}", "{0 1:^#0}", "^{0 1:#0}", "{0 1:(5 1)}", "{0 1:[0:5]}", "{0 1:{0 1:<0>}}", "{0 1:(<0> + 1)}",
		// Operations whose first operand is neither an integer nor a definition, or whose second one is neither behind an integer.
		"(<0> + 1)", "(^#0 + 1)", "^(#0 + 1)", "((5 1) + 2)", "([0:5] + 2)", "({0 1:<0>} + 2)", "((<0> + 1) + 2)", "(1 + ^#0)", "(1 + <0>)", "^(1 + #0)", "(1 + (5 1))", "(1 + [0:5])", "(1 + (<0> + 1))", "(0 = <0 1>)", "(1 / ^#0)", "(<0> + <0>)", "^^(#0 < #1)",
	} {
		s := machineState{stepBook(), coreOf(text)}
		if _, _, code := stepAsStated(s.b, s.c); code != impl.ErrNotFound {
			t.Fatalf("%s: the test is wrong", text)
		}
		checkStep(t, s, impl.Core{}, 0, impl.ErrNotFound)
		normal, counts, code := impl.Normalize(s.b, s.c, 0)
		if !equalCores(normal, s.c) || !slices.Equal(counts, make([]int64, 4)) || code != impl.OK {
			t.Errorf("%s: normal form %s with %d, code %d", text, impl.CoreText(normal), counts, code)
		}
		for _, place := range erasedPlaces() {
			checkStated(t, machineState{stepBook(), putInto(place, s.c)})
		}
	}
}

// TestLeftmostOutermost has terms with several redexes.
func TestLeftmostOutermost(t *testing.T) {
	for _, row := range []stepRow{
		// Around others.
		{"(^(2 + 3) (4 + 5))", "(2 + 3)", 1}, {"(^(#0 + #0) (^#0 1))", "((^#0 1) + (^#0 1))", 1}, {"(^(^#0 #0) (1 + 2))", "(^#0 (1 + 2))", 1}, {"(@0 (@0 (1 + 2)))", "(^(#0 * 2) (@0 (1 + 2)))", 4}, {"(@2 + (1 + 2))", "(5 + (1 + 2))", 4}, {"(@6 + @6)", "((1 + 2) + @6)", 4}, {"(1 + @6)", "(1 + (1 + 2))", 4}, {"[4:<0 (@0 1) (1 + 2) @6>]", "(((@4 (@0 1)) (1 + 2)) @6)", 3}, {"[0 4:@3]", "[0 4:<1 8 9>]", 4}, {"^(^(1 + 2) (3 + 4))", "^(1 + 2)", 1},
		// Beside others, in each pair of places.
		{"((^#0 1) + (^#0 2))", "(1 + (^#0 2))", 1}, {"((1 + 2) + (3 + 4))", "(3 + (3 + 4))", 2}, {"((1 + 2) + @2)", "(3 + @2)", 2}, {"((@0 1) = (@0 2))", "((^(#0 * 2) 1) = (@0 2))", 4}, {"(5 + (1 + 2))", "(5 + 3)", 2}, {"(<0> + (1 + 2))", "(<0> + 3)", 2}, {"((5 1) + (1 + 2))", "((5 1) + 3)", 2}, {"(1 + (2 + @2))", "(1 + (2 + 5))", 4},
		{"((^#0 ^#0) (1 + 2))", "(^#0 (1 + 2))", 1}, {"((5 (1 + 2)) (3 + 4))", "((5 3) (3 + 4))", 2}, {"((@5 1) (3 + 4))", "((@0 1) (3 + 4))", 4}, {"(5 (1 + 2))", "(5 3)", 2}, {"({0 1:0} (1 + 2))", "(@1 (1 + 2))", 3}, {"([0:<0>] {0 1:5})", "(@0 {0 1:5})", 3}, {"((1 2) (^#0 3))", "((1 2) 3)", 1},
		{"<0 5 (1 + 2) (3 + 4)>", "<0 5 3 (3 + 4)>", 2}, {"<0 (1 + 2) (3 + 4) (5 + 6)>", "<0 3 (3 + 4) (5 + 6)>", 2}, {"<0 @6 (3 + 4) (5 + 6)>", "<0 @6 7 (5 + 6)>", 2}, {"<0 ^(^#0 1) {0 1:5}>", "<0 ^1 {0 1:5}>", 1}, {"<1 <0 7 8> <0 7 (1 - 2)>>", "<1 <0 7 8> <0 7 -1>>", 2},
		// In the Kid of a match or a test, and in functions.
		{"[0:[0:<0 (1 + 2)>]]", "[0:(@0 (1 + 2))]", 3}, {"[0:<1 (1 + 2) (3 + 4)>]", "[0:<1 3 (3 + 4)>]", 2}, {"[0:(^<0 #0> (1 + 2))]", "[0:<0 (1 + 2)>]", 1}, {"[0:(1 + 2)]", "[0:3]", 2}, {"{0 1:(1 - 1)}", "{0 1:0}", 2}, {"{0 1:{2 6:0}}", "{0 1:@6}", 3}, {"{0 1:<0 (1 + 2)>}", "{0 1:<0 3>}", 2}, {"{0 1:(^#0 (1 + 2))}", "{0 1:(1 + 2)}", 1},
		{"^^((1 + 2) (3 + 4))", "^^(3 (3 + 4))", 2}, {"^(#0 (^(#0 #1) (1 + 2)))", "^(#0 ((1 + 2) #0))", 1}, {"(5 ^(1 + 2))", "(5 ^3)", 2}, {"^(#0 ^(#1 (@6 + #0)))", "^(#0 ^(#1 ((1 + 2) + #0)))", 4},
	} {
		s := machineState{stepBook(), coreOf(row.from)}
		if want, kind, code := stepAsStated(s.b, s.c); !equalCores(want, coreOf(row.to)) || kind != row.kind || code != impl.OK {
			t.Fatalf("%s: the test is wrong", s)
		}
		checkStep(t, s, coreOf(row.to), row.kind, impl.OK)
		for _, place := range erasedPlaces() {
			checkStated(t, machineState{stepBook(), putInto(place, s.c)})
		}
	}
}

// TestSeveralRedexes puts each row of the table before, behind, around and into each other one.
func TestSeveralRedexes(t *testing.T) {
	rows := rowsOfRedexes()
	for i, a := range rows {
		for k, b := range rows {
			if (i+k)%3 > 0 {
				continue
			}
			one, other := coreOf(a.from), coreOf(b.from)
			for _, c := range []impl.Core{pairOf(impl.CoApp, one, other), pairOf(impl.CoApp, under(1, one), other), {Kind: impl.CoOp, Value: impl.OpLess, Kids: []impl.Core{one, other}}, {Kind: impl.CoCon, Kids: []impl.Core{under(1, one), other}}, {Kind: impl.CoMat, Data: []int64{1}, Kids: []impl.Core{{Kind: impl.CoCon, Kids: []impl.Core{one, other}}}}} {
				checkStated(t, machineState{stepBook(), c})
			}
			nested := coreOf(a.from)
			last := nodesOfCore(nested) - 1
			*coreAt(&nested, last) = other
			checkStated(t, machineState{stepBook(), nested})
		}
	}
}

// TestStepsOfSmallStates has all terms of up to five nodes of some kinds.
func TestStepsOfSmallStates(t *testing.T) {
	b := bookOf("^(#0 - 2)", "<0>")
	codes := map[int64]int{}
	for _, c := range smallStates(5) {
		s := machineState{b, c}
		want, kind, code := stepAsStated(s.b, s.c)
		checkStep(t, s, want, kind, code)
		codes[code]++
	}
	if codes[impl.OK] < 3000 || codes[impl.ErrNotFound] < 3000 {
		t.Errorf("codes %v", codes)
	}
}

func TestStepsOfRandomStates(t *testing.T) {
	codes := map[int64]int{}
	kinds := map[int64]int{}
	for _, s := range randomStates(111, 4000) {
		codes[checkStated(t, s)]++
		_, kind, _ := impl.StepCore(s.b, s.c)
		kinds[kind]++
	}
	if codes[impl.OK] < 1500 || codes[impl.ErrNotFound] < 500 || kinds[1] < 150 || kinds[2] < 150 || kinds[3] < 150 || kinds[4] < 150 {
		t.Errorf("codes %v, kinds %v", codes, kinds)
	}
}

// TestStepsAtTheLimits has terms of which the next one has MaxCore nodes or the depth MaxCoreDepth, or one more, by each kind of step, at the root and inside.
func TestStepsAtTheLimits(t *testing.T) {
	def := func(c impl.Core) impl.Book { return impl.Book{Defs: []impl.Core{c, coreOf("^#0")}} }
	app := func(a, b impl.Core) impl.Core { return pairOf(impl.CoApp, a, b) }
	con := func(kids ...impl.Core) impl.Core { return impl.Core{Kind: impl.CoCon, Kids: kids} }
	small := bookOf("1", "^#0")
	for i, c := range []struct {
		b           impl.Book
		c           impl.Core
		kind        int64
		size, depth int
	}{
		{small, app(coreOf("^(#0 #0)"), sizedErased(199)), 1, 399, -1},
		{small, app(coreOf("^(#0 ^#1)"), sizedErased(199)), 1, 400, -1},
		{small, app(coreOf("^(#0 #0)"), sizedErased(200)), 1, 401, -1},
		{small, app(coreOf("^(#0 ^^#2)"), sizedErased(199)), 1, 401, -1},
		{small, app(coreOf("^<0 #0 #0 #0>"), sizedErased(133)), 1, 400, -1},
		{small, app(coreOf("^<0 #0 #0 ^#1>"), sizedErased(133)), 1, 401, -1},
		{small, app(coreOf("^7"), sizedErased(396)), 1, 1, 1},
		{small, app(under(1, pillar(40, "#0")), pillar(41, "2")), 1, 80, 80},
		{small, app(under(1, pillar(41, "#0")), pillar(41, "2")), 1, 81, 81},
		{small, app(under(1, pillar(78, "#0")), pillar(79, "2")), 1, 156, 156},
		{small, app(under(1, pillar(78, "#0")), pillar(3, "2")), 1, 80, 80},
		{small, app(under(1, pillar(78, "#0")), pillar(4, "2")), 1, 81, 81},
		{small, con(sizedErased(199), app(coreOf("^(#0 #0)"), sizedErased(99))), 1, 399, -1},
		{small, con(sizedErased(200), app(coreOf("^(#0 #0)"), sizedErased(99))), 1, 400, -1},
		{small, con(sizedErased(201), app(coreOf("^(#0 #0)"), sizedErased(99))), 1, 401, -1},
		{small, con(app(coreOf("^(#0 #0)"), sizedErased(99)), sizedErased(200)), 1, 400, -1},
		{small, con(app(coreOf("^(#0 #0)"), sizedErased(99)), sizedErased(201)), 1, 401, -1},
		{small, nestedCore(40, "^?", app(under(1, pillar(20, "#0")), pillar(21, "#7"))), 1, 80, 80},
		{small, nestedCore(40, "^?", app(under(1, pillar(21, "#0")), pillar(21, "#7"))), 1, 81, 81},
		{def(sizedErased(398)), coreOf("(@0 1)"), 4, 400, -1},
		{def(sizedErased(399)), coreOf("(@0 1)"), 4, 401, -1},
		{def(sizedErased(200)), app(coreOf("@0"), sizedErased(199)), 4, 400, -1},
		{def(sizedErased(200)), app(coreOf("@0"), sizedErased(200)), 4, 401, -1},
		{def(sizedErased(398)), coreOf("(@0 + 1)"), 4, 400, -1},
		{def(sizedErased(399)), coreOf("(@0 + 1)"), 4, 401, -1},
		{def(sizedErased(398)), coreOf("(1 + @0)"), 4, 400, -1},
		{def(sizedErased(399)), coreOf("(1 + @0)"), 4, 401, -1},
		{def(sizedErased(399)), coreOf("[0:@0]"), 4, 400, -1},
		{def(sizedErased(400)), coreOf("[0:@0]"), 4, 401, -1},
		{def(sizedErased(399)), coreOf("{0 1:@0}"), 4, 400, -1},
		{def(sizedErased(400)), coreOf("{0 1:@0}"), 4, 401, -1},
		{def(pillar(79, "1")), coreOf("(@0 1)"), 4, 81, 80},
		{def(pillar(80, "1")), coreOf("(@0 1)"), 4, 82, 81},
		{def(pillar(80, "1")), coreOf("(@0 + 1)"), 4, 82, 81},
		{def(pillar(79, "1")), coreOf("(1 + @0)"), 4, 81, 80},
		{def(pillar(80, "1")), coreOf("(1 + @0)"), 4, 82, 81},
		{def(pillar(80, "1")), coreOf("[0:@0]"), 4, 81, 81},
		{def(pillar(79, "1")), coreOf("{0 1:@0}"), 4, 80, 80},
		{def(pillar(80, "1")), coreOf("{0 1:@0}"), 4, 81, 81},
		{def(pillar(39, "1")), nestedCore(40, "^?", coreOf("(@0 1)")), 4, 81, 80},
		{def(pillar(40, "1")), nestedCore(40, "^?", coreOf("(@0 1)")), 4, 82, 81},
		{small, putInto("[0:?]", con(sizedErased(398))), 3, 400, -1},
		{small, putInto("[0:?]", con(sizedErased(199), sizedErased(198))), 3, 400, -1},
		{small, putInto("[0:?]", con(sizedErased(199), sizedErased(199))), 3, 401, -1},
		{small, putInto("[0:?]", con(sizedErased(132), sizedErased(132), sizedErased(132))), 3, 400, -1},
		{small, putInto("[0:?]", con(sizedErased(133), sizedErased(132), sizedErased(132))), 3, 401, -1},
		{small, putInto("[0:?]", con(sizedErased(133), sizedErased(133), sizedErased(132))), 3, 402, -1},
		{small, putInto("[0:?]", con(coreOf("1"), coreOf("1"), pillar(78, "1"))), 3, -1, 79},
		{small, putInto("[0:?]", con(coreOf("1"), pillar(78, "1"), coreOf("1"))), 3, -1, 80},
		{small, putInto("[0:?]", con(pillar(77, "1"), coreOf("1"), coreOf("1"))), 3, -1, 80},
		{small, putInto("[0:?]", con(pillar(78, "1"), coreOf("1"), coreOf("1"))), 3, -1, 81},
		{small, putInto("[0:?]", con(pillar(78, "1"), coreOf("1"))), 3, -1, 80},
		{small, putInto("(? 1)", putInto("[0:?]", con(pillar(77, "1"), coreOf("1")))), 3, -1, 80},
		{small, nestedCore(78, "<0 ?>", coreOf("(1 + 2)")), 2, 79, 79},
		{small, nestedCore(78, "^?", coreOf("{0 1:3}")), 3, 79, 79},
	} {
		want, code := int64(impl.OK), int64(0)
		if c.size > 400 || c.depth > 80 {
			want = impl.ErrFull
		}
		s := machineState{c.b, c.c}
		e := &evaluation{defs: c.b.Defs}
		named := e.named(c.c)
		next, kind := e.contractedAt(named, redexesIn(named)[0])
		if code = checkStated(t, s); code != want || !isState(c.b, c.c) || kind != c.kind || c.size > 0 && next.nodes() != c.size || c.depth > 0 && next.depth() != c.depth {
			t.Fatalf("%d: the test is wrong: %d nodes and depth %d by a step %d, code %d", i, next.nodes(), next.depth(), kind, code)
		}
	}
}

// TestIndicesOfStates: an index in a closed term is less than its depth, so that no next term has an index that is too great without being too deep.
func TestIndicesOfStates(t *testing.T) {
	small := bookOf("1", "^#0")
	for i, c := range []struct {
		c     impl.Core
		index int64
		code  int64
	}{
		{under(77, coreOf("(^#1 1)")), 0, impl.OK},
		{under(76, coreOf("(^^#77 1)")), 76, impl.OK},
		{under(76, coreOf("(^^#1 #75)")), 76, impl.OK},
		{under(40, pairOf(impl.CoApp, under(38, coreOf("#37")), coreOf("#39"))), 76, impl.OK},
		{under(1, pairOf(impl.CoApp, under(77, coreOf("#76")), under(77, coreOf("#77")))), 153, impl.ErrFull},
	} {
		s := machineState{small, c.c}
		e := &evaluation{defs: small.Defs}
		next, _ := e.contractedAt(e.named(c.c), redexesIn(nameCore(c.c))[0])
		if code := checkStated(t, s); code != c.code || greatestIndex(next.unnamed()) != c.index {
			t.Fatalf("%d: the test is wrong: index %d, code %d", i, greatestIndex(next.unnamed()), code)
		}
	}
}

// noStates are books and terms that are no machine states, each for one reason, or for several ones.
func noStates() []machineState {
	var list []machineState
	good := stepBook()
	terms := coresOf("7", "(@0 1)", "((1 + 2) + @2)", "@7", "^#0")
	for _, c := range terms {
		for _, text := range []string{"#0", "^#1", "!7", "^!#0", "(let 1 in #0)", "(let 1 in 2)", "<0 !1>", "@8", "[8:1]", "?"} {
			for _, at := range []int{0, 3, 7} {
				b := stepBook()
				b.Defs[at] = coreOf(text)
				list = append(list, machineState{b, c})
			}
		}
		list = append(list, machineState{c: c}, machineState{impl.Book{Defs: append(numbers(24), coreOf("7"))}, c}, machineState{impl.Book{Defs: slices.Repeat(stepBook().Defs, 4)}, c}, machineState{bookWith(3, 1, sizedErased(401)), c}, machineState{bookWith(3, 1, pillar(81, "1")), c})
		if impl.CoreText(c) != "7" && impl.CoreText(c) != "^#0" {
			list = append(list, machineState{bookOf("7", "^#0"), coreOf("@2")}, machineState{impl.Book{Defs: []impl.Core{}}, c})
		}
	}
	for _, text := range []string{"#0", "^#1", "(^#0 #0)", "(1 + #3)", "!7", "^!#0", "(let 1 in #0)", "(let 1 in 2)", "((1 + 2) !3)", "(let (1 + 2) in 3)", "@8", "@23", "(@8 1)", "(1 + @8)", "[8:1]", "[0 8:<0>]", "[0 1 2 8:1]", "{8 0:1}", "{0 8:1}", "<0 1 @8>", "^(#0 [0 1 23:1])", "((1 + 2) @8)", "?", "<4>", "((1 + 2) ?)", "#256", "@24", "(1 + @-1)"} {
		list = append(list, machineState{good, coreOf(text)})
	}
	for _, c := range []impl.Core{sizedErased(401), pillar(81, "1"), putInto("(? 1)", sizedErased(399))} {
		list = append(list, machineState{good, c})
	}
	for _, c := range append(brokenCores()[:40], endlessCores()...) {
		list = append(list, machineState{good, c}, machineState{impl.Book{Defs: []impl.Core{coreOf("^#0"), c}}, coreOf("(@0 1)")}, machineState{impl.Book{Defs: []impl.Core{c}}, c})
	}
	return list
}

// TestNoStates has no result for what is no machine state, whatever the budget is.
func TestNoStates(t *testing.T) {
	for i, s := range noStates() {
		c, kind, code := impl.StepCore(s.b, s.c)
		if !isNoCore(c, code, impl.ErrInvalid) || kind != 0 || impl.IsNormal(s.b, s.c) {
			t.Errorf("%d: step %d, code %d, normal is %t", i, kind, code, impl.IsNormal(s.b, s.c))
		}
		c, redexes, code := impl.DevelopCore(s.b, s.c)
		if !isNoCore(c, code, impl.ErrInvalid) || redexes != 0 {
			t.Errorf("%d: %d redexes, code %d", i, redexes, code)
		}
		for _, budget := range []int64{-1, 0, 1, 2000, 2001} {
			if c, counts, code := impl.Normalize(s.b, s.c, budget); !isNoCore(c, code, impl.ErrInvalid) || len(counts) > 0 {
				t.Errorf("%d with the budget %d: counts %d, code %d", i, budget, counts, code)
			}
		}
	}
	// The last definition of a book can be named, and all of MaxBook can be.
	for length := 1; length <= 24; length++ {
		for def := range 24 {
			for _, text := range []string{"@#", "<0 @#>", "[#:5]", "{0 #:<0>}"} {
				s := machineState{impl.Book{Defs: numbers(length)}, coreOf(strings.ReplaceAll(text, "#", fmt.Sprint(def)))}
				if impl.IsNormal(s.b, s.c) != (def < length) {
					t.Errorf("%s: normal is %t", s, def >= length)
				}
				checkStated(t, s)
			}
		}
	}
	random := rand.New(rand.NewSource(112))
	for _, s := range randomStates(113, 300) {
		// A state with one node that is not allowed, anywhere.
		s.c = roomyCore(s.c)
		*coreAt(&s.c, random.Intn(nodesOfCore(s.c))) = coresOf("!7", "(let 1 in #0)", "@4", "#200", "?", "[0 4:1]")[random.Intn(6)]
		checkStep(t, s, impl.Core{}, 0, impl.ErrInvalid)
	}
}
