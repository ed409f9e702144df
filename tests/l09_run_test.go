package tests

import (
	"math"
	"math/rand"
	"slices"
	"strings"
	"testing"

	"loop.example/g01074/impl"
)

func checkRunNeed(t *testing.T, s needState, budget int64, want impl.Need, wantCounts []int64, wantCode int64) {
	t.Helper()
	got, counts, code := impl.RunNeed(s.b, s.m, budget)
	if !equalNeeds(got, want) || !slices.Equal(counts, wantCounts) || code != wantCode {
		t.Errorf("%.500s with the budget %d: %.300s with %d, code %d, want %.300s with %d, code %d", s, budget, needText(got), counts, code, needText(want), wantCounts, wantCode)
	}
}

// checkNeedRun compares RunNeed with single steps, of which it makes at most so many, for budgets around their number. It tells the number and the code of the step behind them.
func checkNeedRun(t *testing.T, s needState, most int64) (int64, int64) {
	t.Helper()
	counts := make([]int64, 9)
	last, steps, code := s.m, int64(0), int64(impl.OK)
	for steps <= most {
		next, kind, stepCode := impl.StepNeed(s.b, last)
		if impl.IsFinished(s.b, last) != (stepCode == impl.ErrNotFound) {
			t.Errorf("%.500s: %.300s is finished, code %d", s, needText(last), stepCode)
		}
		if code = stepCode; code != impl.OK {
			break
		}
		last = next
		counts[kind]++
		steps++
	}
	for _, budget := range []int64{-1, 0, 1, steps / 2, steps - 1, steps, steps + 1, 20000, 20001, math.MinInt64, math.MaxInt64, 1 << 32, -1 << 32} {
		switch {
		case budget < 0 || budget > 20000:
			checkRunNeed(t, s, budget, impl.Need{}, nil, impl.ErrRange)
		case budget >= steps && code == impl.ErrNotFound:
			checkRunNeed(t, s, budget, last, counts[4:8], impl.OK)
		case code == impl.OK && budget > steps:
			// The end is not known.
		case budget > steps:
			checkRunNeed(t, s, budget, impl.Need{}, nil, code)
		default:
			checkRunNeed(t, s, budget, impl.Need{}, nil, impl.ErrBudget)
		}
	}
	return steps, code
}

// TestExampleOfRuns has the example of the section "RunNeed".
func TestExampleOfRuns(t *testing.T) {
	b := bookOf("^(#0 + #0)")
	m, _ := impl.StartNeed(b, coreOf("(@0 (2 * 3))"))
	s := needState{b, m}
	if steps, code := checkNeedRun(t, s, 20000); steps != 12 || code != impl.ErrNotFound {
		t.Errorf("%d transitions, code %d", steps, code)
	}
	end := needOf("12 | | =6")
	checkRunNeed(t, s, 12, end, []int64{1, 2, 0, 1}, impl.OK)
	checkRunNeed(t, s, 11, impl.Need{}, nil, impl.ErrBudget)
	// What is finished needs no transition.
	for _, budget := range []int64{0, 1, 20000} {
		checkRunNeed(t, needState{b, end}, budget, end, []int64{0, 0, 0, 0}, impl.OK)
	}
}

// TestRunsOfNeeds begins in the middle, with frames and cells.
func TestRunsOfNeeds(t *testing.T) {
	for _, row := range []struct {
		from, to string
		steps    int64
		counts   []int64
	}{
		{"5 | update 0 | (2 + 3)", "5 | | =5", 1, []int64{0, 0, 0, 0}},
		{"#0 at 0 | | =5", "5 | | =5", 1, []int64{0, 0, 0, 0}},
		{"#0 at 0 | | 5", "5 | | =5", 2, []int64{0, 0, 0, 0}},
		{"#0 at 1 | | (1 + 2); #0 at 0", "3 | | =3; =3", 7, []int64{0, 1, 0, 0}},
		{"1 | swi 3 1 | 9", "<1 #0 #1> at 1 2 | | 9; @1; @3", 3, []int64{0, 0, 1, 1}},
		{"0 | op + (#0 - 1) at 0; swi 3 1 | =8", "14 | | =8", 8, []int64{0, 2, 1, 1}},
		{"<1> | arg 0; mat 0 2 | 5", "^(#0 #1) at 0 | | 5", 3, []int64{1, 0, 1, 1}},
		{"<0 #0> at 0 | mat 0 | (1 * 2)", "4 | | =2", 12, []int64{1, 2, 1, 1}},
		{"<0 #0 #1> at 0 1 | mat 2 | 3; ^(#0 * #0)", "9 | | =3; =^(#0 * #0)", 14, []int64{3, 1, 1, 1}},
	} {
		s := needState{moveBook(), needOf(row.from)}
		to, counts, code := runNeedAsStated(s.b, s.m, 20000)
		if !equalNeeds(to, needOf(row.to)) || code != impl.OK {
			t.Fatalf("%s: the test is wrong: %s with %d, code %d", row.from, needText(to), counts, code)
		}
		steps, _ := checkNeedRun(t, s, 100)
		if steps != row.steps {
			t.Errorf("%s: %d transitions", row.from, steps)
		}
		checkRunNeed(t, s, steps, needOf(row.to), row.counts, impl.OK)
	}
}

func TestRunsOfManyNeeds(t *testing.T) {
	codes := map[string]int{}
	for _, s := range slices.Concat(randomNeeds(241, 1500), runningNeeds(242, 1500)) {
		steps, code := checkNeedRun(t, s, 100)
		for _, budget := range []int64{-1, 0, 1, steps, steps + 1, 300, 20001} {
			want, counts, wantCode := runNeedAsStated(s.b, s.m, budget)
			checkRunNeed(t, s, budget, want, counts, wantCode)
		}
		if steps > 3 {
			codes[impl.CodeName(code)]++
		}
	}
	if codes["notfound"] < 30 || codes["state"] < 150 || codes["ok"] < 50 {
		t.Errorf("only %v", codes)
	}
}

// TestRunsWithoutEnd has machines that go on for ever or come to a limit of the heap or of the stack.
func TestRunsWithoutEnd(t *testing.T) {
	b := bookOf("@0", "(1 + @1)", "^(@2 (#0 + 1))", "(@3 5)", "^(#0 #0)", "[5:@5]", "{6 6:@6}")
	for text, code := range map[string]int64{"@0 | | ": impl.ErrBudget, "@1 | | ": impl.ErrFull, "(@2 1) | | ": impl.ErrFull, "@3 | | ": impl.ErrFull, "(@4 @4) | | ": impl.ErrBudget, "@5 | | ": impl.ErrFull, "@6 | | ": impl.ErrFull, "#0 at 0 | | #0 at 0": impl.ErrFull, "#0 at 0 | | #0 at 1; #0 at 0": impl.ErrFull, "#0 at 0 | | (#0 + 1) at 0": impl.ErrFull} {
		s := needState{b, needOf(text)}
		if _, _, got := runNeedAsStated(s.b, s.m, 20000); got != code {
			t.Fatalf("%s: the test is wrong: code %d", text, got)
		}
		checkRunNeed(t, s, 20000, impl.Need{}, nil, code)
		most := int64(100)
		if code == impl.ErrFull {
			most = 1300
		}
		steps, last := checkNeedRun(t, s, most)
		if code == impl.ErrFull && last != code && text != "(@2 1) | | " || code == impl.ErrBudget && steps <= most {
			t.Errorf("%s: code %d behind %d steps", text, last, steps)
		}
	}
}

// countdown has a function as the definition 0 that makes 14 transitions and a new cell for each number from its argument down to 1, and comes to 7.
func countdown() impl.Book { return bookOf("^({1 2:#0} #0)", "^(@0 (#0 - 1))", "^7") }

// countdownSteps is a term in that book that takes so many transitions. A sum takes 3 of its own, and a function with its argument 4.
func countdownSteps(steps int) impl.Core {
	n := (steps - 40) / 14
	c := pairOf(impl.CoApp, coreOf("@0"), impl.Core{Kind: impl.CoNum, Value: int64(n)})
	r := needRunning{b: countdown(), budget: 30000}
	if _, code := r.toTheEnd(impl.Need{Control: impl.Closure{Term: c}}); code != impl.OK {
		panic(impl.CodeName(code))
	}
	left := steps - int(r.all())
	for left%3 != 0 {
		c = putInto("(^#0 ?)", c)
		left -= 4
	}
	return nestedCore(left/3, "(? + 0)", c)
}

// TestRunNeedAtMaxNeedSteps has machines that take MaxNeedSteps transitions, one less and one more.
func TestRunNeedAtMaxNeedSteps(t *testing.T) {
	for _, steps := range []int{100, 1000, 19998, 19999, 20000, 20001, 20002} {
		b, c := countdown(), countdownSteps(steps)
		m, _ := impl.StartNeed(b, c)
		s := needState{b, m}
		want, counts, code := runNeedAsStated(b, m, 20000)
		if (code == impl.OK) != (steps <= 20000) || code != impl.OK && code != impl.ErrBudget {
			t.Fatalf("%d: the test is wrong: code %d", steps, code)
		}
		checkRunNeed(t, s, 20000, want, counts, code)
		checkRunNeed(t, s, int64(steps)-1, impl.Need{}, nil, []int64{impl.ErrBudget, impl.ErrRange}[max(0, min(1, steps-20001))])
		if steps <= 20000 {
			checkRunNeed(t, s, int64(steps), want, counts, code)
			checkNeedValue(t, b, c, int64(steps), want.Control.Term, counts, impl.OK)
		}
		checkNeedValue(t, b, c, min(int64(steps), 20001)-1, impl.Core{}, nil, impl.ErrBudget)
	}
}

func checkNeedValue(t *testing.T, b impl.Book, c impl.Core, budget int64, want impl.Core, wantCounts []int64, wantCode int64) {
	t.Helper()
	got, counts, code := impl.NeedValue(b, c, budget)
	if !equalCores(got, want) || !slices.Equal(counts, wantCounts) || code != wantCode {
		t.Errorf("%.500s in %.500q with the budget %d: %.300s with %d, code %d, want %.300s with %d, code %d", impl.CoreText(c), coreTexts(b.Defs), budget, impl.CoreText(got), counts, code, impl.CoreText(want), wantCounts, wantCode)
	}
}

// checkNeedValueAsStated compares values with chapter 9 for budgets around the number of transitions, of which it makes at most so many. It tells the code for this budget.
func checkNeedValueAsStated(t *testing.T, b impl.Book, c impl.Core, most int64) int64 {
	t.Helper()
	value, counts, steps, code := wholeAsStated(b, c, most)
	if steps < most {
		checkNeedValue(t, b, c, 20000, value, counts, code)
	}
	for _, budget := range []int64{-1, 0, 1, steps / 2, steps - 1, steps, min(steps+1, most), 20001, math.MinInt64, math.MaxInt64} {
		want, counts, wantCode := needValueAsStated(b, c, budget)
		checkNeedValue(t, b, c, budget, want, counts, wantCode)
	}
	return code
}

// wholeAsStated is the result of NeedValue for a machine state, with the number of transitions up to it.
func wholeAsStated(b impl.Book, c impl.Core, budget int64) (impl.Core, []int64, int64, int64) {
	r := needRunning{b: b, budget: budget}
	value, _, code := r.whole(impl.Need{Control: impl.Closure{Term: c}}, 1)
	if code != impl.OK {
		return impl.Core{}, nil, r.all(), code
	}
	return value, r.work(), r.all(), impl.OK
}

// TestNeedValue has values with the work for them, where it can be followed by hand.
func TestNeedValue(t *testing.T) {
	for _, table := range []struct {
		b    impl.Book
		rows []normalRow
	}{
		{moveBook(), []normalRow{
			{"5", "5", []int64{0, 0, 0, 0}}, {"@1", "7", []int64{0, 0, 0, 1}}, {"<3>", "<3>", []int64{0, 0, 0, 0}}, {"(1 + 2)", "3", []int64{0, 1, 0, 0}}, {"{0 1:0}", "7", []int64{0, 0, 1, 1}},
			// Fields inside fields.
			{"<0 @1 <1 2> (1 + 2)>", "<0 7 <1 2> 3>", []int64{0, 1, 0, 1}}, {"<1 <2 <3 (2 * 2)> @1> <0>>", "<1 <2 <3 4> 7> <0>>", []int64{0, 1, 0, 1}}, {"(^<0 <1 #0> (#0 + 1)> 4)", "<0 <1 4> 5>", []int64{1, 1, 0, 0}},
			// What several places share is evaluated once.
			{"(^<0 #0 #0> (@0 4))", "<0 8 8>", []int64{2, 1, 0, 1}}, {"(^<0 #0 <1 #0 #0>> (@0 4))", "<0 8 <1 8 8>>", []int64{2, 1, 0, 1}}, {"(^<0 (#0 + 1) (#0 + 1)> (@0 4))", "<0 9 9>", []int64{2, 3, 0, 1}}, {"(^<0 #0 #0> <1 (1 + 2) @1>)", "<0 <1 3 7> <1 3 7>>", []int64{1, 1, 0, 1}}, {"((^^<0 #0 #1 #0> (1 + 2)) (3 * 4))", "<0 12 3 12>", []int64{2, 2, 0, 0}}, {"(^(#0 + (#0 + #0)) (1 + 2))", "9", []int64{1, 3, 0, 0}}, {"(^(^(#0 + #0) #0) (1 + 2))", "6", []int64{2, 2, 0, 0}},
			// A number has no fields, whatever its environment is.
			{"(^7 5)", "7", []int64{1, 0, 0, 0}}, {"(^<0 (^7 #0) #0> <1>)", "<0 7 <1>>", []int64{2, 0, 0, 0}}, {"((^^5 @1) <0>)", "5", []int64{2, 0, 0, 0}},
			// What is not needed is not evaluated.
			{"((^^#1 5) (1 2))", "5", []int64{2, 0, 0, 0}}, {"((^^<0 #1> 5) @3)", "<0 5>", []int64{2, 0, 0, 0}},
		}},
		{factorials(), []normalRow{{"(@0 0)", "1", []int64{2, 0, 1, 2}}, {"(@0 1)", "1", []int64{4, 2, 2, 4}}, {"(@0 5)", "120", []int64{12, 10, 6, 12}}, {"(@0 6)", "720", []int64{14, 12, 7, 14}}, {"<2 (@0 3) (@0 2)>", "<2 6 2>", []int64{14, 10, 7, 14}}, {"(^<0 #0 #0> (@0 5))", "<0 120 120>", []int64{13, 10, 6, 12}}}},
		{lists(), []normalRow{{"(@0 <0>)", "0", []int64{1, 0, 1, 2}}, {"(@0 <1 4 <1 5 <0>>>)", "9", []int64{7, 2, 3, 6}}, {"(@0 ((@3 1) 4))", "10", nil}, {"((@6 ^(#0 * #0)) ((@3 1) 3))", "<1 1 <1 4 <1 9 <0>>>>", nil}, {"(@0 ((@6 ^(#0 * 2)) ((@3 1) 4)))", "20", nil}}},
	} {
		for _, row := range table.rows {
			c := coreOf(row.from)
			text, counts := needfulValue(table.b, c)
			if text != row.to || row.counts != nil && !slices.Equal(counts, row.counts) {
				t.Fatalf("%s: the test is wrong: %s with %d", row.from, text, counts)
			}
			checkNeedValue(t, table.b, c, 20000, coreOf(row.to), counts, impl.OK)
			if code := checkNeedValueAsStated(t, table.b, c, 20000); code != impl.OK {
				t.Errorf("%s: code %d", row.from, code)
			}
		}
	}
}

// TestValuesThatAreNone has functions, what is stuck and what has no end, at the root and in fields, of which the first one decides.
func TestValuesThatAreNone(t *testing.T) {
	b := bookOf("^(#0 + #0)", "@1", "<1 5 @2>", "(1 + @3)")
	for text, code := range map[string]int64{"^#0": impl.ErrState, "@0": impl.ErrState, "(^^#1 5)": impl.ErrState, "(1 2)": impl.ErrState, "(^#0 + 1)": impl.ErrState, "[0:<1>]": impl.ErrState, "[0 0:5]": impl.ErrState, "{0 0:<0>}": impl.ErrState, "(<0> 1)": impl.ErrState, "@1": impl.ErrBudget, "@2": impl.ErrFull, "@3": impl.ErrFull} {
		c := coreOf(text)
		checkNeedValue(t, b, c, 20000, impl.Core{}, nil, code)
		if got := checkNeedValueAsStated(t, b, c, 20000); got != code {
			t.Errorf("%s: code %d", text, got)
		}
		for _, place := range []string{"<0 ?>", "<1 (1 + 2) ?>", "<1 <2 4 ?> 5>", "<0 1 2 ?>", "(^<0 #0 #0> ?)", "<0 (^<1 #0> ?)>"} {
			checkNeedValue(t, b, putInto(place, c), 20000, impl.Core{}, nil, code)
		}
		for _, other := range coresOf("^#0", "(1 2)", "@1", "@2", "@3") {
			checkNeedValue(t, b, pairOf(impl.CoCon, c, other), 20000, impl.Core{}, nil, code)
			checkNeedValue(t, b, impl.Core{Kind: impl.CoCon, Kids: []impl.Core{coreOf("<0 3>"), pairOf(impl.CoCon, coreOf("7"), c), other}}, 20000, impl.Core{}, nil, code)
		}
	}
}

// TestBudgetsOfFields ends the budget in each of several fields.
func TestBudgetsOfFields(t *testing.T) {
	b := bookOf("^(#0 + #0)")
	for _, text := range []string{"<0 (1 + 2) (@0 4) <1 (2 * 3) 5>>", "<2>", "<0 1>", "<0 <1 <2 <3>>>>", "(^<0 #0 <1 #0 #0>> (@0 4))"} {
		c := coreOf(text)
		value, counts, steps, _ := wholeAsStated(b, c, 20000)
		for budget := range steps {
			checkNeedValue(t, b, c, budget, impl.Core{}, nil, impl.ErrBudget)
		}
		checkNeedValue(t, b, c, steps, value, counts, impl.OK)
	}
	// Two fields of a constructor take 5 transitions: to build it, and to enter and to update each of them.
	checkNeedValue(t, b, coreOf("<0 1 2>"), 5, coreOf("<0 1 2>"), []int64{0, 0, 0, 0}, impl.OK)
	checkNeedValue(t, b, coreOf("<0 1 2>"), 4, impl.Core{}, nil, impl.ErrBudget)
	// One field at two places takes 5 transitions as well, of which the last one enters a cell that is Done.
	checkNeedValue(t, b, coreOf("(^<0 #0 #0> 1)"), 6, coreOf("<0 1 1>"), []int64{1, 0, 0, 0}, impl.OK)
	checkNeedValue(t, b, coreOf("(^<0 #0 #0> 1)"), 5, impl.Core{}, nil, impl.ErrBudget)
}

// conTree has n nodes and is as flat as constructors can be.
func conTree(n int) impl.Core {
	if n == 1 {
		return coreOf("7")
	}
	c := impl.Core{Kind: impl.CoCon, Value: int64(n % 4)}
	left := n - 1
	for k := 3; k > 0 && left > 0; k-- {
		size := (left + k - 1) / k
		c.Kids = append(c.Kids, conTree(size))
		left -= size
	}
	return c
}

// TestSizesOfValues has values that need MaxCore evaluations, one less and one more.
func TestSizesOfValues(t *testing.T) {
	for _, sizes := range [][2]int{{1, 1}, {200, 198}, {199, 200}, {200, 200}, {1, 398}, {1, 399}, {398, 1}, {399, 1}, {400, 1}, {400, 400}} {
		b := impl.Book{Defs: []impl.Core{conTree(sizes[0]), conTree(sizes[1]), coreOf("@2")}}
		checkNeedValueAsStated(t, b, b.Defs[0], 20000)
		c := coreOf("<0 @0 @1>")
		if nodes := 1 + sizes[0] + sizes[1]; nodes <= 400 {
			checkNeedValue(t, b, c, 20000, pairOf(impl.CoCon, b.Defs[0], b.Defs[1]), []int64{0, 0, 0, 2}, impl.OK)
		} else {
			checkNeedValue(t, b, c, 20000, impl.Core{}, nil, impl.ErrFull)
		}
		checkNeedValueAsStated(t, b, c, 3000)
	}
	// The evaluation too many is that of something that is no value, that has no end or for which no budget is left.
	for _, text := range []string{"@1", "(1 2)", "^#0", "5"} {
		b := impl.Book{Defs: []impl.Core{conTree(399), coreOf("@1")}}
		c := putInto("<0 @0 ?>", coreOf(text))
		_, _, steps, code := wholeAsStated(b, c, 20000)
		if code != impl.ErrFull {
			t.Fatalf("%s: the test is wrong: code %d", text, code)
		}
		checkNeedValue(t, b, c, steps, impl.Core{}, nil, impl.ErrFull)
		checkNeedValue(t, b, c, steps-1, impl.Core{}, nil, impl.ErrBudget)
		checkNeedValue(t, b, c, 20000, impl.Core{}, nil, impl.ErrFull)
		b.Defs[0] = conTree(398)
		checkNeedValueAsStated(t, b, c, 3000)
	}
}

// TestDepthsOfValues has values of the depth MaxCoreDepth and of one more.
func TestDepthsOfValues(t *testing.T) {
	for _, depth := range []int{1, 2, 78, 79, 80} {
		for _, end := range []string{"1", "<3>", "<0 1>", "^#0", "(1 2)", "@1", "(1 + 2)", "@2"} {
			b := impl.Book{Defs: coresOf(end, "@1", "7")}
			code := checkNeedValueAsStated(t, b, pillar(depth, "@0"), 2000)
			value := map[string]string{"1": "1", "<3>": "<3>", "<0 1>": "<0 1>", "(1 + 2)": "3", "@2": "7"}[end]
			switch {
			case end == "@1" && code != impl.ErrBudget, (end == "^#0" || end == "(1 2)") && code != impl.ErrState, value != "" && (code == impl.OK) != (depth+depthOfCore(coreOf(value))-1 <= 80), code == impl.ErrFull && end != "<0 1>":
				t.Errorf("depth %d with %s: code %d", depth, end, code)
			}
		}
	}
	// At the depth that is too great it does not matter what there is.
	for _, end := range []string{"1", "^#0", "(1 2)", "@1"} {
		b := impl.Book{Defs: []impl.Core{pillar(80, "@3"), coreOf("@1"), coreOf("<2 @0>"), coreOf(end)}}
		for _, c := range coresOf("<0 @0>", "@2", "<3 5 @2>") {
			code := checkNeedValueAsStated(t, b, c, 20000)
			_, _, steps, _ := wholeAsStated(b, c, 20000)
			checkNeedValue(t, b, c, steps, impl.Core{}, nil, impl.ErrFull)
			checkNeedValue(t, b, c, steps-1, impl.Core{}, nil, impl.ErrBudget)
			if code != impl.ErrFull {
				t.Errorf("%s in %s: code %d", end, impl.CoreText(c), code)
			}
		}
	}
}

// TestHeapOfAllFields has fields that fill the heap together.
func TestHeapOfAllFields(t *testing.T) {
	b := countdown()
	for _, n := range []struct{ first, second, code int64 }{{600, 600, impl.OK}, {1400, 10, impl.OK}, {300, 1050, impl.OK}, {1998, 1, impl.ErrBudget}, {900, 900, impl.ErrBudget}} {
		c := pairOf(impl.CoCon, pairOf(impl.CoApp, coreOf("@0"), impl.Core{Kind: impl.CoNum, Value: n.first}), pairOf(impl.CoApp, coreOf("@0"), impl.Core{Kind: impl.CoNum, Value: n.second}))
		want, counts, code := needValueAsStated(b, c, 20000)
		if code != n.code {
			t.Fatalf("%v: the test is wrong: code %d", n, code)
		}
		checkNeedValue(t, b, c, 20000, want, counts, code)
	}
	// A new cell for 7 transitions, so that the heap is full first.
	b = bookOf("^({1 2:#0} #0)", "^(@0 (#0 - 1))", "^7", "^((((@4 5) 5) 5) (#0 - 1))", "^^^^({3 2:#0} #0)")
	codes := map[int64]bool{}
	for _, n := range []int64{100, 150, 180, 190, 195, 199, 200, 210, 300} {
		field := func(n int64) impl.Core {
			return pairOf(impl.CoApp, coreOf("@3"), impl.Core{Kind: impl.CoNum, Value: n})
		}
		for _, c := range []impl.Core{field(n), pairOf(impl.CoCon, field(n), field(1)), pairOf(impl.CoCon, field(n), field(n)), pairOf(impl.CoCon, field(n), field(400-n))} {
			want, counts, code := needValueAsStated(b, c, 20000)
			checkNeedValue(t, b, c, 20000, want, counts, code)
			codes[code] = true
		}
	}
	if len(codes) != 2 || !codes[impl.OK] || !codes[impl.ErrFull] {
		t.Errorf("codes %v", codes)
	}
}

// TestErrorsOfNeedValue has books and terms that are no machine state, and budgets that are not allowed.
func TestErrorsOfNeedValue(t *testing.T) {
	b := needBook()
	endless := endlessCores()
	for _, budget := range []int64{math.MinInt64, -1, 0, 5, 20000, 20001, math.MaxInt64} {
		for _, c := range slices.Concat(brokenCores()[:60], openCores(), endless, coresOf("@2", "!5", "(let 1 in #0)", "<0 !1>", "[0 2:1]")) {
			checkNeedValue(t, b, c, budget, impl.Core{}, nil, impl.ErrInvalid)
			checkNeedValue(t, impl.Book{Defs: []impl.Core{coreOf("1"), c}}, coreOf("1"), budget, impl.Core{}, nil, impl.ErrInvalid)
		}
		checkNeedValue(t, impl.Book{}, coreOf("1"), budget, impl.Core{}, nil, impl.ErrInvalid)
	}
	for _, text := range []string{"5", "^#0", "(1 2)", "@1"} {
		for _, budget := range []int64{math.MinInt64, -1, 20001, 1 << 32, math.MaxInt64} {
			checkNeedValue(t, b, coreOf(text), budget, impl.Core{}, nil, impl.ErrRange)
		}
	}
}

func TestValuesOfManyTerms(t *testing.T) {
	codes := map[string]int{}
	for _, s := range randomStates(251, 4000) {
		code := checkNeedValueAsStated(t, s.b, s.c, 500)
		codes[impl.CodeName(code)]++
	}
	if codes["ok"] < 500 || codes["state"] < 500 || codes["budget"] < 20 {
		t.Errorf("only %v", codes)
	}
}

// valueRun counts the values that have been compared.
type valueRun struct {
	values, normalForms, lessWork int
}

// check is the first part of P10 for one term: the value is that of the normal form, and it takes the work of an evaluator that computes each argument at most once.
func (r *valueRun) check(t *testing.T, b impl.Book, c impl.Core) {
	t.Helper()
	value, work, code := impl.NeedValue(b, c, 20000)
	text, wantWork := needfulValue(b, c)
	switch {
	case text == "no end" || code == impl.ErrFull || code == impl.ErrBudget:
		return
	case text == "stuck" && code != impl.ErrState, text != "stuck" && (code != impl.OK || impl.CoreText(value) != text || !slices.Equal(work, wantWork)):
		t.Errorf("%.500s in %.500q: %.300s with %d, code %d, want %.300s with %d", impl.CoreText(c), coreTexts(b.Defs), impl.CoreText(value), work, code, text, wantWork)
	}
	normal, steps, normalCode := impl.Normalize(b, c, 2000)
	if normalCode != impl.OK {
		return
	}
	again, _, againCode := impl.NeedValue(b, normal, 20000)
	if againCode != code || !equalCores(again, value) {
		t.Errorf("%.500s in %.500q: %.300s, code %d, but its normal form %.300s: %.300s, code %d", impl.CoreText(c), coreTexts(b.Defs), impl.CoreText(value), code, impl.CoreText(normal), impl.CoreText(again), againCode)
	}
	if code == impl.OK && steps[0] > 0 {
		r.values++
		if equalCores(normal, value) {
			r.normalForms++
		}
		if work[0]+work[1] < steps[0]+steps[1] {
			r.lessWork++
		}
	}
}

// TestValuesOfNormalForms is the first part of P10.
func TestValuesOfNormalForms(t *testing.T) {
	var r valueRun
	for _, s := range randomStates(252, 6000) {
		r.check(t, s.b, s.c)
	}
	b := bookOf("^(#0 - 2)", "^(#0 (@0 #0))")
	for _, c := range smallStates(5) {
		r.check(t, b, c)
	}
	for n := range 7 {
		number := impl.Core{Kind: impl.CoNum, Value: int64(n)}
		r.check(t, factorials(), pairOf(impl.CoApp, coreOf("@0"), number))
		r.check(t, lists(), putInto("((@6 ^(#0 * #0)) ((@3 1) ?))", number))
		r.check(t, lists(), putInto("(@0 ((@6 ^(#0 * #0)) ((@3 (1 + 0)) ?)))", number))
	}
	if r.values < 400 || r.normalForms < 300 || r.lessWork < 15 {
		t.Errorf("only %v", r)
	}
}

// TestValuesOfPrograms compares the value of main with that of the source program and of its normal form.
func TestValuesOfPrograms(t *testing.T) {
	var r valueRun
	random := rand.New(rand.NewSource(253))
	list := liftingPrograms()
	for _, main := range []string{"Int = fact 5", "Nat = add S[S[Z]] S[Z]", "Int = count (add S[S[Z]] S[S[S[Z]]])", "!Nat = let h = twice (twice !(\\x:Nat. S[x])) in !(h Z)", "Int = let x = fact 4 in let y = x * x in y * y + x", "Pair = let x = fact 4 in P[x + x, !Z]", "Pair = P[1, let x = !loop in !Z]", "Int = if fact 3 then 2 + 3 else loop", "Tri = C[add S[Z] S[Z], 2 * 2]"} {
		list = append(list, checkedProgram(append([]string{"main : " + main}, evalTools()...)...))
	}
	for range 1000 {
		list = append(list, randomChecked(random, 1<<40))
	}
	compared := 0
	for _, p := range list {
		s, code := erasedBookOf(p)
		if code != impl.OK {
			continue
		}
		r.check(t, s.b, s.c)
		value, _, code := impl.NeedValue(s.b, s.c, 20000)
		want := meaningOf(p)
		if code == impl.ErrState != strings.Contains(want, "function") && code != impl.ErrFull && code != impl.ErrBudget && !isEndless(want) {
			t.Errorf("%.700s: code %d, want %s", impl.PrintProgram(p), code, want)
		}
		if code == impl.OK && !isEndless(want) {
			compared++
			if got := toldNormal(s.b, value, 6); got != want {
				t.Errorf("%.700s: %s, want %s", impl.PrintProgram(p), got, want)
			}
		}
	}
	if compared < 100 || r.values < 50 || r.lessWork < 5 {
		t.Errorf("only %d, %v", compared, r)
	}
}
