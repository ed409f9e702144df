package tests

import (
	"fmt"
	"math"
	"slices"
	"strings"
	"testing"

	"loop.example/g01074/impl"
)

func checkNormalize(t *testing.T, s machineState, budget int64, want impl.Core, wantCounts []int64, wantCode int64) {
	t.Helper()
	got, counts, code := impl.Normalize(s.b, s.c, budget)
	if !equalCores(got, want) || !slices.Equal(counts, wantCounts) || code != wantCode {
		t.Errorf("%.500s with the budget %d: %.300s with %d, code %d, want %.300s with %d, code %d", s, budget, impl.CoreText(got), counts, code, impl.CoreText(want), wantCounts, wantCode)
	}
}

// checkRun compares Normalize with single steps, for budgets around the number of these. It tells the number, and the code of the step behind them.
func checkRun(t *testing.T, s machineState) (int64, int64) {
	t.Helper()
	counts := make([]int64, 4)
	last, steps, code := s.c, int64(0), int64(impl.OK)
	for steps <= 2000 {
		next, kind, stepCode := impl.StepCore(s.b, last)
		if impl.IsNormal(s.b, last) != (stepCode == impl.ErrNotFound) {
			t.Errorf("%.500s: %s is normal, code %d", s, impl.CoreText(last), stepCode)
		}
		if code = stepCode; code != impl.OK {
			break
		}
		last = next
		counts[kind-1]++
		steps++
	}
	for _, budget := range []int64{0, 1, steps / 2, steps - 1, steps, steps + 1, 1999, 2000} {
		switch {
		case budget < 0 || budget > 2000:
			checkNormalize(t, s, budget, impl.Core{}, nil, impl.ErrRange)
		case budget >= steps && code == impl.ErrNotFound:
			checkNormalize(t, s, budget, last, counts, impl.OK)
		case budget > steps:
			checkNormalize(t, s, budget, impl.Core{}, nil, code)
		default:
			checkNormalize(t, s, budget, impl.Core{}, nil, impl.ErrBudget)
		}
	}
	for _, budget := range []int64{-1, 2001, math.MinInt64, math.MaxInt64, 1 << 32, -1 << 32} {
		checkNormalize(t, s, budget, impl.Core{}, nil, impl.ErrRange)
	}
	return steps, code
}

// normalRow is a term with its normal form and the numbers of steps.
type normalRow struct {
	from, to string
	counts   []int64
}

// factorials has the function n! as the definition 0, with a branch for each case of a test.
func factorials() impl.Book { return bookOf("^({1 2:#0} #0)", "^(#0 * (@0 (#0 - 1)))", "^1") }

// lists has functions of lists, which are <0> or <1 first rest>: the sum, the numbers from one to another, and what a function makes of all items.
func lists() impl.Book {
	return bookOf("^[1 2:#0]", "0", "^^(#1 + (@0 #0))", "^^(({4 5:(#0 < #1)} #1) #0)", "^^<0>", "^^<1 #1 ((@3 (#1 + 1)) #0)>", "^^([7 8:#0] #1)", "^<0>", "^^^<1 (#0 #2) ((@6 #0) #1)>")
}

// TestNormalForms has counts where they can be followed by hand.
func TestNormalForms(t *testing.T) {
	for _, c := range []struct {
		b    impl.Book
		rows []normalRow
	}{
		{stepBook(), []normalRow{
			{"7", "7", []int64{0, 0, 0, 0}}, {"@6", "@6", []int64{0, 0, 0, 0}}, {"^(#0 @6)", "^(#0 @6)", []int64{0, 0, 0, 0}}, {"(^#0 1)", "1", []int64{1, 0, 0, 0}}, {"(1 + 2)", "3", []int64{0, 1, 0, 0}}, {"{2 3:0}", "@3", []int64{0, 0, 1, 0}}, {"(@2 7)", "(5 7)", []int64{0, 0, 0, 1}},
			{"(@0 21)", "42", []int64{1, 1, 0, 1}}, {"((@1 7) 2)", "5", []int64{2, 1, 0, 1}}, {"(@5 4)", "8", []int64{1, 1, 0, 2}}, {"(@6 + @6)", "6", []int64{0, 3, 0, 2}}, {"(((@4 1) 2) 3)", "<0 1 2 3>", []int64{3, 0, 0, 1}}, {"[0 1:@3]", "-1", []int64{2, 1, 1, 2}}, {"[0 1:@7]", "[0 1:-1]", []int64{2, 1, 1, 3}},
			{"(^(#0 + #0) (1 + 2))", "6", []int64{1, 3, 0, 0}}, {"(^5 (1 + 2))", "5", []int64{1, 0, 0, 0}}, {"^(^(#0 #0) (#0 (1 + 2)))", "^((#0 3) (#0 3))", []int64{1, 2, 0, 0}}, {"<0 (1 + 2) @2 (@0 1)>", "<0 3 @2 2>", []int64{1, 2, 0, 1}}, {"(@2 + 1)", "6", []int64{0, 1, 0, 1}}, {"(1 = @2)", "0", []int64{0, 1, 0, 1}}, {"{2 3:(@2 - 5)}", "@3", []int64{0, 1, 1, 1}}, {"({0 1:@2} 4)", "8", []int64{1, 1, 1, 2}},
			// A part without a normal form that is dropped before it is met.
			{"((^^#1 5) (^(#0 #0) ^(#0 #0)))", "5", []int64{2, 0, 0, 0}}, {"((^#0 ^7) (^(#0 #0) ^(#0 #0)))", "7", []int64{2, 0, 0, 0}},
		}},
		{factorials(), []normalRow{{"(@0 0)", "1", []int64{2, 0, 1, 2}}, {"(@0 1)", "1", []int64{4, 2, 2, 4}}, {"(@0 5)", "120", nil}, {"(@0 6)", "720", nil}, {"<2 (@0 3) ^(#0 (@0 2))>", "<2 6 ^(#0 2)>", nil}}},
		{lists(), []normalRow{{"(@0 <0>)", "@1", []int64{1, 0, 1, 1}}, {"(@0 <1 4 <1 5 <0>>>)", "9", []int64{7, 2, 3, 6}}, {"(@0 ((@3 1) 4))", "10", nil}, {"((@6 ^(#0 * #0)) ((@3 1) 3))", "<1 1 <1 4 <1 9 <0>>>>", nil}, {"(@0 ((@6 ^(#0 * 2)) ((@3 1) 4)))", "20", nil}}},
	} {
		for _, row := range c.rows {
			s := machineState{c.b, coreOf(row.from)}
			want, counts, code := normalizeAsStated(s.b, s.c, 2000)
			if impl.CoreText(want) != row.to || row.counts != nil && !slices.Equal(counts, row.counts) || code != impl.OK {
				t.Fatalf("%s: the test is wrong: %s with %d, code %d", row.from, impl.CoreText(want), counts, code)
			}
			checkNormalize(t, s, 2000, coreOf(row.to), counts, impl.OK)
			checkRun(t, s)
		}
	}
}

func TestRunsOfRandomStates(t *testing.T) {
	counts := map[string]int{}
	for _, s := range randomStates(121, 1500) {
		steps, code := checkRun(t, s)
		for _, budget := range []int64{-1, 0, 1, steps, min(steps+1, 2000), 2001} {
			if steps < 100 {
				want, wantCounts, wantCode := normalizeAsStated(s.b, s.c, budget)
				checkNormalize(t, s, budget, want, wantCounts, wantCode)
			}
		}
		if steps > 3 {
			counts[impl.CodeName(code)]++
		}
	}
	if counts["notfound"] < 150 || counts["full"] < 10 || counts["ok"] < 10 {
		t.Errorf("only %v", counts)
	}
}

func TestRunsOfSmallStates(t *testing.T) {
	b := bookOf("^(#0 - 2)", "^(#0 (@0 #0))")
	for _, c := range smallStates(4) {
		checkRun(t, machineState{b, c})
	}
}

// doubled is a term with 3 * (2^n - 1) steps in a book whose definition 0 is the double of a number.
func doubled(n int) string { return strings.Repeat("(@0 ", n) + "1" + strings.Repeat(")", n) }

// withSteps is the text of a term of that many steps.
func withSteps(n int) string {
	if n == 0 {
		return "1"
	}
	most := 0
	for 3*(1<<(most+1)-1) < n {
		most++
	}
	return "(" + withSteps(n-1-3*(1<<most-1)) + " + " + doubled(most) + ")"
}

// TestNormalizeAtMaxSteps has terms of which the normal form takes MaxSteps steps, one less and one more.
func TestNormalizeAtMaxSteps(t *testing.T) {
	for _, n := range []int{0, 1, 2, 3, 4, 10, 100, 999, 1998, 1999, 2000, 2001, 2002} {
		s := machineState{bookOf("^(#0 + #0)"), coreOf(withSteps(n))}
		steps, _ := checkRun(t, s)
		if steps != int64(min(n, 2001)) {
			t.Fatalf("%s: the test is wrong: %d steps", s, steps)
		}
		_, counts, code := impl.Normalize(s.b, s.c, 2000)
		if n > 2000 && code != impl.ErrBudget || n <= 2000 && (code != impl.OK || counts[0]+counts[1]+counts[2]+counts[3] != int64(n)) {
			t.Errorf("%d steps: counts %d, code %d", n, counts, code)
		}
	}
}

// TestTermsWithoutNormalForm has terms that come again and again, and terms that grow until they are too large or too deep.
func TestTermsWithoutNormalForm(t *testing.T) {
	b := bookOf("(1 + @0)", "@1", "^(@2 #0)", "^(@3 <1 #0>)", "^((#0 #0) #0)", "^(1 + (@5 #0))", "^<0 #0 (@6 #0)>")
	for _, row := range []struct {
		text  string
		steps int64
		code  int64
	}{
		{"(^(#0 #0) ^(#0 #0))", 2001, impl.OK}, {"(@1 + 1)", 2001, impl.OK}, {"(@2 5)", 2001, impl.OK}, {"^(#0 (@2 #0))", 2001, impl.OK}, {"[0:@1]", 2001, impl.OK}, {"(<0 (@1 7)> (1 + 2))", 2001, impl.OK},
		{"(@3 5)", -1, impl.ErrFull}, {"(^((#0 #0) #0) ^((#0 #0) #0))", -1, impl.ErrFull}, {"(@4 @4)", -1, impl.ErrFull}, {"(1 + @0)", -1, impl.ErrFull}, {"(@5 1)", -1, impl.ErrFull}, {"(@6 1)", -1, impl.ErrFull},
	} {
		s := machineState{b, coreOf(row.text)}
		steps, code := checkRun(t, s)
		if row.steps > 0 && steps != row.steps || code != row.code || steps < 10 {
			t.Errorf("%s: %d steps, code %d, want %d steps, code %d", row.text, steps, code, row.steps, row.code)
		}
	}
	// A definition of such a term by itself is normal.
	for def := range b.Defs {
		checkRun(t, machineState{b, coreOf(fmt.Sprint("@", def))})
		checkNormalize(t, machineState{b, coreOf(fmt.Sprint("<1 @", def, ">"))}, 0, coreOf(fmt.Sprint("<1 @", def, ">")), make([]int64, 4), impl.OK)
	}
	// The first step is not possible, but without a budget it is not tried.
	s := machineState{impl.Book{Defs: []impl.Core{sizedErased(400)}}, coreOf("(@0 1)")}
	checkNormalize(t, s, 0, impl.Core{}, nil, impl.ErrBudget)
	checkNormalize(t, s, 1, impl.Core{}, nil, impl.ErrFull)
	checkRun(t, s)
}
