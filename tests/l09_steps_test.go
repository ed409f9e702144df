package tests

import (
	"slices"
	"strings"
	"testing"

	"loop.example/g01074/impl"
)

func checkStepNeed(t *testing.T, s needState, want impl.Need, wantKind, wantCode int64) {
	t.Helper()
	got, kind, code := impl.StepNeed(s.b, s.m)
	if !equalNeeds(got, want) || kind != wantKind || code != wantCode {
		t.Errorf("%.500s: %.300s, kind %d, code %d, want %.300s, kind %d, code %d", s, needText(got), kind, code, needText(want), wantKind, wantCode)
	}
	if code == impl.OK && !impl.ValidNeed(s.b, got) {
		t.Errorf("%.500s: %.300s is not valid", s, needText(got))
	}
}

// moveBook has functions for the tables of transitions.
func moveBook() impl.Book {
	return bookOf("^(#0 + #0)", "7", "^^(#0 #1)", "<1 @1 @3>")
}

// movesOfNeeds are transitions of all kinds, with what differs from state to state.
func movesOfNeeds() map[int64][][2]string {
	return map[int64][][2]string{
		impl.NsEnter: {
			{"#0 at 0 |  | 5", "5 | update 0 | 5"}, {"#0 at 0 |  | =5", "5 |  | =5"}, {"#1 at 0 1 |  | =5; (#0 #1) at 0 1", "(#0 #1) at 0 1 | update 1 | =5; (#0 #1) at 0 1"}, {"#1 at 0 1 |  | 5; =<0 #0> at 0", "<0 #0> at 0 |  | 5; =<0 #0> at 0"},
			{"#2 at 1 1 0 | arg 1; op + 3 | =^#0; @1", "^#0 | arg 1; op + 3 | =^#0; @1"}, {"#0 at 1 0 0 | arg 1; op + 3 | =^#0; @1", "@1 | arg 1; op + 3; update 1 | =^#0; @1"},
			// A cell that has the form of a value and is not Done, one that is evaluated already, and one that refers to itself.
			{"#0 at 0 | update 0 | ^#1 at 0", "^#1 at 0 | update 0; update 0 | ^#1 at 0"}, {"#0 at 1 | update 1; arg 1 | =3; (@0 #0) at 1", "(@0 #0) at 1 | update 1; arg 1; update 1 | =3; (@0 #0) at 1"}, {"#0 at 0 |  | #0 at 0", "#0 at 0 | update 0 | #0 at 0"}, {"#0 at 0 | update 0 | =4 at 0", "4 at 0 | update 0 | =4 at 0"},
		},
		impl.NsPush: {
			// An argument that is a variable needs no new cell.
			{"(@0 5) |  | ", "@0 | arg 0 | 5"}, {"(#0 #1) at 0 1 |  | 5; 6", "#0 at 0 1 | arg 1 | 5; 6"}, {"(^#0 #0) at 1 0 | swi 0 1 | 5; =6", "^#0 at 1 0 | swi 0 1; arg 1 | 5; =6"}, {"(#0 ^#1) at 0 1 |  | 5; 6", "#0 at 0 1 | arg 2 | 5; 6; ^#1 at 0 1"}, {"((1 2) (3 #1)) at 1 1 |  | 5; 6", "(1 2) at 1 1 | arg 2 | 5; 6; (3 #1) at 1 1"}, {"(5 @1) | update 0 | =4", "5 | update 0; arg 1 | =4; @1"}, {"(5 <2>) at 0 |  | =4", "5 at 0 | arg 1 | =4; <2> at 0"},
			{"(1 + 2) |  | ", "1 | op + 2 | "}, {"(#1 - #0) at 0 1 | arg 0 | 5; 6", "#1 at 0 1 | arg 0; op - #0 at 0 1 | 5; 6"}, {"((1 * 2) / (3 < 4)) at 0 |  | 5", "(1 * 2) at 0 | op / (3 < 4) at 0 | 5"}, {"(1 = 2) |  | ", "1 | op = 2 | "}, {"(^#0 < <0 1>) |  | ", "^#0 | op < <0 1> | "},
			{"[1 0:<1 5>] at 0 |  | 5", "<1 5> at 0 | mat 1 0 | 5"}, {"[3:#0] at 0 | mat 2 2 2 2 | 5", "#0 at 0 | mat 2 2 2 2; mat 3 | 5"}, {"[0 1 2 3:5] |  | ", "5 | mat 0 1 2 3 | "},
			{"{1 0:(1 2)} at 0 |  | 5", "(1 2) at 0 | swi 1 0 | 5"}, {"{3 3:#1} at 0 1 | arg 1 | 5; =6", "#1 at 0 1 | arg 1; swi 3 3 | 5; =6"},
			{"5 | op + #0 at 0 | =3", "#0 at 0 | op1 + 5 | =3"}, {"-5 at 0 0 | arg 0; op = (1 + #1) at 1 0 | =3; 4", "(1 + #1) at 1 0 | arg 0; op1 = -5 | =3; 4"}, {"0 | op * 3; op - ^#0 | ", "^#0 | op * 3; op1 - 0 | "}, {"2147483647 | op / @1 | ", "@1 | op1 / 2147483647 | "},
		},
		impl.NsExpand: {
			{"@1 |  | ", "7 |  | "}, {"@0 at 0 0 | arg 0 | 5", "^(#0 + #0) | arg 0 | 5"}, {"@3 | mat 0 1 | ", "<1 @1 @3> | mat 0 1 | "}, {"@2 | update 0 | @2", "^^(#0 #1) | update 0 | @2"},
		},
		impl.NsBuild: {
			{"<1 5> |  | ", "<1 #0> at 0 |  | 5"}, {"<3 #1 5 #0> at 0 1 | arg 0 | =7; 8", "<3 #0 #1 #2> at 1 2 0 | arg 0 | =7; 8; 5 at 0 1"}, {"<0 (#0 #1) <2 #0> @1> at 1 0 |  | 7; 8", "<0 #0 #1 #2> at 2 3 4 |  | 7; 8; (#0 #1) at 1 0; <2 #0> at 1 0; @1 at 1 0"},
			// Kids that are variables, but have not the form of a value.
			{"<0 #1 #0> at 0 1 |  | 7; 8", "<0 #0 #1> at 1 0 |  | 7; 8"}, {"<0 #0 #0> at 0 1 |  | 7; 8", "<0 #0 #1> at 0 0 |  | 7; 8"}, {"<0 #0 #1> at 0 1 1 |  | 7; 8", "<0 #0 #1> at 0 1 |  | 7; 8"}, {"<2 #1> at 0 1 |  | 7; 8", "<2 #0> at 1 |  | 7; 8"}, {"<2 #0> at 1 1 |  | 7; 8", "<2 #0> at 1 |  | 7; 8"}, {"<1> at 0 1 | mat 0 | 7; 8", "<1> | mat 0 | 7; 8"}, {"<0 #1> at 0 1 | update 0 | 7; 8", "<0 #0> at 1 | update 0 | 7; 8"},
		},
		impl.NsUpdate: {
			{"5 | update 0 | (2 + 3)", "5 |  | =5"}, {"5 at 0 1 | update 1 | 1; @0", "5 at 0 1 |  | 1; =5 at 0 1"}, {"^#1 at 0 | arg 0; update 1 | 1; @0", "^#1 at 0 | arg 0 | 1; =^#1 at 0"}, {"<1 #0 #1> at 1 0 | mat 0; update 0; update 1 | 1; @0", "<1 #0 #1> at 1 0 | mat 0; update 0 | 1; =<1 #0 #1> at 1 0"}, {"<2> | update 0 | @1; 8", "<2> |  | =<2>; 8"},
			// A cell that is Done already.
			{"5 | update 0 | =6", "5 |  | =5"}, {"^#0 | update 0; update 0 | =6 at 0", "^#0 | update 0 | =^#0"},
		},
		impl.NsBeta: {
			{"^#0 | arg 0 | 5", "#0 at 0 |  | 5"}, {"^(#0 #1) at 0 | arg 1 | 5; 6", "(#0 #1) at 1 0 |  | 5; 6"}, {"^^(#2 #1) at 1 1 0 | op + 1; arg 0 | 5; =6", "^(#2 #1) at 0 1 1 0 | op + 1 | 5; =6"}, {"^5 | arg 0; arg 1 | 5; 6", "5 at 1 | arg 0 | 5; 6"}, {"^@0 | arg 0 | #0 at 0", "@0 at 0 |  | #0 at 0"},
		},
		impl.NsOperate: {
			{"3 | op1 + 2 | ", "5 |  | "}, {"3 at 0 0 | arg 0; op1 - 2 | 9", "-1 | arg 0 | 9"}, {"3 | swi 0 1; op1 * -2 | ", "-6 | swi 0 1 | "}, {"2 | op1 / 7 | ", "3 |  | "}, {"0 | op1 / 7 | ", "0 |  | "}, {"3 | op1 < 2 | ", "1 |  | "}, {"2 | op1 < 3 | ", "0 |  | "}, {"3 | op1 = 3 | ", "1 |  | "}, {"1 | op1 + 2147483647 | ", "-2147483648 |  | "}, {"1 | op1 - -2147483648 | ", "2147483647 |  | "}, {"2147483647 | op1 * 2147483647 | ", "1 |  | "},
		},
		impl.NsChoose: {
			{"5 | swi 1 0 | ", "@1 |  | "}, {"0 | swi 1 0 | ", "@0 |  | "}, {"-1 at 0 0 | arg 0; swi 2 3 | 5", "@2 | arg 0 | 5"}, {"0 at 0 | swi 2 3; swi 2 3 | 5", "@3 | swi 2 3 | 5"},
			{"<0> | mat 1 | ", "@1 |  | "}, {"<1> | mat 1 0 | ", "@0 |  | "}, {"<3> | arg 0; mat 1 0 2 3 | 5", "@3 | arg 0 | 5"},
			// The first field comes to the top.
			{"<0 #0> at 1 | mat 2 3 | 5; 6", "@2 | arg 1 | 5; 6"}, {"<1 #0 #1> at 0 1 | mat 2 3 | 5; 6", "@3 | arg 1; arg 0 | 5; 6"}, {"<2 #0 #1 #2> at 2 0 1 | update 0; mat 1 1 0 | 5; 6; =7", "@0 | update 0; arg 1; arg 0; arg 2 | 5; 6; =7"}, {"<0 #0 #1 #2> at 0 0 0 | mat 1 | 5", "@1 | arg 0; arg 0; arg 0 | 5"},
		},
	}
}

// stuckNeeds are states that are not finished and for which there is no row, in the book moveBook.
func stuckNeeds() []string {
	return []string{
		"5 | arg 0 | 1", "5 at 0 | arg 0 | 1", "<0> | arg 0 | 1", "<1 #0> at 0 | arg 0 | 1",
		"^#0 | op + 1 | ", "<0> | op + 1 | ", "<0 #0> at 0 | op = #0 at 0 | 1",
		"^#0 | op1 + 1 | ", "<0> | op1 + 1 | ", "^#1 at 0 | op1 = 0 | =1",
		"^#0 | swi 0 1 | ", "<0> | swi 0 1 | ", "<1> | swi 1 1 | ",
		"5 | mat 0 1 2 3 | ", "0 | mat 0 | ", "^#0 | mat 0 1 2 3 | ",
		// A tag that is too large.
		"<1> | mat 0 | ", "<2> | mat 0 1 | ", "<3> | mat 0 1 2 | ", "<3 #0 #1 #2> at 0 0 0 | mat 0 1 2 | 1", "<1 #0> at 0 | mat 3 | 1",
	}
}

// TestTransitions has the table of transitions.
func TestTransitions(t *testing.T) {
	b := moveBook()
	for kind, rows := range movesOfNeeds() {
		for _, row := range rows {
			s := needState{b, needOf(row[0])}
			if next, nextKind, code := stepNeedAsStated(s.b, s.m); needText(next) != row[1] || nextKind != kind || code != impl.OK {
				t.Fatalf("%s: the test is wrong: %s, kind %d, code %d", row[0], needText(next), nextKind, code)
			}
			checkStepNeed(t, s, needOf(row[1]), kind, impl.OK)
		}
	}
	for _, text := range stuckNeeds() {
		checkStepNeed(t, needState{b, needOf(text)}, impl.Need{}, 0, impl.ErrState)
		checkRunNeed(t, needState{b, needOf(text)}, 0, impl.Need{}, nil, impl.ErrBudget)
		checkRunNeed(t, needState{b, needOf(text)}, 1, impl.Need{}, nil, impl.ErrState)
	}
	for _, text := range []string{"5 | | ", "5 at 0 0 | | (1 + 2)", "^(#0 #1) at 0 | | 5", "<2> | | =5", "<0 #0 #1> at 1 1 | | @0; #0 at 0"} {
		checkStepNeed(t, needState{b, needOf(text)}, impl.Need{}, 0, impl.ErrNotFound)
	}
}

// TestTransitionsBelowOthers has the same table with frames below and cells that nothing refers to.
func TestTransitionsBelowOthers(t *testing.T) {
	more := needOf("5 | arg 0; op + #0 at 0; swi 1 1 | 5")
	put := func(text string) impl.Need {
		m := needOf(text)
		m.Stack = append(slices.Clone(more.Stack), m.Stack...)
		return m
	}
	for kind, rows := range movesOfNeeds() {
		for _, row := range rows {
			s := needState{moveBook(), put(row[0])}
			if len(s.m.Heap) == 0 {
				continue
			}
			checkStepNeed(t, s, put(row[1]), kind, impl.OK)
		}
	}
	for _, text := range stuckNeeds() {
		m := put(text)
		if len(m.Heap) == 0 {
			m.Heap = more.Heap
		}
		checkStepNeed(t, needState{moveBook(), m}, impl.Need{}, 0, impl.ErrState)
	}
}

// TestExampleOfTransitions has the example of the section "States".
func TestExampleOfTransitions(t *testing.T) {
	b := needBook()
	m, _ := impl.StartNeed(b, coreOf("(2 + 3)"))
	for _, step := range []struct {
		kind int64
		to   string
	}{{impl.NsPush, "2 | op + 3 | "}, {impl.NsPush, "3 | op1 + 2 | "}, {impl.NsOperate, "5 |  | "}} {
		if impl.IsFinished(b, m) {
			t.Errorf("%s is finished", needText(m))
		}
		checkStepNeed(t, needState{b, m}, needOf(step.to), step.kind, impl.OK)
		m = needOf(step.to)
	}
	if !impl.IsFinished(b, m) {
		t.Errorf("%s is not finished", needText(m))
	}
	checkStepNeed(t, needState{b, m}, impl.Need{}, 0, impl.ErrNotFound)
}

// TestFullNeeds has heaps, stacks and environments that a transition fills, and such that it would overfill.
func TestFullNeeds(t *testing.T) {
	check := func(m impl.Need, code int64) {
		t.Helper()
		s := needState{moveBook(), m}
		want, kind, wantCode := stepNeedAsStated(s.b, s.m)
		if wantCode != code {
			t.Fatalf("the test is wrong: code %d", wantCode)
		}
		checkStepNeed(t, s, want, kind, code)
		checkRunNeed(t, s, 0, impl.Need{}, nil, impl.ErrBudget)
	}
	whether := func(fits bool) int64 {
		if fits {
			return impl.OK
		}
		return impl.ErrFull
	}
	// Cells.
	for text, cells := range map[string]int{"(@0 5) | | ": 1, "(@0 #0) at 1 | | ": 0, "(@0 ^#0) at 1 | | ": 1, "<0 1> | | ": 1, "<0 1 2> at 1 | | ": 2, "<0 1 2 3> at 1 | | ": 3, "<0 #0 2 3> at 1 | | ": 2, "<0 #0 2 #0> at 1 | | ": 1, "<0 #0 #0 #0> at 1 | | ": 0, "<0> at 1 | | ": 0, "(1 + 2) | | ": 0, "@3 | | ": 0, "[0:(1 2)] | | ": 0, "{0 1:(1 2)} | | ": 0, "#0 at 0 | | ": 0, "5 | update 1999 | ": 0, "5 | swi 0 1 | ": 0, "5 | op + (1 2) | ": 0, "<0 #0> at 1 | mat 0 | ": 0} {
		for n := 1996; n <= 2000; n++ {
			m := withHeap(needOf(text), n)
			if topOf(m).Kind == impl.FrUpdate {
				m.Stack[0].Value = int64(n) - 1
			}
			check(m, whether(n+cells <= 2000))
		}
	}
	// Frames.
	for text, frames := range map[string]int{"(@0 5) | | ": 1, "(@0 #0) at 1 | | ": 1, "(1 + 2) | | ": 1, "[0:5] | | ": 1, "{0 1:5} | | ": 1, "#0 at 0 | | 5": 1, "#0 at 1 | | 5": 0, "@3 | | ": 0, "<0 1> | | ": 0, "5 | update 0 | ": -1, "^#0 | arg 0 | ": -1, "5 | op + 1 | ": 0, "5 | op1 + 1 | ": -1, "5 | swi 0 1 | ": -1, "<0> | mat 0 | ": -1, "<0 #0> at 1 | mat 0 | ": 0, "<0 #0 #1> at 1 1 | mat 0 | ": 1, "<0 #0 #1 #2> at 1 1 1 | mat 0 | ": 2} {
		for n := 396; n <= 400; n++ {
			m := withHeap(needOf(text), 10)
			m.Stack = append(withStack(m, n-len(m.Stack)).Stack, m.Stack...)
			check(m, whether(n+frames <= 400))
		}
	}
	// The environment of the control.
	for n := 253; n <= 256; n++ {
		m := withHeap(needOf("^(#0 #1) | arg 1 | "), 10)
		m.Control.Env = addresses(n)
		check(m, whether(n < 256))
		for _, text := range []string{"(@0 5) | | ", "#1 | | ", "5 | update 0 | ", "(1 + 2) | | ", "<0 1 #200 3> | | ", "<0> | | ", "5 | swi 0 1 | ", "@0 | | ", "5 | op + 1 | "} {
			m := withHeap(needOf(text), 10)
			m.Control.Env = addresses(n)
			check(m, impl.OK)
		}
		for _, at := range []int64{2, 3} {
			m = withHeap(needOf("#1 at 0 1 | | "), 10)
			m.Control.Env[1] = at
			m.Heap[at].Closure.Env = addresses(n)
			check(m, impl.OK)
		}
	}
}

// TestOrderOfErrors has states with several reasons to fail.
func TestOrderOfErrors(t *testing.T) {
	b := moveBook()
	// Not valid: finished, without a row, and full as well.
	for _, text := range []string{"5 | | @4", "5 at 0 | | ", "5 | mat 4 | ", "5 | arg 0 | @4", "<4> | | ", "(@4 5) | | "} {
		m := needOf(text)
		checkValidNeed(t, b, m, false)
		if len(m.Heap) > 0 {
			m = withHeap(m, 2001)
			checkValidNeed(t, b, m, false)
		}
	}
	// Finished, in a full heap and with a full environment.
	m := withHeap(needOf("^#0 | | "), 2000)
	m.Control.Env = addresses(256)
	checkStepNeed(t, needState{b, m}, impl.Need{}, 0, impl.ErrNotFound)
	// No row, in a full heap with a full stack and a full environment.
	for _, text := range []string{"5 | arg 0 | ", "^#0 | mat 0 | ", "^#0 | op + 1 | ", "5 | mat 0 | "} {
		m = withHeap(needOf(text), 2000)
		m.Stack = append(withStack(m, 399).Stack, m.Stack...)
		m.Control.Env = addresses(256)
		checkStepNeed(t, needState{b, m}, impl.Need{}, 0, impl.ErrState)
		checkRunNeed(t, needState{b, m}, 0, impl.Need{}, nil, impl.ErrBudget)
		checkRunNeed(t, needState{b, m}, 20000, impl.Need{}, nil, impl.ErrState)
	}
}

// TestTransitionsOfManyStates compares steps of random states, and of states that machines come to, with the table.
func TestTransitionsOfManyStates(t *testing.T) {
	counts := map[[2]int64]int{}
	for _, s := range slices.Concat(randomNeeds(231, 6000), runningNeeds(232, 3000)) {
		want, kind, code := stepNeedAsStated(s.b, s.m)
		checkStepNeed(t, s, want, kind, code)
		counts[[2]int64{kind, code}]++
	}
	for kind := int64(1); kind <= 8; kind++ {
		if counts[[2]int64{kind, impl.OK}] < 80 {
			t.Errorf("kind %d: only %v", kind, counts)
		}
	}
	if counts[[2]int64{0, impl.ErrNotFound}] < 100 || counts[[2]int64{0, impl.ErrState}] < 100 {
		t.Errorf("only %v", counts)
	}
}

// TestRunsOfSmallTerms follows all small terms to their ends, step by step.
func TestRunsOfSmallTerms(t *testing.T) {
	b := bookOf("^(#0 - 2)", "^(#0 (@0 #0))")
	ends := map[int64]int{}
	for _, c := range smallStates(4) {
		m, _ := impl.StartNeed(b, c)
		code := int64(impl.OK)
		for range 60 {
			want, kind, wantCode := nextNeed(b, m)
			checkStepNeed(t, needState{b, m}, want, kind, wantCode)
			if code = wantCode; code != impl.OK {
				break
			}
			m = want
		}
		ends[code]++
	}
	if ends[impl.ErrNotFound] < 500 || ends[impl.ErrState] < 500 {
		t.Errorf("ends %v", ends)
	}
}

// TestCellsAreUpdated follows a cell that is asked for twice, with a constructor and with a function as its value.
func TestCellsAreUpdated(t *testing.T) {
	for text, want := range map[string][]string{
		// The second variable finds the value of the first one.
		"(^(#0 + #0) (1 + 2))":         {"push", "beta", "push", "enter", "push", "push", "operate", "update", "push", "enter", "operate"},
		"(^[0 2:#0] <1 5 6>)":          {"push", "beta", "push", "enter", "build", "update", "choose", "expand", "beta", "beta", "push"},
		"(^((#0 #0) 3) ^#0)":           {"push", "beta", "push", "push", "enter", "update", "beta", "enter", "beta", "enter", "update"},
		"(^<0 #0> 5)":                  {"push", "beta"},
		"(^<0 #0 #0> 5)":               {"push", "beta", "build"},
		"(^{1 1:#0} ((^^#1 0) (1 2)))": {"push", "beta", "push", "enter", "push", "push", "beta", "beta", "enter", "update", "update", "choose", "expand"},
	} {
		b := moveBook()
		m, _ := impl.StartNeed(b, coreOf(text))
		var kinds []string
		for range want {
			next, kind, code := impl.StepNeed(b, m)
			if code != impl.OK {
				break
			}
			kinds = append(kinds, []string{"", "push", "enter", "update", "beta", "operate", "choose", "expand", "build"}[kind])
			m = next
		}
		if !slices.Equal(kinds, want) {
			t.Errorf("%s: %s", text, strings.Join(kinds, " "))
		}
	}
}
