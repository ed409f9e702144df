package tests

import (
	"math/rand"
	"slices"
	"testing"

	"loop.example/g01074/impl"
)

func checkCollect(t *testing.T, s needState, wantLive []int64, want impl.Need) {
	t.Helper()
	live, code := impl.LiveThunks(s.b, s.m)
	if !slices.Equal(live, wantLive) || code != impl.OK {
		t.Errorf("%.500s: live %d, code %d, want %d", s, live, code, wantLive)
	}
	less, code := impl.CollectNeed(s.b, s.m)
	if !equalNeeds(less, want) || code != impl.OK {
		t.Errorf("%.500s: collected to %.500s, code %d, want %.500s", s, needText(less), code, needText(want))
	}
	if !impl.ValidNeed(s.b, less) || impl.IsFinished(s.b, less) != impl.IsFinished(s.b, s.m) {
		t.Errorf("%.500s: %.500s is valid %t, finished %t", s, needText(less), impl.ValidNeed(s.b, less), impl.IsFinished(s.b, less))
	}
}

func checkCollectAsStated(t *testing.T, s needState) impl.Need {
	t.Helper()
	want := collectAsStated(s.m)
	checkCollect(t, s, liveAsStated(s.m), want)
	// Nothing is left to be collected.
	all := make([]int64, len(want.Heap))
	for a := range all {
		all[a] = int64(a)
	}
	checkCollect(t, needState{s.b, want}, all, want)
	return want
}

// TestCollect has cells that are live for each reason, and cells that are not.
func TestCollect(t *testing.T) {
	for _, row := range []struct {
		from string
		live []int64
		to   string
	}{
		{"5 | | ", nil, "5 | | "},
		{"5 | | 1; =2; #0 at 0; @1", nil, "5 | | "},
		// The control.
		{"5 at 1 | | 1; 2; 3", []int64{1}, "5 at 0 | | 2"},
		{"#0 at 2 | | 1; 2; =3", []int64{2}, "#0 at 0 | | =3"},
		{"#0 at 2 0 2 | | 1; 2; =3", []int64{0, 2}, "#0 at 1 0 1 | | 1; =3"},
		{"<0 #0 #1> at 2 1 | | 1; 2; 3", []int64{1, 2}, "<0 #0 #1> at 1 0 | | 2; 3"},
		// Frames.
		{"5 | update 1 | 1; 2; 3", []int64{1}, "5 | update 0 | 2"},
		{"5 | arg 2 | 1; 2; 3", []int64{2}, "5 | arg 0 | 3"},
		{"5 | op + #0 at 1 | 1; 2; 3", []int64{1}, "5 | op + #0 at 0 | 2"},
		{"5 | op + 7 at 2 1 | 1; 2; 3", []int64{1, 2}, "5 | op + 7 at 1 0 | 2; 3"},
		{"5 | op1 + 1; mat 1; swi 1 1 | 1; 2; 3", nil, "5 | op1 + 1; mat 1; swi 1 1 | "},
		{"5 | op1 * 0; op + 1; mat 0 0; swi 0 0 | 1", nil, "5 | op1 * 0; op + 1; mat 0 0; swi 0 0 | "},
		{"5 | op = 1 at 3; swi 1 1; arg 5; op1 + 2; update 1; mat 1 1; arg 5 | 0; 1; 2; 3; 4; 5", []int64{1, 3, 5}, "5 | op = 1 at 1; swi 1 1; arg 2; op1 + 2; update 0; mat 1 1; arg 2 | 1; 3; 5"},
		// Other cells.
		{"5 at 2 | | 1; #0 at 0; #0 at 1; 4", []int64{0, 1, 2}, "5 at 2 | | 1; #0 at 0; #0 at 1"},
		{"5 at 0 | | #0 at 3; 2; 3; =<1 #0> at 4; ^#1 at 5; 6; 7", []int64{0, 3, 4, 5}, "5 at 0 | | #0 at 1; =<1 #0> at 2; ^#1 at 3; 6"},
		{"5 | arg 1 | 1; 2 at 3 3; 3 at 0; =4 at 4; 5", []int64{1, 3, 4}, "5 | arg 0 | 2 at 1 1; =4 at 2; 5"},
		// Cycles, live and not.
		{"5 | update 1 | 1; #0 at 1", []int64{1}, "5 | update 0 | #0 at 0"},
		{"5 | | 1; #0 at 1", nil, "5 | | "},
		{"5 | arg 3 | #0 at 2; 1; #0 at 0; #0 at 5; 2; (#0 #0) at 3", []int64{3, 5}, "5 | arg 0 | #0 at 1; (#0 #0) at 0"},
		{"5 at 1 | | #0 at 2; #0 at 2; =^#1 at 0; #0 at 3; #0 at 0", []int64{0, 1, 2}, "5 at 1 | | #0 at 2; #0 at 2; =^#1 at 0"},
		// A cell that only one that is not live leads to.
		{"5 at 0 | | 1; #0 at 0; #0 at 3; 4", []int64{0}, "5 at 0 | | 1"},
	} {
		s := needState{needBook(), needOf(row.from)}
		if !slices.Equal(liveAsStated(s.m), row.live) || !equalNeeds(collectAsStated(s.m), needOf(row.to)) {
			t.Fatalf("%s: the test is wrong: live %d, %s", row.from, liveAsStated(s.m), needText(collectAsStated(s.m)))
		}
		checkCollect(t, s, row.live, needOf(row.to))
		checkCollectAsStated(t, s)
	}
}

// TestExampleOfCollecting has the example of the section "LiveThunks and CollectNeed".
func TestExampleOfCollecting(t *testing.T) {
	b := bookOf("^(#0 + #0)")
	m, _ := impl.StartNeed(b, coreOf("(@0 (2 * 3))"))
	end, _, _ := impl.RunNeed(b, m, 12)
	if len(end.Heap) != 1 {
		t.Fatalf("%s", needText(end))
	}
	checkCollect(t, needState{b, end}, nil, needOf("12 | | "))
}

// TestCollectManyCells has heaps of the greatest size, in which all cells are live through each other, only some or none.
func TestCollectManyCells(t *testing.T) {
	b := needBook()
	for _, next := range []func(a int) []int64{
		func(a int) []int64 { return []int64{int64(a+1) % 2000} },
		func(a int) []int64 { return []int64{int64(a+1999) % 2000} },
		func(a int) []int64 { return []int64{int64(a+2) % 2000} },
		func(a int) []int64 { return []int64{int64(a*7+1) % 2000, int64(a*3) % 2000} },
		func(a int) []int64 { return slices.Repeat([]int64{int64(a / 2), int64(a % 7)}, 128) },
		func(a int) []int64 { return nil },
	} {
		m := needOf("5 at 0 | | ")
		for a := range 2000 {
			m.Heap = append(m.Heap, impl.Thunk{Done: a%3 == 0, Closure: impl.Closure{Term: impl.Core{Kind: impl.CoNum, Value: int64(a)}, Env: next(a)}})
		}
		checkCollectAsStated(t, needState{b, m})
		m.Control.Env[0] = 1999
		checkCollectAsStated(t, needState{b, m})
		m.Control.Env = nil
		checkCollectAsStated(t, needState{b, m})
		m.Stack = []impl.Frame{frameOf("update 1000"), frameOf("arg 1999")}
		checkCollectAsStated(t, needState{b, m})
	}
	m := withHeap(withStack(needOf("5 | | "), 400), 2000)
	for i := range m.Stack {
		if m.Stack[i].Kind == impl.FrOp {
			m.Stack[i].Closure.Env = []int64{int64(i * 5), int64(i*5 + 2)}
		}
	}
	checkCollectAsStated(t, needState{b, m})
}

func TestCollectManyNeeds(t *testing.T) {
	less, kept := 0, 0
	for _, s := range slices.Concat(randomNeeds(261, 3000), runningNeeds(262, 2000)) {
		want := checkCollectAsStated(t, s)
		if len(want.Heap) < len(s.m.Heap) && len(want.Heap) > 0 {
			less++
		}
		if len(want.Heap) == len(s.m.Heap) && len(want.Heap) > 0 {
			kept++
		}
	}
	if less < 500 || kept < 500 {
		t.Errorf("only %d and %d", less, kept)
	}
}

// checkCollectedRun is the second part of P10 for one state: at each moment the state that is collected makes the transition of the other one, and comes to the same state but for cells that are not live. It tells how often there was something to collect.
func checkCollectedRun(t *testing.T, random *rand.Rand, s needState, most int) int {
	t.Helper()
	collected := func(m impl.Need) impl.Need {
		less, code := impl.CollectNeed(s.b, m)
		if code != impl.OK {
			t.Fatalf("%.500s: code %d", needText(m), code)
		}
		return less
	}
	// One machine that is never collected, one that is collected at each moment, and one that is collected now and then.
	never, always, sometimes := s.m, collected(s.m), s.m
	changes := 0
	for range most {
		next, kind, code := impl.StepNeed(s.b, never)
		for _, m := range []*impl.Need{&always, &sometimes} {
			other, otherKind, otherCode := impl.StepNeed(s.b, *m)
			if otherKind != kind || otherCode != code {
				t.Errorf("%.500s: kind %d, code %d, collected %.500s: kind %d, code %d", needText(never), kind, code, needText(*m), otherKind, otherCode)
				return changes
			}
			*m = other
		}
		if code != impl.OK {
			break
		}
		before := len(always.Heap)
		never, always = next, collected(always)
		if len(always.Heap) < before {
			changes++
		}
		if random.Intn(5) == 0 {
			sometimes = collected(sometimes)
		}
		if !impl.SameNeed(collected(never), always) || !impl.SameNeed(collected(sometimes), always) {
			t.Errorf("%.500s and %.500s: collected at each moment %.500s", needText(never), needText(sometimes), needText(always))
			return changes
		}
	}
	for _, budget := range []int64{0, 3, 50} {
		end, counts, code := impl.RunNeed(s.b, s.m, budget)
		other, otherCounts, otherCode := impl.RunNeed(s.b, collected(s.m), budget)
		if code != otherCode || !slices.Equal(counts, otherCounts) || code == impl.OK && !equalNeeds(collected(end), collected(other)) {
			t.Errorf("%.500s with the budget %d: %.500s with %d, code %d, collected %.500s with %d, code %d", s, budget, needText(end), counts, code, needText(other), otherCounts, otherCode)
		}
	}
	return changes
}

// TestCollectedRuns is the second part of P10.
func TestCollectedRuns(t *testing.T) {
	random := rand.New(rand.NewSource(263))
	changes := 0
	for _, s := range slices.Concat(randomNeeds(264, 1500), runningNeeds(265, 1500)) {
		changes += checkCollectedRun(t, random, s, 60)
	}
	for text, b := range map[string]impl.Book{"(@0 6)": factorials(), "(@0 (^(#0 + #0) 3))": factorials(), "((@6 ^(#0 * #0)) ((@3 1) 3))": lists(), "(@0 ((@6 ^(#0 * 2)) ((@3 1) 4)))": lists(), "(@0 20)": countdown(), "(^((#0 #0) 3) ^#0)": needBook(), "(^<0 #0 #0> (@0 4))": needBook()} {
		m, _ := impl.StartNeed(b, coreOf(text))
		changes += checkCollectedRun(t, random, needState{b, m}, 400)
	}
	if changes < 400 {
		t.Errorf("only %d", changes)
	}
}

// TestValuesOfCollectedNeeds evaluates all fields by single runs, with a collection before each of them, and compares the value with that of NeedValue.
func TestValuesOfCollectedNeeds(t *testing.T) {
	compared := 0
	for _, s := range append(randomStates(266, 3000), machineState{moveBook(), coreOf("(^<0 #0 <1 #0 #0>> (@0 4))")}, machineState{lists(), coreOf("((@6 ^(#0 * #0)) ((@3 1) 3))")}) {
		want, _, code := impl.NeedValue(s.b, s.c, 2000)
		if code != impl.OK {
			continue
		}
		m, _ := impl.StartNeed(s.b, s.c)
		if got := collectedValue(t, needState{s.b, m}); !equalCores(got, want) {
			t.Errorf("%.500s: %.300s, want %.300s", s, impl.CoreText(got), impl.CoreText(want))
		}
		if len(want.Kids) > 0 {
			compared++
		}
	}
	if compared < 40 {
		t.Errorf("only %d", compared)
	}
}

// collectedValue is the value of the control. A field does not share what another one has evaluated.
func collectedValue(t *testing.T, s needState) impl.Core {
	t.Helper()
	less, code := impl.CollectNeed(s.b, s.m)
	end, _, endCode := impl.RunNeed(s.b, less, 2000)
	if code != impl.OK || endCode != impl.OK {
		t.Fatalf("%.500s: codes %d and %d", s, code, endCode)
	}
	value := impl.Core{Kind: end.Control.Term.Kind, Value: end.Control.Term.Value}
	if value.Kind == impl.CoNum {
		return value
	}
	for _, address := range end.Control.Env {
		value.Kids = append(value.Kids, collectedValue(t, needState{s.b, goingOn(end, coreOf("#0"), address)}))
	}
	return value
}

// TestCollectMakesRoom has machines that come to a full heap, and go on when it is collected.
func TestCollectMakesRoom(t *testing.T) {
	b := countdown()
	for _, text := range []string{"(@0 3) | | ", "<0 1 2 3> | | ", "(@0 3) | arg 0; op + #0 at 1 | "} {
		m := withHeap(needOf(text), 2000)
		checkStepNeed(t, needState{b, m}, impl.Need{}, 0, impl.ErrFull)
		less, _ := impl.CollectNeed(b, m)
		want, kind, code := nextNeed(b, less)
		if code != impl.OK {
			t.Fatalf("%s: the test is wrong: code %d", text, code)
		}
		checkStepNeed(t, needState{b, less}, want, kind, impl.OK)
	}
	// A run over 2500 numbers, of which each one takes a cell, with collections on the way.
	m, _ := impl.StartNeed(b, coreOf("(@0 2500)"))
	steps := 0
	for !isFinishedNeed(m) {
		next, _, code := nextOf(b, m)
		if code == impl.ErrFull {
			checkStepNeed(t, needState{b, m}, impl.Need{}, 0, impl.ErrFull)
			m, _ = impl.CollectNeed(b, m)
			continue
		}
		m = next
		if steps++; steps%5000 == 0 {
			m, _ = impl.CollectNeed(b, m)
		}
		if code != impl.OK || steps > 40000 {
			t.Fatalf("%d steps, code %d", steps, code)
		}
	}
	if impl.CoreText(m.Control.Term) != "7" || steps < 30000 {
		t.Errorf("%s behind %d steps", needText(m), steps)
	}
}
