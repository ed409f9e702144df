package tests

import (
	"fmt"
	"slices"
	"testing"

	"loop.example/g01074/impl"
)

// evaluated is all results of chapter 8 for a book and a term: core terms, books and counts, and the rest as a text.
type evaluated struct {
	cores []impl.Core
	books []impl.Book
	lists [][]int64
	rest  []any
}

func (e *evaluated) add(c impl.Core, rest ...any) {
	e.cores = append(e.cores, c)
	e.rest = append(e.rest, rest...)
}

func evaluate(s machineState) *evaluated {
	e := &evaluated{}
	c, code := impl.EraseCore(s.c)
	e.add(c, code)
	b, code := impl.EraseBook(s.b)
	e.books = append(e.books, b)
	e.rest = append(e.rest, code)
	c, kind, code := impl.StepCore(s.b, s.c)
	e.add(c, kind, code, impl.IsNormal(s.b, s.c))
	for _, budget := range []int64{-1, 0, 1, 5, 200} {
		c, counts, code := impl.Normalize(s.b, s.c, budget)
		e.add(c, code)
		e.lists = append(e.lists, counts)
	}
	c, redexes, code := impl.DevelopCore(s.b, s.c)
	e.add(c, redexes, code)
	return e
}

func (e *evaluated) told() string {
	told := fmt.Sprint(coreTexts(e.cores), e.lists, e.rest)
	for _, b := range e.books {
		told += fmt.Sprint(coreTexts(b.Defs))
	}
	return told
}

// spoil overwrites all memory of the results.
func (e *evaluated) spoil() {
	for _, b := range e.books {
		e.cores = append(e.cores, b.Defs...)
	}
	for _, c := range e.cores {
		spoilCore(c)
	}
	for _, b := range e.books {
		spoilSlice(b.Defs, impl.Core{Kind: -1})
	}
	for _, list := range e.lists {
		spoilSlice(list, -1)
	}
}

func (m *memoryOf) addEvaluated(e *evaluated) {
	for _, c := range e.cores {
		m.addCore(c)
	}
	for _, b := range e.books {
		sliceIn(m, b.Defs)
		for _, c := range b.Defs {
			m.addCore(c)
		}
	}
	for _, list := range e.lists {
		sliceIn(m, list)
	}
}

// statesOfAllKinds are machine states, terms and books with boxes and lets, and such as have no result.
func statesOfAllKinds() []machineState {
	list := randomStates(151, 400)
	for _, row := range rowsOfRedexes() {
		list = append(list, machineState{stepBook(), coreOf(row.from)})
	}
	for _, c := range append(closedCores(152, 100), openCores()...) {
		list = append(list, machineState{stepBook(), c}, machineState{impl.Book{Defs: append(numbers(23), c)}, coreOf("@23")})
	}
	for _, c := range brokenCores()[:30] {
		list = append(list, machineState{stepBook(), c}, machineState{impl.Book{Defs: []impl.Core{c}}, coreOf("1")})
	}
	list = append(list, machineState{}, machineState{stepBook(), doublings(7)}, machineState{impl.Book{Defs: []impl.Core{doublings(8)}}, doublings(8)}, machineState{impl.Book{Defs: []impl.Core{sizedErased(400)}}, coreOf("(@0 1)")})
	return list
}

// TestEvaluationIsPure is P1 for the functions of chapter 8.
func TestEvaluationIsPure(t *testing.T) {
	list := statesOfAllKinds()
	var first []string
	for i := range list {
		list[i] = machineState{roomyBook(list[i].b), roomyCore(list[i].c)}
		before := dumpBook(list[i].b) + dumpCore(list[i].c)
		results := evaluate(list[i])
		first = append(first, results.told())
		results.spoil()
		if after := dumpBook(list[i].b) + dumpCore(list[i].c); after != before {
			t.Fatalf("%.300s became %.300s", before, after)
		}
	}
	for i, s := range slices.Backward(list) {
		if got := evaluate(s).told(); got != first[i] {
			t.Errorf("first %.300s, then %.300s", first[i], got)
		}
	}
}

// TestEvaluationOfEmptySlices has empty slices where others are nil.
func TestEvaluationOfEmptySlices(t *testing.T) {
	var full func(c impl.Core) impl.Core
	full = func(c impl.Core) impl.Core {
		result := impl.Core{Kind: c.Kind, Value: c.Value, Data: append([]int64{}, c.Data...), Kids: []impl.Core{}}
		for _, kid := range c.Kids {
			result.Kids = append(result.Kids, full(kid))
		}
		return result
	}
	for _, s := range statesOfAllKinds() {
		other := machineState{impl.Book{Defs: []impl.Core{}}, full(s.c)}
		for _, c := range s.b.Defs {
			other.b.Defs = append(other.b.Defs, full(c))
		}
		if got, want := evaluate(other).told(), evaluate(s).told(); got != want {
			t.Errorf("%s: %.300s, with empty slices %.300s", s, want, got)
		}
	}
}

// sharedStates have slices that are one in memory at several places of the book and the term.
func sharedStates() []machineState {
	data, kids := []int64{1, 1}, coresOf("<0 2 3>", "(@0 1)")
	match := impl.Core{Kind: impl.CoMat, Data: data, Kids: kids[:1]}
	test := impl.Core{Kind: impl.CoSwi, Data: data, Kids: kids[1:]}
	both := []impl.Core{match, test}
	pair := impl.Core{Kind: impl.CoApp, Kids: both}
	function := impl.Core{Kind: impl.CoLam, Kids: []impl.Core{{Kind: impl.CoCon, Kids: []impl.Core{coreOf("#0"), coreOf("^#1"), match}}}}
	b := impl.Book{Defs: []impl.Core{function, pair, match, function}}
	var list []machineState
	for _, c := range []impl.Core{pair, match, test, pairOf(impl.CoApp, function, pair), pairOf(impl.CoApp, pair, pair), pairOf(impl.CoApp, coreOf("@0"), test), pairOf(impl.CoApp, coreOf("^<0 #0 #0 ^#1>"), pair), coreOf("[2 1:@1]"), coreOf("{2 1:@2}"), coreOf("@3"), function, pairOf(impl.CoLet, pair, coreOf("(#0 (#0 ^#1))")), pairOf(impl.CoLet, match, pairOf(impl.CoLet, pair, coreOf("!<2 #0 #1 #0>")))} {
		list = append(list, machineState{b, c})
	}
	return list
}

// TestEvaluatedSharesNoMemory is P1 for the results of chapter 8: no two slices, of one result, of two results or of an argument, have memory in common.
func TestEvaluatedSharesNoMemory(t *testing.T) {
	var m memoryOf
	var kept []any
	for _, s := range statesOfAllKinds() {
		s = machineState{roomyBook(s.b), roomyCore(s.c)}
		m.addEvaluated(&evaluated{cores: []impl.Core{s.c}, books: []impl.Book{s.b}})
		for range 2 {
			results := evaluate(s)
			m.addEvaluated(results)
			kept = append(kept, s, results)
		}
	}
	for _, s := range sharedStates() {
		before := dumpBook(s.b) + dumpCore(s.c)
		for range 2 {
			results := evaluate(s)
			m.addEvaluated(results)
			kept = append(kept, results)
		}
		if after := dumpBook(s.b) + dumpCore(s.c); after != before {
			t.Fatalf("%.300s became %.300s", before, after)
		}
	}
	if m.overlap() || len(m) < 10000 {
		t.Fatalf("%d slices, of which two share memory in %.300s", len(m), fmt.Sprint(kept...))
	}
}

// TestSharedArgumentsStayUnchanged overwrites results for states that share memory with each other.
func TestSharedArgumentsStayUnchanged(t *testing.T) {
	for i := range sharedStates() {
		list := sharedStates()
		want := evaluate(list[i]).told()
		evaluate(list[i]).spoil()
		if got := evaluate(list[i]).told(); got != want {
			t.Errorf("%s: first %.300s, then %.300s", list[i], want, got)
		}
	}
}

// TestEvalMainIsPure is P1 for EvalMain.
func TestEvalMainIsPure(t *testing.T) {
	list := append(liftingPrograms(), checkedProgram(append([]string{"main : !Nat = let h = twice (twice !(\\x:Nat. S[x])) in !(h Z)"}, evalTools()...)...), checkedProgram(append([]string{"main : Pair = P[fact 3, !(add Z S[Z])]"}, evalTools()...)...), checkedProgram("main : Int = 1 + x"), checkedProgram("main : Int = "+doublingLets(8)), withBranches(31, 31), impl.Program{})
	var m memoryOf
	var kept []any
	results := 0
	for _, p := range list {
		p = roomyProgram(p)
		m.addProgram(p)
		before := dumpProgram(p)
		told := ""
		for range 2 {
			for _, budget := range []int64{-1, 0, 1, 500} {
				c, code := impl.EvalMain(p, budget)
				m.addCore(c)
				kept = append(kept, p, c)
				told += fmt.Sprint(impl.CoreText(c), code, "; ")
				if len(c.Kids) > 0 {
					results++
				}
			}
		}
		if half := len(told) / 2; told[:half] != told[half:] {
			t.Errorf("%.300s is not the same twice", told)
		}
		for _, budget := range []int64{0, 1, 500} {
			c, _ := impl.EvalMain(p, budget)
			spoilCore(c)
		}
		if after := dumpProgram(p); after != before {
			t.Fatalf("%.300s became %.300s", before, after)
		}
	}
	if m.overlap() || results < 50 {
		t.Fatalf("%d results, of which two share memory in %.300s", results, fmt.Sprint(kept...))
	}
}

// TestEvaluationOfAnyDepthAndWidth has arguments that are nested thousands of levels deep, or so wide or tangled that they cannot be walked through node by node.
func TestEvaluationOfAnyDepthAndWidth(t *testing.T) {
	for i, c := range endlessCores() {
		for _, s := range []machineState{{stepBook(), c}, {impl.Book{Defs: []impl.Core{c}}, coreOf("1")}, {impl.Book{Defs: slices.Repeat([]impl.Core{c}, 1000)}, c}} {
			results := evaluate(s)
			for _, c := range results.cores[1:] {
				if !equalCores(c, impl.Core{}) {
					t.Errorf("term %d: %.300s", i, impl.CoreText(c))
				}
			}
			for _, list := range results.lists {
				if len(list) > 0 {
					t.Errorf("term %d: counts %d", i, list)
				}
			}
		}
	}
}
