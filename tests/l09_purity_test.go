package tests

import (
	"fmt"
	"slices"
	"strings"
	"testing"

	"loop.example/g01074/impl"
)

// needed is all results of chapter 9 for a book, a state and a term: states, core terms and lists, and the rest as a text.
type needed struct {
	states []impl.Need
	cores  []impl.Core
	lists  [][]int64
	rest   []any
}

func (n *needed) add(m impl.Need, rest ...any) {
	n.states = append(n.states, m)
	n.rest = append(n.rest, rest...)
}

func need(s needState, c impl.Core) *needed {
	n := &needed{}
	n.rest = append(n.rest, impl.ValidNeed(s.b, s.m), impl.SameNeed(s.m, s.m), impl.IsFinished(s.b, s.m))
	m, code := impl.StartNeed(s.b, c)
	n.add(m, code, impl.SameNeed(m, s.m))
	m, kind, code := impl.StepNeed(s.b, s.m)
	n.add(m, kind, code, impl.SameNeed(s.m, m))
	m, code = impl.CollectNeed(s.b, s.m)
	n.add(m, code)
	live, code := impl.LiveThunks(s.b, s.m)
	n.lists = append(n.lists, live)
	n.rest = append(n.rest, code)
	for _, budget := range []int64{-1, 0, 1, 5, 200} {
		m, counts, code := impl.RunNeed(s.b, s.m, budget)
		n.add(m, code)
		value, work, code := impl.NeedValue(s.b, c, budget)
		n.cores = append(n.cores, value)
		n.lists = append(n.lists, counts, work)
		n.rest = append(n.rest, code)
	}
	return n
}

func (n *needed) told() string {
	told := fmt.Sprint(coreTexts(n.cores), n.lists, n.rest)
	for _, m := range n.states {
		told += needText(m)
	}
	return told
}

// spoil overwrites all memory of the results.
func (n *needed) spoil() {
	for _, m := range n.states {
		spoilNeed(m)
	}
	for _, c := range n.cores {
		spoilCore(c)
	}
	for _, list := range n.lists {
		spoilSlice(list, -1)
	}
}

func spoilClosure(c impl.Closure) {
	spoilCore(c.Term)
	spoilSlice(c.Env, -1)
}

func spoilNeed(m impl.Need) {
	spoilClosure(m.Control)
	for _, f := range m.Stack {
		spoilSlice(f.Data, -1)
		spoilClosure(f.Closure)
	}
	for _, cell := range m.Heap {
		spoilClosure(cell.Closure)
	}
	spoilSlice(m.Stack, impl.Frame{Kind: -1, Value: -1})
	spoilSlice(m.Heap, impl.Thunk{Done: true, Closure: impl.Closure{Env: []int64{-1}}})
}

func (m *memoryOf) addClosure(c impl.Closure) {
	m.addCore(c.Term)
	sliceIn(m, c.Env)
}

func (m *memoryOf) addState(s impl.Need) {
	m.addClosure(s.Control)
	sliceIn(m, s.Stack)
	sliceIn(m, s.Heap)
	for _, f := range s.Stack {
		sliceIn(m, f.Data)
		m.addClosure(f.Closure)
	}
	for _, cell := range s.Heap {
		m.addClosure(cell.Closure)
	}
}

func (m *memoryOf) addNeeded(n *needed) {
	for _, s := range n.states {
		m.addState(s)
	}
	for _, c := range n.cores {
		m.addCore(c)
	}
	for _, list := range n.lists {
		sliceIn(m, list)
	}
}

// roomy is a list in memory of its own with unused capacity that is filled.
func roomy[T any](list []T, with T) []T {
	result := append(make([]T, 0, len(list)+2), list...)
	for i := len(list); i < cap(result); i++ {
		result[:cap(result)][i] = with
	}
	return result
}

func roomyClosure(c impl.Closure) impl.Closure {
	return impl.Closure{Term: roomyCore(c.Term), Env: roomy(c.Env, 9)}
}

func roomyNeed(m impl.Need) impl.Need {
	result := impl.Need{Control: roomyClosure(m.Control)}
	for _, f := range m.Stack {
		result.Stack = append(result.Stack, impl.Frame{Kind: f.Kind, Value: f.Value, Data: roomy(f.Data, 9), Closure: roomyClosure(f.Closure)})
	}
	for _, cell := range m.Heap {
		result.Heap = append(result.Heap, impl.Thunk{Done: cell.Done, Closure: roomyClosure(cell.Closure)})
	}
	result.Stack = roomy(result.Stack, frameOf("swi 7 8"))
	result.Heap = roomy(result.Heap, impl.Thunk{Done: true, Closure: closureOf("7 at 8")})
	return result
}

// dumpNeed tells a state in full, with what is in the unused capacity of its slices.
func dumpNeed(m impl.Need) string {
	var b strings.Builder
	closure := func(c impl.Closure) {
		b.WriteString(dumpCore(c.Term) + fmt.Sprint(len(c.Env), c.Env[:cap(c.Env)]))
	}
	closure(m.Control)
	b.WriteString(fmt.Sprint(len(m.Stack), len(m.Heap)))
	for _, f := range m.Stack[:cap(m.Stack)] {
		b.WriteString(fmt.Sprint(f.Kind, f.Value, len(f.Data), f.Data[:cap(f.Data)]))
		closure(f.Closure)
	}
	for _, cell := range m.Heap[:cap(m.Heap)] {
		b.WriteString(fmt.Sprint(cell.Done))
		closure(cell.Closure)
	}
	return b.String()
}

// needCase is a book, a state and a term.
type needCase struct {
	needState
	c impl.Core
}

func (n needCase) dump() string { return dumpBook(n.b) + dumpNeed(n.m) + dumpCore(n.c) }

func (n needCase) results() *needed { return need(n.needState, n.c) }

// needsOfAllKinds are states of all kinds, valid or not, with terms.
func needsOfAllKinds() []needCase {
	var list []needCase
	terms := randomStates(271, 300)
	for i, s := range slices.Concat(randomNeeds(271, 300), runningNeeds(272, 200)) {
		list = append(list, needCase{s, terms[i%len(terms)].c})
	}
	for _, rows := range movesOfNeeds() {
		for _, row := range rows {
			list = append(list, needCase{needState{moveBook(), needOf(row[0])}, coreOf("<0 (@0 3) @1>")})
		}
	}
	for _, text := range stuckNeeds() {
		list = append(list, needCase{needState{moveBook(), needOf(text)}, coreOf("(^<0 #0 #0 <1 #0>> (@0 4))")})
	}
	for _, text := range []string{"5 | | ", "^(#0 #1) at 0 | | 5", "<0 #0 #1> at 1 1 | | @0; #0 at 0", "5 at 0 | | ", "! 5 | | ", "5 | mat 9 | ", "5 | op + 1 at 7 | 1 at 0; 2; =3", "? at 0 | update 0 | =?"} {
		list = append(list, needCase{needState{needBook(), needOf(strings.Replace(text, "! ", "!", 1))}, coreOf("<2 <1 (1 + 2)> (@0 @1) <3>>")})
	}
	for _, c := range slices.Concat(brokenCores()[:20], openCores(), closedCores(273, 20)) {
		list = append(list, needCase{needState{impl.Book{Defs: []impl.Core{c}}, needOf("5 | | ")}, c}, needCase{needState{needBook(), impl.Need{Control: impl.Closure{Term: c}}}, c})
	}
	return append(list, needCase{}, needCase{needState{needBook(), withHeap(withStack(needOf("#0 at 1 | | "), 50), 100)}, conTree(200)})
}

// TestNeedsArePure is P1 for the functions of chapter 9.
func TestNeedsArePure(t *testing.T) {
	list := needsOfAllKinds()
	var first []string
	for i := range list {
		list[i] = needCase{needState{roomyBook(list[i].b), roomyNeed(list[i].m)}, roomyCore(list[i].c)}
		before := list[i].dump()
		results := list[i].results()
		first = append(first, results.told())
		results.spoil()
		if after := list[i].dump(); after != before {
			t.Fatalf("%.300s became %.300s", before, after)
		}
	}
	for i, n := range slices.Backward(list) {
		if got := n.results().told(); got != first[i] {
			t.Errorf("first %.300s, then %.300s", first[i], got)
		}
	}
}

// TestNeedsWithEmptySlices has empty slices where others are nil, and other unused capacity.
func TestNeedsWithEmptySlices(t *testing.T) {
	var full func(c impl.Core) impl.Core
	full = func(c impl.Core) impl.Core {
		result := impl.Core{Kind: c.Kind, Value: c.Value, Data: append([]int64{}, c.Data...), Kids: []impl.Core{}}
		for _, kid := range c.Kids {
			result.Kids = append(result.Kids, full(kid))
		}
		return result
	}
	closure := func(c impl.Closure) impl.Closure {
		return impl.Closure{Term: full(c.Term), Env: append([]int64{}, c.Env...)}
	}
	for _, n := range needsOfAllKinds() {
		other := needCase{needState{impl.Book{Defs: []impl.Core{}}, impl.Need{Control: closure(n.m.Control), Stack: []impl.Frame{}, Heap: []impl.Thunk{}}}, full(n.c)}
		for _, c := range n.b.Defs {
			other.b.Defs = append(other.b.Defs, full(c))
		}
		for _, f := range n.m.Stack {
			other.m.Stack = append(other.m.Stack, impl.Frame{Kind: f.Kind, Value: f.Value, Data: append([]int64{}, f.Data...), Closure: closure(f.Closure)})
		}
		for _, cell := range n.m.Heap {
			other.m.Heap = append(other.m.Heap, impl.Thunk{Done: cell.Done, Closure: closure(cell.Closure)})
		}
		if got, want := other.results().told(), n.results().told(); got != want {
			t.Errorf("%s: %.300s, with empty slices %.300s", n.needState, want, got)
		}
		if !impl.SameNeed(n.m, other.m) || !impl.SameNeed(other.m, n.m) {
			t.Errorf("%s is not the same with empty slices", n.needState)
		}
	}
}

// sharedNeeds have slices that are one in memory at several places of the book, the state and the term.
func sharedNeeds() []needCase {
	data, env := []int64{1, 1}, []int64{0, 1}
	kids := coresOf("<0 2 3>", "(@0 #1)")
	test := impl.Core{Kind: impl.CoSwi, Data: data, Kids: kids[1:]}
	function := impl.Core{Kind: impl.CoLam, Kids: []impl.Core{test}}
	closed := impl.Core{Kind: impl.CoMat, Data: data, Kids: kids[:1]}
	b := impl.Book{Defs: []impl.Core{coreOf("^#0"), closed, {Kind: impl.CoCon, Kids: []impl.Core{closed, closed}}}}
	heap := []impl.Thunk{{Closure: impl.Closure{Term: test, Env: env}}, {Done: true, Closure: impl.Closure{Term: function, Env: env}}, {Closure: impl.Closure{Term: closed, Env: env}}}
	stack := []impl.Frame{{Kind: impl.FrOp, Value: 1, Closure: impl.Closure{Term: test, Env: env}}, {Kind: impl.FrMat, Data: data}, {Kind: impl.FrSwi, Data: data}}
	var list []needCase
	for _, c := range []impl.Core{test, function, closed, coreOf("#0"), coreOf("#1"), coreOf("5"), coreOf("@2"), pairOf(impl.CoApp, function, test), pairOf(impl.CoApp, test, coreOf("#1")), pairOf(impl.CoOp+0, test, test), pairOf(impl.CoCon, test, test), pairOf(impl.CoCon, coreOf("#0"), coreOf("#1"))} {
		if c.Kind == impl.CoOp {
			c.Value = impl.OpMul
		}
		for _, frames := range [][]impl.Frame{nil, stack, stack[:1], stack[:2], {{Kind: impl.FrUpdate, Value: 0}}, {{Kind: impl.FrArg, Value: 1}}} {
			list = append(list, needCase{needState{b, impl.Need{Control: impl.Closure{Term: c, Env: env}, Stack: frames, Heap: heap}}, pairOf(impl.CoCon, closed, coreOf("@2"))})
		}
	}
	return list
}

// TestNeedsShareNoMemory is P1 for the results of chapter 9: no two slices, of one result, of two results or of an argument, have memory in common.
func TestNeedsShareNoMemory(t *testing.T) {
	var m memoryOf
	var kept []any
	for _, n := range needsOfAllKinds() {
		n = needCase{needState{roomyBook(n.b), roomyNeed(n.m)}, roomyCore(n.c)}
		m.addNeeded(&needed{states: []impl.Need{n.m}, cores: append(slices.Clone(n.b.Defs), n.c)})
		sliceIn(&m, n.b.Defs)
		for range 2 {
			results := n.results()
			m.addNeeded(results)
			kept = append(kept, n, results)
		}
	}
	valid := 0
	for _, n := range sharedNeeds() {
		before := n.dump()
		for range 2 {
			results := n.results()
			m.addNeeded(results)
			kept = append(kept, results)
		}
		if after := n.dump(); after != before {
			t.Fatalf("%.300s became %.300s", before, after)
		}
		if impl.ValidNeed(n.b, n.m) {
			valid++
		}
	}
	if m.overlap() || len(m) < 10000 || valid < 50 {
		t.Fatalf("%d slices of %d valid states, of which two share memory in %.300s", len(m), valid, fmt.Sprint(kept...))
	}
}

// TestSharedNeedsStayUnchanged overwrites results for states that share memory with each other.
func TestSharedNeedsStayUnchanged(t *testing.T) {
	for i := range sharedNeeds() {
		list := sharedNeeds()
		want := list[i].results().told()
		list[i].results().spoil()
		if got := list[i].results().told(); got != want {
			t.Errorf("%s: first %.300s, then %.300s", list[i].needState, want, got)
		}
	}
}

// TestNeedsOfAnyDepthAndWidth has states with terms that cannot be walked through node by node, and with lists that are very long or one in memory at many places.
func TestNeedsOfAnyDepthAndWidth(t *testing.T) {
	long := make([]int64, 300000)
	b := needBook()
	var list []needCase
	add := func(m impl.Need, c impl.Core) {
		list = append(list, needCase{needState{b, m}, c}, needCase{needState{impl.Book{Defs: []impl.Core{c}}, m}, c}, needCase{needState{impl.Book{Defs: slices.Repeat([]impl.Core{c}, 1000)}, m}, coreOf("1")})
	}
	for _, c := range endlessCores() {
		endless := impl.Closure{Term: c, Env: long}
		for _, closure := range []impl.Closure{{Term: c}, endless} {
			add(impl.Need{Control: closure}, c)
			add(impl.Need{Control: closureOf("5"), Stack: []impl.Frame{{Kind: impl.FrOp, Value: 1, Closure: closure}}}, c)
			add(impl.Need{Control: closureOf("5"), Heap: []impl.Thunk{{Closure: closure}}}, c)
		}
		add(impl.Need{Control: endless, Stack: slices.Repeat([]impl.Frame{{Kind: impl.FrOp, Value: 1, Data: long, Closure: endless}}, 3000), Heap: slices.Repeat([]impl.Thunk{{Done: true, Closure: endless}}, 3000)}, c)
	}
	for kind := int64(0); kind <= 7; kind++ {
		for _, closure := range []impl.Closure{{}, closureOf("5")} {
			add(impl.Need{Control: closureOf("5"), Stack: []impl.Frame{{Kind: kind, Value: 1, Data: long, Closure: closure}}}, coreOf("#0"))
			add(impl.Need{Control: closureOf("5"), Stack: slices.Repeat([]impl.Frame{{Kind: kind, Value: 1, Data: long, Closure: closure}}, 50000)}, coreOf("#0"))
		}
	}
	add(impl.Need{Control: impl.Closure{Term: coreOf("5"), Env: long}, Heap: needOf("1 | | 1").Heap}, coreOf("#0"))
	add(impl.Need{Control: closureOf("5"), Heap: slices.Repeat(needOf("1 | | 1").Heap, 50000)}, coreOf("#0"))
	add(impl.Need{Control: closureOf("5"), Heap: slices.Repeat([]impl.Thunk{{Closure: impl.Closure{Term: coreOf("5"), Env: long}}}, 50000)}, coreOf("#0"))
	for i, n := range list {
		results := n.results()
		if results.rest[0] != false || results.rest[1] != true || results.rest[2] != false {
			t.Errorf("state %d: valid, the same, finished: %v", i, results.rest[:3])
		}
		for k, m := range results.states {
			if k > 0 && !equalNeeds(m, impl.Need{}) {
				t.Errorf("state %d: %.300s", i, needText(m))
			}
		}
		for _, list := range results.lists[:1] {
			if len(list) > 0 {
				t.Errorf("state %d: list %.300v", i, list)
			}
		}
	}
}

// TestSameNeedOfTangledNeeds has states in memory of their own that are equal, or differ in the last place only.
func TestSameNeedOfTangledNeeds(t *testing.T) {
	tangled := func(last int64) impl.Need {
		closure := impl.Closure{Term: tangledCore(200, coreOf("#0")), Env: make([]int64, 100000)}
		m := impl.Need{Control: closure, Stack: slices.Repeat([]impl.Frame{{Kind: 3, Data: make([]int64, 100000), Closure: closure}}, 50000), Heap: slices.Repeat([]impl.Thunk{{Closure: closure}}, 50000)}
		end := impl.Closure{Term: tangledCore(200, impl.Core{Kind: impl.CoVar, Value: last}), Env: append(make([]int64, 100000), last)}
		m.Heap = append(m.Heap, impl.Thunk{Closure: end})
		return m
	}
	m := tangled(1)
	m.Heap[50000].Done = true
	if !impl.SameNeed(tangled(1), tangled(1)) || impl.SameNeed(tangled(1), tangled(2)) || impl.SameNeed(tangled(2), tangled(1)) || impl.SameNeed(m, tangled(1)) {
		t.Error("tangled states are not compared")
	}
}
