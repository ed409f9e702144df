package tests

import (
	"fmt"
	"math"
	"math/rand"
	"slices"
	"testing"

	"loop.example/g01074/impl"
)

// needBook has two definitions.
func needBook() impl.Book { return bookOf("^(#0 + #0)", "7") }

func checkValidNeed(t *testing.T, b impl.Book, m impl.Need, want bool) {
	t.Helper()
	if got := impl.ValidNeed(b, m); got != want {
		t.Errorf("%.300s in %.300q is valid: %t, want %t", needText(m), coreTexts(b.Defs), got, want)
	}
	if got := impl.IsFinished(b, m); got != (want && isFinishedNeed(m)) {
		t.Errorf("%.300s in %.300q is finished: %t", needText(m), coreTexts(b.Defs), got)
	}
	if !want {
		checkNoResult(t, b, m)
	}
}

// checkNoResult has the results for a state that is not valid.
func checkNoResult(t *testing.T, b impl.Book, m impl.Need) {
	t.Helper()
	if next, kind, code := impl.StepNeed(b, m); !isNoNeed(next, code, impl.ErrInvalid) || kind != 0 {
		t.Errorf("%.300s becomes %.300s, kind %d, code %d", needText(m), needText(next), kind, code)
	}
	for _, budget := range []int64{-1, 0, 1, 20000, 20001} {
		if end, counts, code := impl.RunNeed(b, m, budget); !isNoNeed(end, code, impl.ErrInvalid) || len(counts) > 0 {
			t.Errorf("%.300s ends with %.300s, counts %d, code %d", needText(m), needText(end), counts, code)
		}
	}
	if list, code := impl.LiveThunks(b, m); len(list) > 0 || code != impl.ErrInvalid {
		t.Errorf("%.300s has the live cells %d, code %d", needText(m), list, code)
	}
	if less, code := impl.CollectNeed(b, m); !isNoNeed(less, code, impl.ErrInvalid) {
		t.Errorf("%.300s is collected to %.300s, code %d", needText(m), needText(less), code)
	}
}

// isNoNeed reports whether the results of a failed call are the zero value and this code.
func isNoNeed(m impl.Need, code, want int64) bool {
	return code == want && equalNeeds(m, impl.Need{})
}

// TestNeedTexts checks the notation of these tests.
func TestNeedTexts(t *testing.T) {
	for _, text := range []string{"5 |  | ", "(#0 #1) at 0 1 | update 0; arg 1; op + ^#0 at 1 0; op1 / -3; mat 0 1 2; swi 1 0; op = <0> | =<2 #0> at 1; 5", "#0 at 0 |  | =^#0"} {
		if got := needText(needOf(text)); got != text {
			t.Errorf("%s is read as %s", text, got)
		}
	}
}

// TestValidNeed has states that are valid, and beside each of them such as look like it and are not.
func TestValidNeed(t *testing.T) {
	b := needBook()
	for _, row := range [][2][]string{
		{{"5 | | ", "^#0 | | ", "<3> | | ", "@1 | | ", "(@0 @1) | | ", "[0 1:@1] | | ", "{1 0:5} | | 1"}, {"? | | ", "#0 | | ", "^#1 | | ", "@2 | | ", "[0 2:@1] | | ", "{2 0:5} | | ", "!5 | | ", "(let 1 in #0) | | ", "^!#0 | | ", "2147483648 | | ", "<4> | | "}},
		{{"5 at 0 | | 1", "5 at 1 0 1 1 | | 1; 2", "#0 at 0 | | 1", "#1 at 0 0 | | 1", "^#1 at 0 | | 1", "^(#0 #2) at 0 0 | | 1"}, {"5 at 0 | | ", "5 at 1 | | 1", "5 at -1 | | 1", "5 at 0 -1 | | 1", "5 at 0 2 | | 1; 2", "#1 at 0 | | 1", "^#2 at 0 | | 1", "^(#0 #2) at 0 | | 1", "5 at 4294967296 | | 1", "? at 0 | | 1"}},
		// Cells.
		{{"5 | | #0 at 0", "5 | | #0 at 1; #0 at 0", "5 | | (1 + #0) at 0 1; ^#2 at 0 0", "5 | | @1; <0 1 2>", "5 | | <0 #1 #0> at 0 0"}, {"5 | | #0", "5 | | #0 at 1", "5 | | #0 at 0; #0 at 2", "5 | | (1 + #0) at -1; 3", "5 | | @2", "5 | | ?", "5 | | 1; 2; !3", "5 | | (let 1 in 2)", "5 | | [2:1]", "5 | | 1 at -1"}},
		// Cells that are Done.
		{{"5 | | =5", "5 | | =5 at 0 0", "5 | | =^#0", "5 | | =^(#0 #1) at 0", "5 | | =^@1 at 0 0 0", "5 | | =<2>", "5 | | =<0 #0> at 0", "5 | | 1; =<3 #0 #1 #2> at 0 0 1"}, {"5 | | =#0 at 0", "5 | | =@1", "5 | | =(1 + 2)", "5 | | =(^#0 1)", "5 | | =[0:<0>]", "5 | | ={0 1:5}", "5 | | =<2> at 0", "5 | | =<0 #0> at 0 0", "5 | | =<0 5> at 0", "5 | | =<0 5>", "5 | | =<0 #1 #0> at 0 0", "5 | | =<0 #0 #0> at 0 0", "5 | | =<0 #1 #2> at 0 0 0", "5 | | =<0 #0 ^#0> at 0 0", "5 | | =<0 #0 #1> at 0 0 0", "5 | | =^#1", "5 | | =5 at 1", "5 | | =?", "5 | | =!5", "5 | | 1; =<3 #0 #1 #3> at 0 0 1"}},
		// Frames.
		{{"5 | update 0 | 1", "5 | update 1 | 1; =2", "^#0 | update 0; update 0 | =1"}, {"5 | update 0 | ", "5 | update 1 | 1", "5 | update -1 | 1", "5 | update 0; update 2 | 1; 2"}},
		{{"5 | arg 0 | 1", "5 | arg 1 | 1; =2", "5 | arg 1; arg 0 | =1; 2"}, {"5 | arg 0 | ", "5 | arg 1 | 1", "5 | arg -1 | 1", "5 | arg 2; arg 0 | 1; 2"}},
		{{"5 | op + 1 | ", "5 | op = ^#0 | ", "5 | op * #0 at 0 | 1", "5 | op - (#1 #1) at 0 0 1 | 1; 2", "5 | op < @1 at 0 | 1", "5 | op / {1 0:5} | "}, {"5 | op + #0 | ", "5 | op + ? | ", "5 | op + @2 | ", "5 | op + {1 2:5} | ", "5 | op + !5 | ", "5 | op + ^(let 1 in #0) | ", "5 | op + 1 at 0 | ", "5 | op + 1 at 1 | 1", "5 | op + 1 at -1 | 1", "5 | op * #1 at 0 | 1"}},
		{{"5 | op1 + 0 | ", "5 | op1 = 2147483647 | ", "5 | op1 < -2147483648 | "}, {"5 | op1 + 2147483648 | ", "5 | op1 + -2147483649 | ", "5 | op1 +  | ", "5 | op1 + 1 2 | ", "5 | op1 + 9223372036854775807 | "}},
		{{"5 | mat 0 | ", "5 | mat 1 | ", "5 | mat 1 1 0 | ", "5 | mat 0 0 0 1 | "}, {"5 | mat  | ", "5 | mat 0 0 0 0 1 | ", "5 | mat 2 | ", "5 | mat -1 | ", "5 | mat 0 0 0 2 | ", "5 | mat 0 4294967296 | "}},
		{{"5 | swi 0 1 | ", "5 | swi 1 1 | "}, {"5 | swi  | ", "5 | swi 0 | ", "5 | swi 0 1 0 | ", "5 | swi 0 2 | ", "5 | swi -1 0 | "}},
	} {
		for _, text := range row[0] {
			checkValidNeed(t, b, needOf(text), true)
		}
		for _, text := range row[1] {
			checkValidNeed(t, b, needOf(text), false)
		}
	}
}

// TestFieldsOfFrames has frames of all kinds with all kinds of fields, wherever they are on the stack.
func TestFieldsOfFrames(t *testing.T) {
	b := needBook()
	m := needOf("5 | | 1; =2")
	datas := [][]int64{nil, {}, {0}, {1}, {2}, {-1}, {0, 1}, {1, 0}, {0, 2}, {1, 1, 1}, {0, 0, 0, 1}, {0, 0, 0, 0, 1}, {-1 << 31}, {-1<<31 - 1}, {1<<31 - 1}, {1 << 31}, {math.MinInt64}, {math.MaxInt64}}
	closures := []impl.Closure{{}, {Env: []int64{}}, {Env: []int64{0}}, {Term: impl.Core{Value: 1}}, {Term: impl.Core{Kids: numbers(1)}}, {Term: impl.Core{Data: []int64{0}}}, {Term: impl.Core{Kind: 12}}, {Term: impl.Core{Data: []int64{}, Kids: []impl.Core{}}}}
	for _, text := range []string{"5", "#0 at 1", "#0", "^#0", "#0 at 2", "5 at -1", "@1", "@2", "!5", "<0 #1> at 0 1", "^#1 at 0", "^#1", "(let 1 in 2)"} {
		closures = append(closures, closureOf(text))
	}
	counts := map[int64]int{}
	for kind := int64(-1); kind <= 8; kind++ {
		for _, value := range []int64{math.MinInt64, -1, 0, 1, 2, 3, 6, 7, 256, 1 << 32, 1<<32 + 1, math.MaxInt64} {
			for _, data := range datas {
				for _, closure := range closures {
					f := impl.Frame{Kind: kind, Value: value, Data: data, Closure: closure}
					want := isNeedFrame(b, m, f)
					if want {
						counts[kind]++
					}
					for _, stack := range [][]impl.Frame{{f}, {f, frameOf("arg 0")}, {frameOf("swi 1 0"), f}} {
						other := m
						other.Stack = stack
						if impl.ValidNeed(b, other) != want {
							t.Errorf("%.300v: valid is %t", other, !want)
						}
					}
				}
			}
		}
	}
	// The frames of a kind that are valid: addresses, addresses, operators and closures, operators and integers, lists of definitions, pairs of them.
	none, valid := 3, 6
	for kind, want := range map[int64]int{1: 2 * 2 * none, 2: 2 * 2 * none, 3: 4 * 2 * valid, 4: 4 * 6 * none, 5: 6 * none, 6: 2 * none} {
		if counts[kind] != want {
			t.Errorf("kind %d: %d valid frames, want %d", kind, counts[kind], want)
		}
	}
	if len(counts) != 6 {
		t.Errorf("kinds %v", counts)
	}
}

// addresses is a list of that many addresses of the cells 0 and 1.
func addresses(n int) []int64 {
	var list []int64
	for i := range n {
		list = append(list, int64(i%2))
	}
	return list
}

// withStack and withHeap have that many frames or cells.
func withStack(m impl.Need, n int) impl.Need {
	m.Stack = slices.Repeat([]impl.Frame{frameOf("swi 1 0"), frameOf("mat 0"), frameOf("op + 1"), frameOf("op1 * 3")}, n/4+1)[:n]
	return m
}

func withHeap(m impl.Need, n int) impl.Need {
	m.Heap = slices.Repeat(needOf("1 | | 5; =<1 #0> at 0; (@0 #0) at 1; =^#0; =4 at 0 0").Heap, n/5+1)[:n]
	return m
}

// TestLimitsOfNeeds has environments, stacks and heaps of the greatest length, one less and one more.
func TestLimitsOfNeeds(t *testing.T) {
	b := needBook()
	base := withHeap(needOf("5 | | "), 5)
	for _, n := range []int{0, 1, 255, 256, 257, 300} {
		for _, c := range coresOf("5", "^#0", "@1", "#0", "<0 #0>", "#254", "#255", "^#255", "^#0") {
			closure := impl.Closure{Term: c, Env: addresses(n)}
			free := greatestIndex(c)
			if c.Kind == impl.CoLam {
				free--
			}
			want := n <= 256 && free < int64(n)
			m := base
			m.Control = closure
			checkValidNeed(t, b, m, want)
			m = base
			m.Stack = []impl.Frame{frameOf("arg 0"), {Kind: impl.FrOp, Value: 1, Closure: closure}}
			checkValidNeed(t, b, m, want)
			m = base
			m.Heap = append(slices.Clone(m.Heap), impl.Thunk{Closure: closure})
			checkValidNeed(t, b, m, want)
			m.Heap = append(slices.Clone(base.Heap), impl.Thunk{Done: true, Closure: closure})
			checkValidNeed(t, b, m, want && hasForm(closure))
		}
	}
	for _, n := range []int{0, 1, 399, 400, 401, 1000} {
		checkValidNeed(t, b, withStack(base, n), n <= 400)
	}
	for _, n := range []int{2, 100, 1999, 2000, 2001, 5000} {
		m := withHeap(needOf("#0 at 0 | arg 0 | "), n)
		checkValidNeed(t, b, m, n <= 2000)
		m.Control.Env[0] = int64(n - 1)
		m.Stack[0].Value = int64(n - 1)
		checkValidNeed(t, b, m, n <= 2000)
		m.Stack[0].Value = int64(n)
		checkValidNeed(t, b, m, false)
	}
	// The last one of many frames or cells is not valid.
	m := withStack(base, 400)
	m.Stack[399] = frameOf("mat 2")
	checkValidNeed(t, b, m, false)
	m = withHeap(base, 2000)
	m.Heap[1999] = needOf("1 | | =@1").Heap[0]
	checkValidNeed(t, b, m, false)
	m.Heap[1999] = needOf("1 | | 5 at 2000").Heap[0]
	checkValidNeed(t, b, m, false)
	m.Heap[1999] = needOf("1 | | 5 at 1999").Heap[0]
	checkValidNeed(t, b, m, true)
}

// TestBooksOfNeeds has books that are not valid or not erased, and such that have not all definitions that are named.
func TestBooksOfNeeds(t *testing.T) {
	m := needOf("@0 at 0 | arg 0; op + @0; mat 0; swi 0 0 | =^@0")
	for _, b := range []impl.Book{{}, {Defs: numbers(25)}, bookOf("!1"), bookOf("1", "(let 1 in #0)"), bookOf("#0"), bookOf("@1"), bookOf("1", "^#1"), bookOf("?"), {Defs: []impl.Core{sizedErased(401)}}} {
		checkValidNeed(t, b, m, false)
		checkValidNeed(t, b, needOf("5 | | "), false)
		if next, code := impl.StartNeed(b, coreOf("5")); !isNoNeed(next, code, impl.ErrInvalid) {
			t.Errorf("%.300q begins with %s, code %d", coreTexts(b.Defs), needText(next), code)
		}
	}
	for _, b := range []impl.Book{{Defs: numbers(24)}, bookOf("1"), needBook(), {Defs: []impl.Core{sizedErased(400)}}} {
		checkValidNeed(t, b, m, true)
		n := len(b.Defs)
		for text, want := range map[string]bool{"@%d | | ": true, "5 | op + @%d | ": true, "5 | mat 0 %d | ": true, "5 | swi 0 %d | ": true, "5 | | @%d": true, "5 | | =^[%d:1]": true} {
			checkValidNeed(t, b, needOf(fmt.Sprintf(text, n-1)), want)
			checkValidNeed(t, b, needOf(fmt.Sprintf(text, n)), false)
		}
	}
}

// TestTermsOfNeeds has terms of all kinds, valid or not, as the control, in a cell and in a frame.
func TestTermsOfNeeds(t *testing.T) {
	b := impl.Book{Defs: numbers(24)}
	broken := brokenCores()
	list := slices.Concat(broken[:40], broken[len(broken)-3:], openCores(), closedCores(201, 100), randomCores(202, 100), []impl.Core{sizedErased(400), sizedErased(401), pillar(80, "1"), pillar(81, "1"), sizedCore(401, "#0")})
	for _, c := range list {
		for _, length := range []int{0, 1, 3} {
			closure := impl.Closure{Term: c, Env: addresses(length)}
			m := needOf("5 | | 1; 2")
			want := isNeedClosure(b, m, closure)
			m.Control = closure
			checkValidNeed(t, b, m, want)
			m = needOf("5 | op + 1 | 1; 2")
			m.Stack[0].Closure = closure
			checkValidNeed(t, b, m, want)
			m = needOf("5 | | 1; 2")
			m.Heap[1].Closure = closure
			checkValidNeed(t, b, m, want)
			m.Heap[1].Done = true
			checkValidNeed(t, b, m, want && hasForm(closure))
		}
	}
}

// TestNeedsThatAreSpoilt has random states in which one number is another one.
func TestNeedsThatAreSpoilt(t *testing.T) {
	random := rand.New(rand.NewSource(203))
	counts := map[bool]int{}
	for _, s := range randomNeeds(204, 3000) {
		checkValidNeed(t, s.b, s.m, true)
		numbers := numbersIn(&s.m)
		*numbers[random.Intn(len(numbers))] = []int64{-1, 0, 1, 2, 3, 4, 5, 6, 7, 8, 256, -1 << 31, 1 << 31}[random.Intn(13)]
		if len(s.m.Heap) > 0 && random.Intn(4) == 0 {
			cell := &s.m.Heap[random.Intn(len(s.m.Heap))]
			cell.Done = !cell.Done
		}
		want := isNeed(s.b, s.m)
		checkValidNeed(t, s.b, s.m, want)
		counts[want]++
	}
	if counts[true] < 300 || counts[false] < 300 {
		t.Errorf("only %v", counts)
	}
}

// numbersIn are all numbers of a state.
func numbersIn(m *impl.Need) []*int64 {
	var list []*int64
	all := func(numbers []int64) {
		for i := range numbers {
			list = append(list, &numbers[i])
		}
	}
	var ofTerm func(c *impl.Core)
	ofTerm = func(c *impl.Core) {
		list = append(list, &c.Kind, &c.Value)
		all(c.Data)
		for i := range c.Kids {
			ofTerm(&c.Kids[i])
		}
	}
	ofClosure := func(c *impl.Closure) {
		ofTerm(&c.Term)
		all(c.Env)
	}
	ofClosure(&m.Control)
	for i := range m.Stack {
		f := &m.Stack[i]
		list = append(list, &f.Kind, &f.Value)
		all(f.Data)
		ofClosure(&f.Closure)
	}
	for i := range m.Heap {
		ofClosure(&m.Heap[i].Closure)
	}
	return list
}

// copiedNeed is in memory of its own.
func copiedNeed(m impl.Need) impl.Need {
	var result impl.Need
	result.Control = copiedClosure(m.Control)
	for _, f := range m.Stack {
		result.Stack = append(result.Stack, impl.Frame{Kind: f.Kind, Value: f.Value, Data: slices.Clone(f.Data), Closure: copiedClosure(f.Closure)})
	}
	for _, cell := range m.Heap {
		result.Heap = append(result.Heap, impl.Thunk{Done: cell.Done, Closure: copiedClosure(cell.Closure)})
	}
	return result
}

func copiedClosure(c impl.Closure) impl.Closure {
	return impl.Closure{Term: copiedCore(c.Term), Env: slices.Clone(c.Env)}
}

func copiedCore(c impl.Core) impl.Core {
	result := impl.Core{Kind: c.Kind, Value: c.Value, Data: slices.Clone(c.Data)}
	for _, kid := range c.Kids {
		result.Kids = append(result.Kids, copiedCore(kid))
	}
	return result
}

func checkSameNeed(t *testing.T, a, b impl.Need, want bool) {
	t.Helper()
	if impl.SameNeed(a, b) != want || impl.SameNeed(b, a) != want {
		t.Errorf("%.300v and %.300v: want the same %t", a, b, want)
	}
}

// TestSameNeed has states, valid or not, that differ in one number, one length or not at all.
func TestSameNeed(t *testing.T) {
	list := []impl.Need{{}, needOf("5 | | "), needOf("5 | | 5"), needOf("5 | | =5"), needOf("5 at 0 | | 5"), needOf("5 | op + 1 at 0; op1 - 3; mat 0 1; swi 1 0; arg 7; update -1 | ?; =!(1 2) at 3 4"), withHeap(withStack(needOf("5 | | "), 10), 10)}
	for _, s := range append(randomNeeds(211, 100), runningNeeds(212, 50)...) {
		list = append(list, s.m)
	}
	for _, m := range list {
		other := copiedNeed(m)
		checkSameNeed(t, m, other, true)
		for _, n := range numbersIn(&other) {
			*n++
			checkSameNeed(t, m, other, false)
			*n -= 2
			checkSameNeed(t, m, other, false)
			*n++
		}
		for i := range other.Heap {
			other.Heap[i].Done = !other.Heap[i].Done
			checkSameNeed(t, m, other, false)
			other.Heap[i].Done = !other.Heap[i].Done
		}
		checkSameNeed(t, m, other, true)
		for _, longer := range longerNeeds(m) {
			checkSameNeed(t, m, longer, false)
		}
	}
	for i, a := range list[:7] {
		for k, b := range list[:7] {
			checkSameNeed(t, a, b, i == k)
		}
	}
	checkSameNeed(t, needOf("5 | | "), impl.Need{Control: impl.Closure{Term: impl.Core{Kind: impl.CoNum, Value: 5, Data: []int64{}, Kids: []impl.Core{}}, Env: []int64{}}, Stack: []impl.Frame{}, Heap: []impl.Thunk{}}, true)
}

// longerNeeds have one list that is longer by an item.
func longerNeeds(m impl.Need) []impl.Need {
	var list []impl.Need
	other := func(change func(m *impl.Need)) {
		longer := copiedNeed(m)
		change(&longer)
		list = append(list, longer)
	}
	other(func(m *impl.Need) { m.Stack = append(m.Stack, impl.Frame{}) })
	other(func(m *impl.Need) { m.Heap = append(m.Heap, impl.Thunk{}) })
	other(func(m *impl.Need) { m.Control.Env = append(m.Control.Env, 0) })
	other(func(m *impl.Need) { m.Control.Term.Data = append(m.Control.Term.Data, 0) })
	other(func(m *impl.Need) { m.Control.Term.Kids = append(m.Control.Term.Kids, impl.Core{}) })
	for i := range m.Stack {
		other(func(m *impl.Need) { m.Stack[i].Data = append(m.Stack[i].Data, 0) })
		other(func(m *impl.Need) { m.Stack[i].Closure.Env = append(m.Stack[i].Closure.Env, 0) })
		other(func(m *impl.Need) { m.Stack[i].Closure.Term.Kids = append(m.Stack[i].Closure.Term.Kids, impl.Core{}) })
	}
	for i := range m.Heap {
		other(func(m *impl.Need) { m.Heap[i].Closure.Env = append(m.Heap[i].Closure.Env, 0) })
		other(func(m *impl.Need) { m.Heap[i].Closure.Term.Kids = append(m.Heap[i].Closure.Term.Kids, impl.Core{}) })
	}
	return list
}

// TestStartNeed begins with machine states and with books and terms that are none.
func TestStartNeed(t *testing.T) {
	check := func(b impl.Book, c impl.Core) {
		t.Helper()
		m, code := impl.StartNeed(b, c)
		if !isState(b, c) {
			if !isNoNeed(m, code, impl.ErrInvalid) {
				t.Errorf("%.300s begins with %.300s, code %d", impl.CoreText(c), needText(m), code)
			}
			return
		}
		if !equalNeeds(m, impl.Need{Control: impl.Closure{Term: c}}) || code != impl.OK || !impl.ValidNeed(b, m) {
			t.Errorf("%.300s begins with %.300s, code %d", impl.CoreText(c), needText(m), code)
		}
		isValue := c.Kind == impl.CoLam || c.Kind == impl.CoNum || c.Kind == impl.CoCon && len(c.Kids) == 0
		if impl.IsFinished(b, m) != isValue {
			t.Errorf("%.300s begins finished: %t", impl.CoreText(c), !isValue)
		}
	}
	for _, s := range randomStates(221, 500) {
		check(s.b, s.c)
	}
	for _, c := range slices.Concat(brokenCores(), openCores(), endlessCores(), closedCores(222, 200), coresOf("@0", "@1", "@2", "{0 2:1}", "[2:1]", "<0 1 @2>"), []impl.Core{sizedErased(400), sizedErased(401), pillar(80, "1"), pillar(81, "1")}) {
		check(needBook(), c)
		check(impl.Book{Defs: []impl.Core{c}}, coreOf("1"))
	}
}

// TestIsFinished has controls with the form of a value and others, with and without frames.
func TestIsFinished(t *testing.T) {
	for text, want := range map[string]bool{
		"5 | | ": true, "5 at 0 0 | | 1": true, "^#0 | | ": true, "^#1 at 0 | | #0 at 0": true, "<1> | | ": true, "<0 #0 #1> at 0 0 | | @1": true, "<0 #0 #1 #2> at 1 0 1 | | 1; =2": true,
		"<1> at 0 | | 1": false, "<0 #1 #0> at 0 0 | | 1": false, "<0 #0 #0> at 0 0 | | 1": false, "<0 #0 #1> at 0 0 0 | | 1": false, "<0 5> at 0 | | 1": false, "<0 5> | | ": false, "<0 #1> at 0 0 | | 1": false, "#0 at 0 | | =1": false, "@1 | | ": false, "(1 2) | | ": false, "(1 + 2) | | ": false, "[0:<0>] | | ": false, "{0 1:1} | | ": false,
		"5 | update 0 | 1": false, "5 | arg 0 | 1": false, "5 | op + 1 | ": false, "^#0 | op1 + 1 | ": false, "<0> | mat 0 | ": false, "<3> | mat 0 | ": false, "5 | swi 0 1 | ": false,
		"5 at 0 | | ": false, "5 | | @2": false, "^!#0 | | ": false, "<4> | | ": false,
	} {
		if got := impl.IsFinished(needBook(), needOf(text)); got != want {
			t.Errorf("%s: finished is %t", text, got)
		}
	}
}
