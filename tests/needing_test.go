package tests

import (
	"fmt"
	"math/rand"
	"slices"
	"strconv"
	"strings"

	"loop.example/g01074/impl"
)

// needOf reads the text of a state, which needs not be valid: the control, the frames from below and the cells, with bars in between.
// A closure is a term and, behind "at", its environment. A cell that is Done has "=" before it.
func needOf(text string) impl.Need {
	parts := strings.Split(text, "|")
	m := impl.Need{Control: closureOf(parts[0])}
	for _, part := range partsOf(parts[1]) {
		m.Stack = append(m.Stack, frameOf(part))
	}
	for _, part := range partsOf(parts[2]) {
		part, done := strings.CutPrefix(part, "=")
		m.Heap = append(m.Heap, impl.Thunk{Done: done, Closure: closureOf(part)})
	}
	return m
}

func partsOf(text string) []string {
	if strings.TrimSpace(text) == "" {
		return nil
	}
	var list []string
	for _, part := range strings.Split(text, ";") {
		list = append(list, strings.TrimSpace(part))
	}
	return list
}

func closureOf(text string) impl.Closure {
	term, env, _ := strings.Cut(strings.TrimSpace(text), " at ")
	return impl.Closure{Term: coreOf(term), Env: integersOf(env)}
}

func integersOf(text string) []int64 {
	var list []int64
	for _, word := range strings.Fields(text) {
		n, err := strconv.ParseInt(word, 10, 64)
		if err != nil {
			panic(err)
		}
		list = append(list, n)
	}
	return list
}

func frameKinds() []string { return []string{"", "update", "arg", "op", "op1", "mat", "swi"} }

func frameOf(text string) impl.Frame {
	kind, rest, _ := strings.Cut(text, " ")
	f := impl.Frame{Kind: int64(slices.Index(frameKinds(), kind))}
	operator := func() int64 { return int64(strings.Index("+-*/<=", rest[:1])) + 1 }
	switch f.Kind {
	case impl.FrUpdate, impl.FrArg:
		f.Value = integersOf(rest)[0]
	case impl.FrOp:
		f.Value, f.Closure = operator(), closureOf(rest[1:])
	case impl.FrOp1:
		f.Value, f.Data = operator(), integersOf(rest[1:])
	case impl.FrMat, impl.FrSwi:
		f.Data = integersOf(rest)
	default:
		panic("no frame: " + text)
	}
	return f
}

func closureText(c impl.Closure) string {
	text := impl.CoreText(c.Term)
	if len(c.Env) > 0 {
		text += " at " + strings.Trim(fmt.Sprint(c.Env), "[]")
	}
	return text
}

// needText is the text of a valid state.
func needText(m impl.Need) string {
	var frames, cells []string
	for _, f := range m.Stack {
		text := fmt.Sprint("no kind ", f.Kind)
		if f.Kind > 0 && f.Kind < 7 {
			text = frameKinds()[f.Kind]
		}
		switch f.Kind {
		case impl.FrUpdate, impl.FrArg:
			text += fmt.Sprint(" ", f.Value)
		case impl.FrOp, impl.FrOp1:
			text += " " + impl.OperatorText(f.Value)
		}
		if len(f.Data) > 0 {
			text += " " + strings.Trim(fmt.Sprint(f.Data), "[]")
		}
		if f.Kind == impl.FrOp {
			text += " " + closureText(f.Closure)
		}
		frames = append(frames, text)
	}
	for _, cell := range m.Heap {
		text := closureText(cell.Closure)
		if cell.Done {
			text = "=" + text
		}
		cells = append(cells, text)
	}
	return closureText(m.Control) + " | " + strings.Join(frames, "; ") + " | " + strings.Join(cells, "; ")
}

func equalClosures(a, b impl.Closure) bool {
	return equalCores(a.Term, b.Term) && slices.Equal(a.Env, b.Env)
}

func equalNeeds(a, b impl.Need) bool {
	return equalClosures(a.Control, b.Control) &&
		slices.EqualFunc(a.Stack, b.Stack, func(a, b impl.Frame) bool {
			return a.Kind == b.Kind && a.Value == b.Value && slices.Equal(a.Data, b.Data) && equalClosures(a.Closure, b.Closure)
		}) &&
		slices.EqualFunc(a.Heap, b.Heap, func(a, b impl.Thunk) bool {
			return a.Done == b.Done && equalClosures(a.Closure, b.Closure)
		})
}

// hasForm reports whether a closure has the form of a value.
func hasForm(c impl.Closure) bool {
	if c.Term.Kind != impl.CoCon || len(c.Env) != len(c.Term.Kids) {
		return c.Term.Kind == impl.CoLam || c.Term.Kind == impl.CoNum
	}
	return slices.EqualFunc(c.Term.Kids, coresOf("#0", "#1", "#2")[:len(c.Env)], equalCores)
}

// isNeed reports whether a state is valid for a book.
func isNeed(b impl.Book, m impl.Need) bool {
	if !isState(b, coreOf("0")) || len(m.Heap) > 2000 || len(m.Stack) > 400 || !isNeedClosure(b, m, m.Control) {
		return false
	}
	for _, f := range m.Stack {
		if !isNeedFrame(b, m, f) {
			return false
		}
	}
	for _, cell := range m.Heap {
		if !isNeedClosure(b, m, cell.Closure) || cell.Done && !hasForm(cell.Closure) {
			return false
		}
	}
	return true
}

func isCell(m impl.Need, address int64) bool { return address >= 0 && address < int64(len(m.Heap)) }

func isNeedClosure(b impl.Book, m impl.Need, c impl.Closure) bool {
	if len(c.Env) > 256 || !impl.ValidCore(c.Term) || !isErasedWith(c.Term, len(b.Defs)) {
		return false
	}
	for _, address := range c.Env {
		if !isCell(m, address) {
			return false
		}
	}
	for variable := range nameCore(c.Term).occurrences() {
		if variable >= int64(len(c.Env)) {
			return false
		}
	}
	return true
}

func isNeedFrame(b impl.Book, m impl.Need, f impl.Frame) bool {
	operator, address := f.Value >= 1 && f.Value <= 6, isCell(m, f.Value)
	integers, defs := len(f.Data), len(f.Data)
	for _, n := range f.Data {
		if n < -1<<31 || n > 1<<31-1 {
			integers = -1
		}
		if n < 0 || n >= int64(len(b.Defs)) {
			defs = -1
		}
	}
	closure := "invalid"
	if equalClosures(f.Closure, impl.Closure{}) {
		closure = "none"
	} else if isNeedClosure(b, m, f.Closure) {
		closure = "valid"
	}
	return slices.Contains([]bool{
		f.Kind == 1 && address && len(f.Data) == 0 && closure == "none",
		f.Kind == 2 && address && len(f.Data) == 0 && closure == "none",
		f.Kind == 3 && operator && len(f.Data) == 0 && closure == "valid",
		f.Kind == 4 && operator && integers == 1 && closure == "none",
		f.Kind == 5 && f.Value == 0 && defs >= 1 && defs <= 4 && closure == "none",
		f.Kind == 6 && f.Value == 0 && defs == 2 && closure == "none",
	}, true)
}

func isFinishedNeed(m impl.Need) bool { return len(m.Stack) == 0 && hasForm(m.Control) }

// needRow is a row of the table of transitions, which writes into the stack and the heap that it is given.
type needRow struct {
	kind    int64
	isAbout func(m impl.Need) bool
	next    func(b impl.Book, m impl.Need) impl.Need
}

func topOf(m impl.Need) impl.Frame {
	if len(m.Stack) == 0 {
		return impl.Frame{}
	}
	return m.Stack[len(m.Stack)-1]
}

func pushed(m impl.Need, frames ...impl.Frame) impl.Need {
	m.Stack = append(m.Stack, frames...)
	return m
}

func popped(m impl.Need) impl.Need {
	m.Stack = m.Stack[:len(m.Stack)-1]
	return m
}

func goingOn(m impl.Need, term impl.Core, env ...int64) impl.Need {
	m.Control = impl.Closure{Term: term, Env: env}
	return m
}

// withAddress is the state in which a term has an address, and the address.
func withAddress(m impl.Need, term impl.Core) (impl.Need, int64) {
	if term.Kind == impl.CoVar {
		return m, m.Control.Env[term.Value]
	}
	m.Heap = append(m.Heap, impl.Thunk{Closure: impl.Closure{Term: term, Env: m.Control.Env}})
	return m, int64(len(m.Heap)) - 1
}

func needRows() []needRow {
	control := func(kinds ...int64) func(m impl.Need) bool {
		return func(m impl.Need) bool { return slices.Contains(kinds, m.Control.Term.Kind) }
	}
	meets := func(frame int64, kinds ...int64) func(m impl.Need) bool {
		return func(m impl.Need) bool {
			return hasForm(m.Control) && topOf(m).Kind == frame && (len(kinds) == 0 || slices.Contains(kinds, m.Control.Term.Kind))
		}
	}
	chosen := func(m impl.Need, def int64) impl.Need {
		return goingOn(m, impl.Core{Kind: impl.CoRef, Value: def})
	}
	return []needRow{
		{2, control(impl.CoVar), func(b impl.Book, m impl.Need) impl.Need {
			a := m.Control.Env[m.Control.Term.Value]
			if !m.Heap[a].Done {
				m = pushed(m, impl.Frame{Kind: impl.FrUpdate, Value: a})
			}
			m.Control = m.Heap[a].Closure
			return m
		}},
		{1, control(impl.CoApp), func(b impl.Book, m impl.Need) impl.Need {
			kids := m.Control.Term.Kids
			m, a := withAddress(m, kids[1])
			return goingOn(pushed(m, impl.Frame{Kind: impl.FrArg, Value: a}), kids[0], m.Control.Env...)
		}},
		{1, control(impl.CoOp), func(b impl.Book, m impl.Need) impl.Need {
			c, e := m.Control.Term, m.Control.Env
			return goingOn(pushed(m, impl.Frame{Kind: impl.FrOp, Value: c.Value, Closure: impl.Closure{Term: c.Kids[1], Env: e}}), c.Kids[0], e...)
		}},
		{1, control(impl.CoMat), func(b impl.Book, m impl.Need) impl.Need {
			c := m.Control.Term
			return goingOn(pushed(m, impl.Frame{Kind: impl.FrMat, Data: c.Data}), c.Kids[0], m.Control.Env...)
		}},
		{1, control(impl.CoSwi), func(b impl.Book, m impl.Need) impl.Need {
			c := m.Control.Term
			return goingOn(pushed(m, impl.Frame{Kind: impl.FrSwi, Data: c.Data}), c.Kids[0], m.Control.Env...)
		}},
		{7, control(impl.CoRef), func(b impl.Book, m impl.Need) impl.Need {
			return goingOn(m, b.Defs[m.Control.Term.Value])
		}},
		{8, func(m impl.Need) bool { return m.Control.Term.Kind == impl.CoCon && !hasForm(m.Control) }, func(b impl.Book, m impl.Need) impl.Need {
			c := m.Control.Term
			built := impl.Core{Kind: impl.CoCon, Value: c.Value}
			var env []int64
			for k, kid := range c.Kids {
				var a int64
				m, a = withAddress(m, kid)
				env = append(env, a)
				built.Kids = append(built.Kids, coreOf(fmt.Sprint("#", k)))
			}
			return goingOn(m, built, env...)
		}},
		{3, meets(impl.FrUpdate), func(b impl.Book, m impl.Need) impl.Need {
			m.Heap[topOf(m).Value] = impl.Thunk{Done: true, Closure: m.Control}
			return popped(m)
		}},
		{4, meets(impl.FrArg, impl.CoLam), func(b impl.Book, m impl.Need) impl.Need {
			env := append([]int64{topOf(m).Value}, m.Control.Env...)
			return goingOn(popped(m), m.Control.Term.Kids[0], env...)
		}},
		{1, meets(impl.FrOp, impl.CoNum), func(b impl.Book, m impl.Need) impl.Need {
			top := topOf(m)
			m = pushed(popped(m), impl.Frame{Kind: impl.FrOp1, Value: top.Value, Data: []int64{m.Control.Term.Value}})
			return goingOn(m, top.Closure.Term, top.Closure.Env...)
		}},
		{5, meets(impl.FrOp1, impl.CoNum), func(b impl.Book, m impl.Need) impl.Need {
			top := topOf(m)
			return goingOn(popped(m), impl.Core{Kind: impl.CoNum, Value: exactly(top.Value, top.Data[0], m.Control.Term.Value)})
		}},
		{6, meets(impl.FrSwi, impl.CoNum), func(b impl.Book, m impl.Need) impl.Need {
			if m.Control.Term.Value != 0 {
				return chosen(popped(m), topOf(m).Data[0])
			}
			return chosen(popped(m), topOf(m).Data[1])
		}},
		{6, func(m impl.Need) bool {
			return meets(impl.FrMat, impl.CoCon)(m) && m.Control.Term.Value < int64(len(topOf(m).Data))
		}, func(b impl.Book, m impl.Need) impl.Need {
			def, e := topOf(m).Data[m.Control.Term.Value], m.Control.Env
			m = popped(m)
			for k := len(e) - 1; k >= 0; k-- {
				m = pushed(m, impl.Frame{Kind: impl.FrArg, Value: e[k]})
			}
			return chosen(m, def)
		}},
	}
}

var needTable = needRows()

// nextNeed is the result of StepNeed for a valid state.
func nextNeed(b impl.Book, m impl.Need) (impl.Need, int64, int64) { return nextOf(b, ownNeed(m)) }

// ownNeed has a stack and a heap of its own.
func ownNeed(m impl.Need) impl.Need {
	return impl.Need{Control: m.Control, Stack: slices.Clone(m.Stack), Heap: slices.Clone(m.Heap)}
}

// nextOf is the same in the memory of the state.
func nextOf(b impl.Book, m impl.Need) (impl.Need, int64, int64) {
	if isFinishedNeed(m) {
		return impl.Need{}, 0, impl.ErrNotFound
	}
	for _, row := range needTable {
		if row.isAbout(m) {
			next := row.next(b, m)
			if len(next.Heap) > 2000 || len(next.Stack) > 400 || len(next.Control.Env) > 256 {
				return impl.Need{}, 0, impl.ErrFull
			}
			return next, row.kind, impl.OK
		}
	}
	return impl.Need{}, 0, impl.ErrState
}

// stepNeedAsStated is the result of StepNeed.
func stepNeedAsStated(b impl.Book, m impl.Need) (impl.Need, int64, int64) {
	if !isNeed(b, m) {
		return impl.Need{}, 0, impl.ErrInvalid
	}
	return nextNeed(b, m)
}

// needRunning is a run of a machine: the numbers of transitions of the kinds, and the greatest number of all together.
type needRunning struct {
	b      impl.Book
	counts [9]int64
	budget int64
	begun  int
}

func (r *needRunning) work() []int64 { return slices.Clone(r.counts[4:8]) }

func (r *needRunning) all() int64 {
	all := int64(0)
	for _, n := range r.counts {
		all += n
	}
	return all
}

func (r *needRunning) toTheEnd(m impl.Need) (impl.Need, int64) {
	m = ownNeed(m)
	for !isFinishedNeed(m) {
		if r.all() == r.budget {
			return impl.Need{}, impl.ErrBudget
		}
		next, kind, code := nextOf(r.b, m)
		if code != impl.OK {
			return impl.Need{}, code
		}
		r.counts[kind]++
		m = next
	}
	return m, impl.OK
}

// whole is the value of the control of a state with an empty stack, and the state behind all evaluations.
func (r *needRunning) whole(m impl.Need, depth int) (impl.Core, impl.Need, int64) {
	if r.begun == 400 || depth > 80 {
		return impl.Core{}, m, impl.ErrFull
	}
	r.begun++
	m, code := r.toTheEnd(m)
	if code != impl.OK {
		return impl.Core{}, m, code
	}
	value := impl.Core{Kind: m.Control.Term.Kind, Value: m.Control.Term.Value}
	if value.Kind == impl.CoLam {
		return impl.Core{}, m, impl.ErrState
	}
	if value.Kind == impl.CoNum {
		return value, m, impl.OK
	}
	for _, address := range m.Control.Env {
		var field impl.Core
		if field, m, code = r.whole(goingOn(m, coreOf("#0"), address), depth+1); code != impl.OK {
			return impl.Core{}, m, code
		}
		value.Kids = append(value.Kids, field)
	}
	return value, m, impl.OK
}

// runNeedAsStated is the result of RunNeed.
func runNeedAsStated(b impl.Book, m impl.Need, budget int64) (impl.Need, []int64, int64) {
	if !isNeed(b, m) {
		return impl.Need{}, nil, impl.ErrInvalid
	}
	if budget < 0 || budget > 20000 {
		return impl.Need{}, nil, impl.ErrRange
	}
	r := needRunning{b: b, budget: budget}
	end, code := r.toTheEnd(m)
	if code != impl.OK {
		return impl.Need{}, nil, code
	}
	return end, r.work(), impl.OK
}

// needValueAsStated is the result of NeedValue.
func needValueAsStated(b impl.Book, c impl.Core, budget int64) (impl.Core, []int64, int64) {
	if !isState(b, c) {
		return impl.Core{}, nil, impl.ErrInvalid
	}
	if budget < 0 || budget > 20000 {
		return impl.Core{}, nil, impl.ErrRange
	}
	r := needRunning{b: b, budget: budget}
	value, _, code := r.whole(impl.Need{Control: impl.Closure{Term: c}}, 1)
	if code != impl.OK {
		return impl.Core{}, nil, code
	}
	return value, r.work(), impl.OK
}

// liveAsStated are the live cells of a valid state, found by asking all cells again and again.
func liveAsStated(m impl.Need) []int64 {
	live := map[int64]bool{}
	mark := func(addresses ...int64) {
		for _, a := range addresses {
			live[a] = true
		}
	}
	mark(m.Control.Env...)
	for _, f := range m.Stack {
		if f.Kind == impl.FrUpdate || f.Kind == impl.FrArg {
			mark(f.Value)
		}
		mark(f.Closure.Env...)
	}
	for before := -1; before < len(live); {
		before = len(live)
		for a, cell := range m.Heap {
			if live[int64(a)] {
				mark(cell.Closure.Env...)
			}
		}
	}
	var list []int64
	for a := range m.Heap {
		if live[int64(a)] {
			list = append(list, int64(a))
		}
	}
	return list
}

// collectAsStated is a valid state without the other cells.
func collectAsStated(m impl.Need) impl.Need {
	live := liveAsStated(m)
	moved := func(a int64) int64 { return int64(slices.Index(live, a)) }
	closure := func(c impl.Closure) impl.Closure {
		result := impl.Closure{Term: c.Term}
		for _, a := range c.Env {
			result.Env = append(result.Env, moved(a))
		}
		return result
	}
	result := impl.Need{Control: closure(m.Control)}
	for _, f := range m.Stack {
		if f.Kind == impl.FrUpdate || f.Kind == impl.FrArg {
			f.Value = moved(f.Value)
		}
		f.Closure = closure(f.Closure)
		result.Stack = append(result.Stack, f)
	}
	for _, a := range live {
		result.Heap = append(result.Heap, impl.Thunk{Done: m.Heap[a].Done, Closure: closure(m.Heap[a].Closure)})
	}
	return result
}

// randomClosure has a term with many redexes, or often one with the form of a value.
func randomClosure(random *rand.Rand, cells, defs int, isValue bool) impl.Closure {
	var env []int64
	if cells > 0 {
		for range random.Intn(4) {
			env = append(env, int64(random.Intn(cells)))
		}
	}
	text := stateText(random, 1+random.Intn(4), len(env), defs)
	if isValue {
		fields := ""
		for k := range env {
			fields += fmt.Sprint(" #", k)
		}
		switch random.Intn(3) {
		case 0:
			text = fmt.Sprint("<", random.Intn(4), fields, ">")
		case 1:
			text = fmt.Sprint(random.Intn(4) - 1)
		case 2:
			text = "^" + stateText(random, 1+random.Intn(3), len(env)+1, defs)
		}
	}
	return impl.Closure{Term: coreOf(text), Env: env}
}

// randomNeed is a valid state for a book with so many definitions, of which the cells refer to each other in any way.
func randomNeed(random *rand.Rand, defs int) impl.Need {
	cells := random.Intn(6)
	def := func() int64 { return int64(random.Intn(defs)) }
	m := impl.Need{Control: randomClosure(random, cells, defs, random.Intn(3) > 0)}
	for range cells {
		done := random.Intn(2) == 0
		m.Heap = append(m.Heap, impl.Thunk{Done: done, Closure: randomClosure(random, cells, defs, done)})
	}
	for range random.Intn(5) {
		f := impl.Frame{Kind: int64(1 + random.Intn(6))}
		switch f.Kind {
		case impl.FrUpdate, impl.FrArg:
			if cells == 0 {
				continue
			}
			f.Value = int64(random.Intn(cells))
		case impl.FrOp:
			f.Value, f.Closure = int64(1+random.Intn(6)), randomClosure(random, cells, defs, random.Intn(2) == 0)
		case impl.FrOp1:
			f.Value, f.Data = int64(1+random.Intn(6)), []int64{int64(random.Intn(7) - 3)}
		case impl.FrMat:
			for range 1 + random.Intn(4) {
				f.Data = append(f.Data, def())
			}
		case impl.FrSwi:
			f.Data = []int64{def(), def()}
		}
		m.Stack = append(m.Stack, f)
	}
	return m
}

// needState is a book and a state.
type needState struct {
	b impl.Book
	m impl.Need
}

func (s needState) String() string {
	return fmt.Sprintf("%s in %q", needText(s.m), coreTexts(s.b.Defs))
}

// randomNeeds are valid states that are the same in each run.
func randomNeeds(seed int64, n int) []needState {
	random := rand.New(rand.NewSource(seed))
	var list []needState
	for _, s := range randomStates(seed, n) {
		m := randomNeed(random, len(s.b.Defs))
		if isNeed(s.b, m) {
			list = append(list, needState{s.b, m})
		}
	}
	return list
}

// runningNeeds are states that machines come to on their way from a term.
func runningNeeds(seed int64, n int) []needState {
	random := rand.New(rand.NewSource(seed))
	var list []needState
	for _, s := range randomStates(seed, n) {
		m := impl.Need{Control: impl.Closure{Term: s.c}}
		for range random.Intn(40) {
			next, _, code := nextNeed(s.b, m)
			if code != impl.OK {
				break
			}
			m = next
		}
		list = append(list, needState{s.b, m})
	}
	return list
}

// needful evaluates terms to integers, data and functions of Go, each argument at most once. It panics when it gets stuck or has been called too often.
type needful struct {
	defs   []impl.Core
	counts [4]int64
	left   int
}

// delayed is a value that is computed when it is asked for the first time.
type delayed struct {
	compute func() any
	value   any
}

func (d *delayed) ask() any {
	if d.compute != nil {
		d.value = d.compute()
		d.compute = nil
	}
	return d.value
}

// builtOf is a constructor with its fields.
type builtOf struct {
	tag    int64
	fields []*delayed
}

func (n *needful) later(c impl.Core, around []*delayed) *delayed {
	if c.Kind == impl.CoVar {
		return around[c.Value]
	}
	return &delayed{compute: func() any { return n.of(c, around) }}
}

func (n *needful) defined(def int64) any {
	n.counts[3]++
	return n.of(n.defs[def], nil)
}

func (n *needful) applied(function any, arguments ...*delayed) any {
	for _, argument := range arguments {
		f, fits := function.(func(*delayed) any)
		if !fits {
			panic("stuck")
		}
		n.counts[0]++
		function = f(argument)
	}
	return function
}

func (n *needful) integer(c impl.Core, around []*delayed) int64 {
	value, fits := n.of(c, around).(int64)
	if !fits {
		panic("stuck")
	}
	return value
}

func (n *needful) of(c impl.Core, around []*delayed) any {
	n.left--
	if n.left < 0 {
		panic("no end")
	}
	switch c.Kind {
	case impl.CoVar:
		return around[c.Value].ask()
	case impl.CoNum:
		return c.Value
	case impl.CoOp:
		a := n.integer(c.Kids[0], around)
		b := n.integer(c.Kids[1], around)
		n.counts[1]++
		return exactly(c.Value, a, b)
	case impl.CoLam:
		return func(argument *delayed) any { return n.of(c.Kids[0], append([]*delayed{argument}, around...)) }
	case impl.CoApp:
		argument := n.later(c.Kids[1], around)
		return n.applied(n.of(c.Kids[0], around), argument)
	case impl.CoCon:
		result := builtOf{tag: c.Value}
		for _, kid := range c.Kids {
			result.fields = append(result.fields, n.later(kid, around))
		}
		return result
	case impl.CoMat:
		value, fits := n.of(c.Kids[0], around).(builtOf)
		if !fits || value.tag >= int64(len(c.Data)) {
			panic("stuck")
		}
		n.counts[2]++
		return n.applied(n.defined(c.Data[value.tag]), value.fields...)
	case impl.CoSwi:
		value := n.integer(c.Kids[0], around)
		n.counts[2]++
		if value != 0 {
			return n.defined(c.Data[0])
		}
		return n.defined(c.Data[1])
	}
	return n.defined(c.Value)
}

// data is a value as a term.
func (n *needful) data(value any) impl.Core {
	n.left--
	if n.left < 0 {
		panic("no end")
	}
	switch v := value.(type) {
	case int64:
		return impl.Core{Kind: impl.CoNum, Value: v}
	case builtOf:
		result := impl.Core{Kind: impl.CoCon, Value: v.tag}
		for _, field := range v.fields {
			result.Kids = append(result.Kids, n.data(field.ask()))
		}
		return result
	}
	panic("stuck")
}

// needfulValue is the text of the value of a term and the work for it, or what it ends with.
func needfulValue(b impl.Book, c impl.Core) (text string, counts []int64) {
	n := &needful{defs: b.Defs, left: 3000}
	defer func() {
		if problem := recover(); problem != nil {
			text, counts = fmt.Sprint(problem), nil
		}
	}()
	value := n.data(n.of(c, nil))
	return impl.CoreText(value), n.counts[:]
}
