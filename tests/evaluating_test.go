package tests

import (
	"fmt"
	"math/rand"
	"slices"
	"strconv"
	"strings"

	"loop.example/g01074/impl"
)

func (c namedCore) nodes() int {
	n := 1
	for _, kid := range c.kids {
		n += kid.nodes()
	}
	return n
}

func (c namedCore) depth() int {
	most := 0
	for _, kid := range c.kids {
		most = max(most, kid.depth())
	}
	return most + 1
}

func (c namedCore) fits() bool { return c.nodes() <= 400 && c.depth() <= 80 }

// with has another term in the place of a variable.
func (c namedCore) with(name string, other namedCore) namedCore {
	if c.kind == impl.CoVar {
		if c.name == name {
			return other
		}
		return c
	}
	kids := c.kids
	c.kids = nil
	for _, kid := range kids {
		c.kids = append(c.kids, kid.with(name, other))
	}
	return c
}

// erased is the erasure of a node. It is told whether those of all nodes inside are small enough.
func (c namedCore) erased() (namedCore, bool) {
	var kids []namedCore
	for _, kid := range c.kids {
		kid, fits := kid.erased()
		if !fits {
			return namedCore{}, false
		}
		kids = append(kids, kid)
	}
	name := c.name
	switch c.kind {
	case impl.CoBox:
		c = kids[0]
	case impl.CoLet:
		c = kids[1].with(name, kids[0])
	default:
		c.kids = kids
	}
	return c, c.fits()
}

func isOpen(c impl.Core) bool { return len(nameCore(c).occurrences()) > 0 }

// eraseAsStated is the result of EraseCore.
func eraseAsStated(c impl.Core) (impl.Core, int64) {
	if !impl.ValidCore(c) || isOpen(c) {
		return impl.Core{}, impl.ErrInvalid
	}
	erased, fits := nameCore(c).erased()
	if !fits {
		return impl.Core{}, impl.ErrFull
	}
	return erased.unnamed(), impl.OK
}

// evaluation states chapter 8 for one book and terms in which each binder has a name of its own.
type evaluation struct {
	naming
	defs []impl.Core
}

// is reports whether a node and its first kids are of these kinds.
func (c namedCore) is(kind int64, ofKids ...int64) bool {
	if c.kind != kind || len(c.kids) < len(ofKids) {
		return false
	}
	for i, kind := range ofKids {
		if c.kids[i].kind != kind {
			return false
		}
	}
	return true
}

func apply(function, argument namedCore) namedCore {
	return namedCore{kind: impl.CoApp, kids: []namedCore{function, argument}}
}

// unfolded has the definition in the place of one kid.
func (e *evaluation) unfolded(c namedCore, kid int) namedCore {
	c.kids = slices.Clone(c.kids)
	c.kids[kid] = e.named(e.defs[c.kids[kid].value])
	return c
}

// redexRow is a row of the table of redexes.
type redexRow struct {
	kind       int64
	isAbout    func(c namedCore) bool
	contracted func(e *evaluation, c namedCore) namedCore
}

func redexRows() []redexRow {
	unfold := func(kid int) func(e *evaluation, c namedCore) namedCore {
		return func(e *evaluation, c namedCore) namedCore { return e.unfolded(c, kid) }
	}
	return []redexRow{
		{impl.StBeta, func(c namedCore) bool { return c.is(impl.CoApp, impl.CoLam) }, func(e *evaluation, c namedCore) namedCore {
			function := c.kids[0]
			return function.kids[0].with(function.name, c.kids[1])
		}},
		{impl.StExpand, func(c namedCore) bool { return c.is(impl.CoApp, impl.CoRef) }, unfold(0)},
		{impl.StOperate, func(c namedCore) bool { return c.is(impl.CoOp, impl.CoNum, impl.CoNum) }, func(e *evaluation, c namedCore) namedCore {
			return namedCore{kind: impl.CoNum, value: exactly(c.value, c.kids[0].value, c.kids[1].value)}
		}},
		{impl.StExpand, func(c namedCore) bool { return c.is(impl.CoOp, impl.CoRef) }, unfold(0)},
		{impl.StExpand, func(c namedCore) bool { return c.is(impl.CoOp, impl.CoNum, impl.CoRef) }, unfold(1)},
		{impl.StChoose, func(c namedCore) bool {
			return c.is(impl.CoMat, impl.CoCon) && c.kids[0].value < int64(len(c.data))
		}, func(e *evaluation, c namedCore) namedCore {
			result := namedCore{kind: impl.CoRef, value: c.data[c.kids[0].value]}
			for _, field := range c.kids[0].kids {
				result = apply(result, field)
			}
			return result
		}},
		{impl.StExpand, func(c namedCore) bool { return c.is(impl.CoMat, impl.CoRef) || c.is(impl.CoSwi, impl.CoRef) }, unfold(0)},
		{impl.StChoose, func(c namedCore) bool { return c.is(impl.CoSwi, impl.CoNum) }, func(e *evaluation, c namedCore) namedCore {
			if c.kids[0].value == 0 {
				return namedCore{kind: impl.CoRef, value: c.data[1]}
			}
			return namedCore{kind: impl.CoRef, value: c.data[0]}
		}},
	}
}

// rowOf is the number of the row about a node, or -1.
func rowOf(c namedCore) int {
	return slices.IndexFunc(redexRows(), func(r redexRow) bool { return r.isAbout(c) })
}

// redexesIn are the redexes in the order in which nodes are met, each as the kids that lead to it.
func redexesIn(c namedCore, path ...int) [][]int {
	var paths [][]int
	if rowOf(c) >= 0 {
		paths = append(paths, slices.Clone(path))
	}
	for i, kid := range c.kids {
		paths = append(paths, redexesIn(kid, append(slices.Clone(path), i)...)...)
	}
	return paths
}

// contractedAt contracts one redex and tells the kind of that.
func (e *evaluation) contractedAt(c namedCore, path []int) (namedCore, int64) {
	if len(path) == 0 {
		row := redexRows()[rowOf(c)]
		return row.contracted(e, c), row.kind
	}
	kid, kind := e.contractedAt(c.kids[path[0]], path[1:])
	c.kids = slices.Clone(c.kids)
	c.kids[path[0]] = kid
	return c, kind
}

// developed is D of a node. It is told whether D of all nodes inside is small enough.
func (e *evaluation) developed(c namedCore) (namedCore, bool) {
	row := rowOf(c)
	kids := c.kids
	c.kids = nil
	for _, kid := range kids {
		kid, fits := e.developed(kid)
		if !fits {
			return namedCore{}, false
		}
		c.kids = append(c.kids, kid)
	}
	if row >= 0 {
		c = redexRows()[row].contracted(e, c)
	}
	return c, c.fits()
}

// isState reports whether a book and a term are a machine state.
func isState(b impl.Book, c impl.Core) bool {
	if len(b.Defs) == 0 || len(b.Defs) > 24 {
		return false
	}
	for _, c := range append([]impl.Core{c}, b.Defs...) {
		if !impl.ValidCore(c) || isOpen(c) || !isErasedWith(c, len(b.Defs)) {
			return false
		}
	}
	return true
}

// isErasedWith reports whether a valid term is erased and names only the first definitions, as many as are given.
func isErasedWith(c impl.Core, defs int) bool {
	named := c.Data
	if c.Kind == impl.CoRef {
		named = []int64{c.Value}
	}
	return c.Kind != impl.CoBox && c.Kind != impl.CoLet &&
		!slices.ContainsFunc(named, func(def int64) bool { return def >= int64(defs) }) &&
		!slices.ContainsFunc(c.Kids, func(kid impl.Core) bool { return !isErasedWith(kid, defs) })
}

// step is the result of StepCore for a machine state.
func (e *evaluation) step(c impl.Core) (impl.Core, int64, int64) {
	named := e.named(c)
	paths := redexesIn(named)
	if len(paths) == 0 {
		return impl.Core{}, 0, impl.ErrNotFound
	}
	next, kind := e.contractedAt(named, paths[0])
	if !next.fits() || greatestIndex(next.unnamed()) > 255 {
		return impl.Core{}, 0, impl.ErrFull
	}
	return next.unnamed(), kind, impl.OK
}

// stepAsStated is the result of StepCore.
func stepAsStated(b impl.Book, c impl.Core) (impl.Core, int64, int64) {
	if !isState(b, c) {
		return impl.Core{}, 0, impl.ErrInvalid
	}
	e := &evaluation{defs: b.Defs}
	return e.step(c)
}

// normalizeAsStated is the result of Normalize.
func normalizeAsStated(b impl.Book, c impl.Core, budget int64) (impl.Core, []int64, int64) {
	if !isState(b, c) {
		return impl.Core{}, nil, impl.ErrInvalid
	}
	if budget < 0 || budget > 2000 {
		return impl.Core{}, nil, impl.ErrRange
	}
	e := &evaluation{defs: b.Defs}
	counts := make([]int64, 4)
	for {
		next, kind, code := e.step(c)
		switch {
		case code == impl.ErrNotFound:
			return c, counts, impl.OK
		case counts[0]+counts[1]+counts[2]+counts[3] == budget:
			return impl.Core{}, nil, impl.ErrBudget
		case code != impl.OK:
			return impl.Core{}, nil, code
		}
		counts[kind-1]++
		c = next
	}
}

// developAsStated is the result of DevelopCore.
func developAsStated(b impl.Book, c impl.Core) (impl.Core, int64, int64) {
	if !isState(b, c) {
		return impl.Core{}, 0, impl.ErrInvalid
	}
	e := &evaluation{defs: b.Defs}
	named := e.named(c)
	result, fits := e.developed(named)
	if !fits {
		return impl.Core{}, 0, impl.ErrFull
	}
	return result.unnamed(), int64(len(redexesIn(named))), impl.OK
}

// sizedErased has n nodes and no redex, is closed and is as flat as functions and operations can be.
func sizedErased(n int) impl.Core {
	switch {
	case n == 1:
		return coreOf("<0>")
	case n%2 == 0:
		return putInto("^?", sizedErased(n-1))
	}
	left := (n - 1) / 2
	return impl.Core{Kind: impl.CoOp, Value: impl.OpAdd, Kids: []impl.Core{sizedErased(left), sizedErased(n - 1 - left)}}
}

// pillar has that depth, as many nodes and no redex.
func pillar(depth int, end string) impl.Core { return nestedCore(depth-1, "<0 ?>", coreOf(end)) }

// erasedPlaces are all places that a kid can have in an erased term that names the definitions 0 to 3.
func erasedPlaces() []string {
	return []string{"^?", "(? 1)", "(1 ?)", "(^#0 ?)", "(^7 ?)", "(@0 ?)", "(? + 1)", "(1 = ?)", "(<0> - ?)", "(@1 * ?)", "<0 ?>", "<3 ? 1 1>", "<2 1 ? 1>", "<1 1 1 ?>", "[3:?]", "[0 1 2 3:?]", "{0 1:?}", "[0:<0 ? 1>]", "[0:<2 1 ?>]"}
}

// stateText is the text of an erased term inside so many binders that names the first definitions, as many as are given. Many of its nodes are redexes.
func stateText(random *rand.Rand, depth, variables, defs int) string {
	kid := func(more int) string { return stateText(random, depth-1, variables+more, defs) }
	def := func() string { return strconv.Itoa(random.Intn(defs)) }
	operator := func() string { return " " + "+-*/<="[random.Intn(6):][:1] + " " }
	list := func(n int, part func() string) string {
		text := ""
		for range n {
			text += " " + part()
		}
		return text
	}
	n := random.Intn(22)
	if depth <= 1 {
		n = random.Intn(6)
	}
	switch n {
	case 0, 1, 2, 3:
		if variables > 0 {
			return "#" + strconv.Itoa(random.Intn(variables))
		}
		return strconv.Itoa(random.Intn(5) - 2)
	case 4:
		return []string{"3", "-2147483648", "2147483647", "-1", "0", "<0>", "<1>"}[random.Intn(7)]
	case 5:
		return "@" + def()
	case 6, 7:
		return "^" + kid(1)
	case 8, 9, 10:
		return "(^" + kid(1) + " " + kid(0) + ")"
	case 11:
		return "(@" + def() + " " + kid(0) + ")"
	case 12, 13:
		return "(" + kid(0) + " " + kid(0) + ")"
	case 14, 15:
		return "(" + kid(0) + operator() + kid(0) + ")"
	case 16:
		return "(" + strconv.Itoa(random.Intn(9)) + operator() + kid(0) + ")"
	case 17:
		return "<" + strconv.Itoa(random.Intn(3)) + list(random.Intn(4), func() string { return kid(0) }) + ">"
	case 18:
		return "[" + list(1+random.Intn(4), def)[1:] + ":<" + strconv.Itoa(random.Intn(3)) + list(random.Intn(4), func() string { return kid(0) }) + ">]"
	case 19:
		return "[" + list(1+random.Intn(4), def)[1:] + ":" + kid(0) + "]"
	case 20:
		return "{" + list(2, def)[1:] + ":" + kid(0) + "}"
	}
	return "{" + list(2, def)[1:] + ":" + strconv.Itoa(random.Intn(3)-1) + "}"
}

// machineState is a book and a term.
type machineState struct {
	b impl.Book
	c impl.Core
}

func (s machineState) String() string {
	return fmt.Sprintf("%s in %q", impl.CoreText(s.c), coreTexts(s.b.Defs))
}

// randomStates are machine states that are the same in each run.
func randomStates(seed int64, n int) []machineState {
	random := rand.New(rand.NewSource(seed))
	var list []machineState
	for len(list) < n {
		s := machineState{c: coreOf(stateText(random, 1+random.Intn(7), 0, 4))}
		for range 4 {
			s.b.Defs = append(s.b.Defs, coreOf(stateText(random, 1+random.Intn(5), 0, 4)))
		}
		if isState(s.b, s.c) {
			list = append(list, s)
		}
	}
	return list
}

// smallStates are all closed terms with at most so many nodes of some kinds that decide whether a node is a redex.
func smallStates(nodes int) []impl.Core {
	bySize := [][]impl.Core{nil, coresOf("#0", "0", "2", "@0", "@1", "<1>")}
	for n := 2; n <= nodes; n++ {
		var list []impl.Core
		for _, kid := range bySize[n-1] {
			for _, place := range []string{"^?", "<0 ?>", "[1:?]", "[1 0:?]", "{0 1:?}"} {
				list = append(list, putInto(place, kid))
			}
		}
		for left := 1; left < n-1; left++ {
			for _, a := range bySize[left] {
				for _, b := range bySize[n-1-left] {
					list = append(list, impl.Core{Kind: impl.CoApp, Kids: []impl.Core{a, b}}, impl.Core{Kind: impl.CoOp, Value: impl.OpSub, Kids: []impl.Core{a, b}})
				}
			}
		}
		bySize = append(bySize, list)
	}
	return slices.DeleteFunc(slices.Concat(bySize...), isOpen)
}

// meaning evaluates terms of a checked program to integers, data and functions of Go. It panics when it has been called too often.
type meaning struct {
	p    impl.Program
	left int
}

// lazily is a value that is computed when it is asked for the first time.
type lazily func() any

// made is a constructor with its fields.
type made struct {
	tag    int
	fields []lazily
}

func (m *meaning) later(t impl.Term, around map[string]lazily) lazily {
	var value any
	done := false
	return func() any {
		if !done {
			value = m.of(t, around)
			done = true
		}
		return value
	}
}

func (m *meaning) inside(t impl.Term, around map[string]lazily, names []string, values []lazily) any {
	inner := map[string]lazily{}
	for name, value := range around {
		inner[name] = value
	}
	for i, name := range names {
		inner[name] = values[i]
	}
	return m.of(t, inner)
}

func (m *meaning) of(t impl.Term, around map[string]lazily) any {
	m.left--
	if m.left < 0 {
		panic("no end")
	}
	kid := func(i int) any { return m.of(t.Kids[i], around) }
	switch t.Kind {
	case impl.TmVar:
		if value, bound := around[t.Name]; bound {
			return value()
		}
		at := slices.IndexFunc(m.p.Defs, func(d impl.Def) bool { return d.Name == t.Name })
		return m.of(m.p.Defs[at].Body, nil)
	case impl.TmNum:
		return t.Num
	case impl.TmOp:
		return exactly(t.Num, kid(0).(int64), kid(1).(int64))
	case impl.TmLam:
		return func(argument lazily) any {
			return m.inside(t.Kids[0], around, []string{t.Name}, []lazily{argument})
		}
	case impl.TmApp:
		return kid(0).(func(lazily) any)(m.later(t.Kids[1], around))
	case impl.TmBox:
		return kid(0)
	case impl.TmLet:
		return m.inside(t.Kids[1], around, []string{t.Name}, []lazily{m.later(t.Kids[0], around)})
	case impl.TmIf:
		if kid(0).(int64) != 0 {
			return kid(1)
		}
		return kid(2)
	case impl.TmMatch:
		chosen := kid(0).(made)
		branch := t.Kids[1+chosen.tag]
		return m.inside(branch.Kids[0], around, branch.Names, chosen.fields)
	}
	result := made{tag: m.tag(t.Name)}
	for _, field := range t.Kids {
		result.fields = append(result.fields, m.later(field, around))
	}
	return result
}

func (m *meaning) tag(constructor string) int {
	for _, data := range m.p.Datas {
		for tag, c := range data.Cons {
			if c.Name == constructor {
				return tag
			}
		}
	}
	panic("not declared: " + constructor)
}

// told is the text of a value down to some fields of fields.
func told(value any, depth int) string {
	switch v := value.(type) {
	case int64:
		return fmt.Sprint(v)
	case made:
		if depth == 0 {
			return ".."
		}
		text := fmt.Sprint("<", v.tag)
		for _, field := range v.fields {
			text += " " + told(field(), depth-1)
		}
		return text + ">"
	}
	return "function"
}

// meaningOf is the text of the value of main, unless that takes too long.
func meaningOf(p impl.Program) (text string) {
	defer func() {
		if problem := recover(); problem != nil {
			text = fmt.Sprint(problem)
		}
	}()
	at := slices.IndexFunc(p.Defs, func(d impl.Def) bool { return d.Name == "main" })
	m := &meaning{p, 5000}
	return told(m.of(p.Defs[at].Body, nil), 6)
}

// toldNormal is the same for a normal form. A definition by itself stands for its own normal form.
func toldNormal(b impl.Book, c impl.Core, depth int) string {
	for range b.Defs {
		if c.Kind == impl.CoRef {
			c, _, _ = impl.Normalize(b, b.Defs[c.Value], 2000)
		}
	}
	switch {
	case c.Kind == impl.CoRef || c.Kind == 0:
		return "no end"
	case c.Kind == impl.CoNum:
		return fmt.Sprint(c.Value)
	case c.Kind == impl.CoCon && depth == 0:
		return ".."
	case c.Kind == impl.CoCon:
		text := fmt.Sprint("<", c.Value)
		for _, field := range c.Kids {
			text += " " + toldNormal(b, field, depth-1)
		}
		return text + ">"
	}
	return "function"
}

// isEndless reports whether a told value has a part that could not be computed.
func isEndless(text string) bool { return strings.Contains(text, "no end") }
