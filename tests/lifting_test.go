package tests

import (
	"fmt"
	"math/rand"
	"slices"
	"strings"
	"testing"

	"loop.example/g01074/impl"
)

// lifting states chapter 7 for a checked program in which each variable has a name of its own.
type lifting struct {
	p        impl.Program
	bodies   []liftedBody
	branches []liftedBranch
	numbers  map[*impl.Term]int64
}

// liftedBody is a body with the names that its variables have in the program.
type liftedBody struct {
	statement
	origins map[string]string
}

// liftedBranch is a branch: the node that it is of and the level of that, its fields, and what is chosen with it.
type liftedBranch struct {
	def    int
	choice *impl.Term
	level  int
	fields []string
	root   *impl.Term
}

// typedCore is a node of a core term with its erased type.
type typedCore struct {
	node namedCore
	text string
	kids []typedCore
}

func liftAsStated(p impl.Program) *lifting {
	l := &lifting{p: p, numbers: map[*impl.Term]int64{}}
	for k, def := range p.Defs {
		body := liftedBody{stated(p, def.Body), originsOf(def.Body)}
		body.typeText(body.body)
		body.levelsFit(body.body, 0)
		l.bodies = append(l.bodies, body)
		l.find(k, &l.bodies[k].body, 0)
	}
	return l
}

// originsOf tells the names in a body of the variables of the numbered body.
func originsOf(body impl.Term) map[string]string {
	origins := map[string]string{}
	var look func(t impl.Term)
	look = func(t impl.Term) {
		names := t.Names
		if t.Kind == impl.TmLam || t.Kind == impl.TmLet {
			names = []string{t.Name}
		}
		for _, name := range names {
			origins[fmt.Sprint("#", len(origins)+1)] = name
		}
		for _, kid := range t.Kids {
			look(kid)
		}
	}
	look(body)
	return origins
}

// find numbers the branches in a term of a level.
func (l *lifting) find(def int, t *impl.Term, level int) {
	for i := range t.Kids {
		root, fields := &t.Kids[i], []string(nil)
		if root.Kind == impl.TmCase {
			fields, root = root.Names, &root.Kids[0]
		}
		if i > 0 && (t.Kind == impl.TmMatch || t.Kind == impl.TmIf) {
			l.numbers[root] = int64(len(l.p.Defs) + len(l.branches))
			l.branches = append(l.branches, liftedBranch{def, t, level, fields, root})
		}
		l.find(def, root, insideOf(*t, level))
	}
}

// captured are the variables that occur in the branches of a node and are bound outside of it.
func captured(choice impl.Term) []string {
	var names []string
	var look func(t impl.Term)
	look = func(t impl.Term) {
		if t.Kind == impl.TmVar && t.Name[0] == '#' && !bindsInside(choice, t.Name) && !slices.Contains(names, t.Name) {
			names = append(names, t.Name)
		}
		for _, kid := range t.Kids {
			look(kid)
		}
	}
	for _, branch := range choice.Kids[1:] {
		look(branch)
	}
	return names
}

func (b liftedBody) isBoxed(name string, level int) bool {
	if own := b.levels[name]; own != level && own != level+1 {
		panic(fmt.Sprint("captured at level ", level, " with level ", own))
	}
	return b.levels[name] != level
}

func erasedText(closed string) string { return strings.ReplaceAll(closed, "!", "") }

// typeFrom is the type of a function from variables.
func (b liftedBody) typeFrom(variables []string, result string) string {
	for _, name := range slices.Backward(variables) {
		result = "(" + erasedText(b.types[name]) + "->" + result + ")"
	}
	return result
}

func (b liftedBody) variable(name string) typedCore {
	return typedCore{namedCore{kind: impl.CoVar, name: name}, erasedText(b.types[name]), nil}
}

// core translates a term of a level.
func (l *lifting) core(b liftedBody, t *impl.Term, level int) typedCore {
	result := typedCore{text: erasedText(b.typeText(*t))}
	switch t.Kind {
	case impl.TmMatch, impl.TmIf:
		return l.choice(b, t, level)
	case impl.TmVar:
		if t.Name[0] == '#' {
			return b.variable(t.Name)
		}
		at := slices.IndexFunc(l.p.Defs, func(d impl.Def) bool { return d.Name == t.Name })
		result.node = namedCore{kind: impl.CoRef, value: int64(at)}
	case impl.TmNum:
		result.node = namedCore{kind: impl.CoNum, value: t.Num}
	case impl.TmOp:
		result.node = namedCore{kind: impl.CoOp, value: t.Num}
	case impl.TmLam:
		result.node = namedCore{kind: impl.CoLam, name: t.Name}
	case impl.TmApp:
		result.node = namedCore{kind: impl.CoApp}
	case impl.TmBox:
		result.node = namedCore{kind: impl.CoBox}
	case impl.TmLet:
		result.node = namedCore{kind: impl.CoLet, name: t.Name}
	case impl.TmCon:
		result.node = namedCore{kind: impl.CoCon, value: l.tag(t.Name)}
	}
	for i := range t.Kids {
		result.kids = append(result.kids, l.core(b, &t.Kids[i], insideOf(*t, level)))
	}
	return result
}

func (l *lifting) tag(constructor string) int64 {
	for _, data := range l.p.Datas {
		for tag, c := range data.Cons {
			if c.Name == constructor {
				return int64(tag)
			}
		}
	}
	panic("not declared: " + constructor)
}

func (l *lifting) choice(b liftedBody, t *impl.Term, level int) typedCore {
	node := namedCore{kind: impl.CoSwi}
	if t.Kind == impl.TmMatch {
		node.kind = impl.CoMat
	}
	for i := range t.Kids[1:] {
		root := &t.Kids[i+1]
		if t.Kind == impl.TmMatch {
			root = &root.Kids[0]
		}
		node.data = append(node.data, l.numbers[root])
	}
	names, text := captured(*t), erasedText(b.typeText(*t))
	result := typedCore{node, b.typeFrom(names, text), []typedCore{l.core(b, &t.Kids[0], level)}}
	for i, name := range names {
		argument := b.variable(name)
		if b.isBoxed(name, level) {
			argument = typedCore{namedCore{kind: impl.CoBox}, argument.text, []typedCore{argument}}
		}
		result = typedCore{namedCore{kind: impl.CoApp}, b.typeFrom(names[i+1:], text), []typedCore{result, argument}}
	}
	return result
}

// definition translates a branch. The argument for a boxed variable has a name that is its own.
func (l *lifting) definition(branch liftedBranch) typedCore {
	b := l.bodies[branch.def]
	result := l.core(b, branch.root, branch.level)
	names, text := captured(*branch.choice), result.text
	for _, name := range slices.Backward(names) {
		if b.isBoxed(name, branch.level) {
			first := b.variable(name)
			first.node.name += " boxed"
			result = typedCore{namedCore{kind: impl.CoLet, name: name}, text, []typedCore{first, result}}
		}
	}
	variables := slices.Concat(branch.fields, names)
	for i, name := range slices.Backward(variables) {
		if i >= len(branch.fields) && b.isBoxed(name, branch.level) {
			name += " boxed"
		}
		result = typedCore{namedCore{kind: impl.CoLam, name: name}, b.typeFrom(variables[i:], text), []typedCore{result}}
	}
	return result
}

// definitions are those of the book, whether it is valid or not.
func (l *lifting) definitions() []typedCore {
	var list []typedCore
	for k := range l.bodies {
		list = append(list, l.core(l.bodies[k], &l.bodies[k].body, 0))
	}
	for _, branch := range l.branches {
		list = append(list, l.definition(branch))
	}
	return list
}

func (c typedCore) core() impl.Core { return c.named().unnamed() }

func (c typedCore) named() namedCore {
	result := c.node
	for _, kid := range c.kids {
		result.kids = append(result.kids, kid.named())
	}
	return result
}

func (c typedCore) texts() []string {
	texts := []string{c.text}
	for _, kid := range c.kids {
		texts = append(texts, kid.texts()...)
	}
	return texts
}

// branchesAsStated is the result of Branches.
func (l *lifting) branchesAsStated() []impl.Branch {
	var list []impl.Branch
	for _, branch := range l.branches {
		b, result := l.bodies[branch.def], impl.Branch{Def: int64(branch.def)}
		for _, name := range branch.fields {
			result.Fields = append(result.Fields, b.origins[name])
		}
		for _, name := range captured(*branch.choice) {
			result.Captured = append(result.Captured, b.origins[name])
			result.Boxed = append(result.Boxed, b.isBoxed(name, branch.level))
		}
		list = append(list, result)
	}
	return list
}

// namesAsStated is the result of LiftNames.
func (l *lifting) namesAsStated() []string {
	var names []string
	for _, def := range l.p.Defs {
		names = append(names, def.Name)
	}
	for i, branch := range l.branches {
		n := 0
		for _, other := range l.branches[:i+1] {
			if other.def == branch.def {
				n++
			}
		}
		names = append(names, fmt.Sprint(l.p.Defs[branch.def].Name, ".", n))
	}
	return names
}

// typesAsStated is the result of BookTypes: what is declared, and the types of fields, captured variables and nodes.
func (l *lifting) typesAsStated() []string {
	var texts []string
	for _, def := range l.p.Defs {
		texts = append(texts, erasedText(closedText(def.Type)))
	}
	for _, branch := range l.branches {
		b := l.bodies[branch.def]
		texts = append(texts, b.typeFrom(slices.Concat(branch.fields, captured(*branch.choice)), erasedText(b.typeText(*branch.choice))))
	}
	return texts
}

// isFull reports whether definitions are no valid book.
func isFull(defs []impl.Core) bool {
	return len(defs) > 24 || slices.ContainsFunc(defs, func(c impl.Core) bool {
		return nodesOfCore(c) > 400 || depthOfCore(c) > 80 || greatestIndex(c) > 255
	})
}

func closedTexts(list []impl.Type) []string {
	var texts []string
	for _, x := range list {
		texts = append(texts, closedText(x))
	}
	return texts
}

func coreTexts(list []impl.Core) []string {
	var texts []string
	for _, c := range list {
		texts = append(texts, impl.CoreText(c))
	}
	return texts
}

// checkNoBook checks that no function returns anything but this code, but for Branches, of which the code is given.
func checkNoBook(t *testing.T, p impl.Program, want, ofBranches int64) {
	t.Helper()
	b, one := impl.LiftProgram(p)
	names, two := impl.LiftNames(p)
	types, three := impl.BookTypes(p)
	nodes, four := impl.CoreTypes(p)
	list, five := impl.Branches(p)
	if !slices.Equal([]int64{one, two, three, four, five}, []int64{want, want, want, want, ofBranches}) {
		t.Errorf("%.700s: codes %d, %d, %d and %d, want %d, and %d, want %d", impl.PrintProgram(p), one, two, three, four, want, five, ofBranches)
	}
	if len(b.Defs)+len(names)+len(types)+len(nodes) > 0 || ofBranches != impl.OK && len(list) > 0 {
		t.Errorf("%.700s: results beside the code %d: %.300s", impl.PrintProgram(p), want, fmt.Sprint(b, names, types, nodes, list))
	}
}

// checkLifted compares all functions of chapter 7 with what it states for a checked program, and the book of the program with P8. It returns the branches and the definitions.
func checkLifted(t *testing.T, p impl.Program) ([]impl.Branch, []impl.Core) {
	t.Helper()
	l := liftAsStated(p)
	list, code := impl.Branches(p)
	if want := l.branchesAsStated(); fmt.Sprint(list) != fmt.Sprint(want) || code != impl.OK {
		t.Errorf("%.700s: branches %v, code %d, want %v", impl.PrintProgram(p), list, code, want)
	}
	var defs []impl.Core
	for _, c := range l.definitions() {
		defs = append(defs, c.core())
	}
	if isFull(defs) {
		checkNoBook(t, p, impl.ErrFull, impl.OK)
		return list, defs
	}
	b, one := impl.LiftProgram(p)
	if !slices.EqualFunc(b.Defs, defs, equalCores) || one != impl.OK {
		t.Errorf("%.700s: book %q, code %d, want %q", impl.PrintProgram(p), coreTexts(b.Defs), one, coreTexts(defs))
	}
	names, two := impl.LiftNames(p)
	if want := l.namesAsStated(); !slices.Equal(names, want) || two != impl.OK {
		t.Errorf("%.700s: names %q, code %d, want %q", impl.PrintProgram(p), names, two, want)
	}
	types, three := impl.BookTypes(p)
	if want := l.typesAsStated(); !slices.Equal(closedTexts(types), want) || three != impl.OK {
		t.Errorf("%.700s: types %q, code %d, want %q", impl.PrintProgram(p), closedTexts(types), three, want)
	}
	nodes, four := impl.CoreTypes(p)
	if len(nodes) != len(defs) || four != impl.OK {
		t.Fatalf("%.700s: types of %d definitions, code %d", impl.PrintProgram(p), len(nodes), four)
	}
	for k, c := range l.definitions() {
		if got, want := closedTexts(nodes[k]), c.texts(); !slices.Equal(got, want) {
			t.Errorf("%.700s: the nodes of %s have the types %q, want %q", impl.PrintProgram(p), names[k], got, want)
		}
	}
	checkBook(t, p, b, types, nodes)
	return list, defs
}

// checkBook is P8 for the book of a program: it has a definition for each definition and each branch, and the types of their nodes fit together.
func checkBook(t *testing.T, p impl.Program, b impl.Book, types []impl.Type, nodes [][]impl.Type) {
	t.Helper()
	branches := 0
	for _, def := range p.Defs {
		branches += branchesIn(def.Body)
	}
	if len(b.Defs) != len(p.Defs)+branches || len(types) != len(b.Defs) || len(nodes) != len(b.Defs) || !impl.ValidBook(b) {
		t.Fatalf("%.700s: %d definitions, of which %d and %d have types", impl.PrintProgram(p), len(b.Defs), len(types), len(nodes))
	}
	typing := coreTyping{p: p, defs: closedTexts(types)}
	for k, c := range b.Defs {
		if !impl.IsClosed(c) || !impl.IsStratified(c) {
			t.Errorf("%.700s: %s is closed: %t, stratified: %t", impl.PrintProgram(p), impl.CoreText(c), impl.IsClosed(c), impl.IsStratified(c))
		}
		if len(nodes[k]) != nodesOfCore(c) {
			t.Fatalf("%.700s: %s has %d nodes and %d types", impl.PrintProgram(p), impl.CoreText(c), nodesOfCore(c), len(nodes[k]))
		}
		typing.nodes, typing.fits = closedTexts(nodes[k]), true
		if got := typing.of(c); !typing.fits || got != typing.defs[k] || strings.Contains(got, "!") {
			t.Errorf("%.700s: %s of the type %s has nodes of the types %q", impl.PrintProgram(p), impl.CoreText(c), typing.defs[k], closedTexts(nodes[k]))
		}
	}
}

func branchesIn(t impl.Term) int {
	n := 0
	switch t.Kind {
	case impl.TmMatch:
		n = len(t.Kids) - 1
	case impl.TmIf:
		n = 2
	}
	for _, kid := range t.Kids {
		n += branchesIn(kid)
	}
	return n
}

// coreTyping checks the types of the nodes of a core term, each of which is taken from the front of nodes, against each other.
type coreTyping struct {
	p     impl.Program
	defs  []string
	nodes []string
	fits  bool
}

func (c *coreTyping) require(holds bool) { c.fits = c.fits && holds }

// of is the type of a term inside binders of variables of the given types.
func (c *coreTyping) of(x impl.Core, around ...string) string {
	text := c.nodes[0]
	c.nodes = c.nodes[1:]
	inside := slices.Clone(around)
	if x.Kind == impl.CoLam {
		inside = append(inside, argumentOf(text))
	}
	var kids []string
	for i, kid := range x.Kids {
		if x.Kind == impl.CoLet && i == 1 {
			inside = append(inside, kids[0])
		}
		kids = append(kids, c.of(kid, inside...))
	}
	switch x.Kind {
	case impl.CoVar:
		c.require(text == around[len(around)-1-int(x.Value)])
	case impl.CoNum:
		c.require(text == "Int")
	case impl.CoOp:
		c.require(text == "Int" && kids[0] == "Int" && kids[1] == "Int")
	case impl.CoLam:
		c.require(text == "("+argumentOf(text)+"->"+kids[0]+")")
	case impl.CoApp:
		c.require(kids[0] == "("+kids[1]+"->"+text+")")
	case impl.CoBox:
		c.require(text == kids[0])
	case impl.CoLet:
		c.require(text == kids[1])
	case impl.CoCon:
		c.require(slices.Equal(kids, c.fields(text)[x.Value]))
	case impl.CoMat:
		c.require(len(x.Data) == len(c.fields(kids[0])))
		for tag, fields := range c.fields(kids[0]) {
			c.require(c.defs[x.Data[tag]] == strings.Join(append(opens(fields), text), "->")+strings.Repeat(")", len(fields)))
		}
	case impl.CoSwi:
		c.require(kids[0] == "Int" && c.defs[x.Data[0]] == text && c.defs[x.Data[1]] == text)
	case impl.CoRef:
		c.require(text == c.defs[x.Value])
	}
	return text
}

// fields are the erased types of the fields of all constructors of a type.
func (c *coreTyping) fields(text string) [][]string {
	var list [][]string
	for _, data := range c.p.Datas {
		for _, constructor := range data.Cons {
			if data.Name == text {
				list = append(list, strings.Fields(erasedText(strings.Join(closedTexts(constructor.Fields), " "))))
			}
		}
	}
	return list
}

// opens puts a parenthesis before each text.
func opens(texts []string) []string {
	var list []string
	for _, text := range texts {
		list = append(list, "("+text)
	}
	return list
}

// argumentOf is the type of the argument of a function, given the closed text of its type.
func argumentOf(text string) string {
	depth := 0
	for i := range text {
		switch text[i] {
		case '(':
			depth++
		case ')':
			depth--
		case '-':
			if depth == 1 {
				return text[1:i]
			}
		}
	}
	return "no function"
}

// randomCapturing is a checked program of one definition that begins with a choice in the scope of variables of which some are boxed at its level. They have few names, so that fields often hide them.
func randomCapturing(random *rand.Rand) impl.Program {
	for {
		s := &sketch{random: random, faults: 1 << 40}
		kind := typeOf(s.pick("!Int", "!Nat"))
		variables := []*known{{"w", intType(), 1, 1000}, {"x", dataType("Nat"), 1, 1000}, {"y", intType(), 0, 1}, {"z", typeOf("Int -> !Int"), 0, 1}}
		depth := 2 + random.Intn(4)
		body := s.inside(func() string {
			return s.choice(0, "if 1", []string{" then ", " else "}, "", func(int) string { return s.withUses(kind, depth) })
		}, variables...)
		text := checkedDatas + "def main : (Int -> !Int) -> !Int -> !Nat -> Int -> " + impl.TypeText(kind) + ` = \z:Int -> !Int. \w:!Int. \x:!Nat. \y:Int. let w = w in let x = x in ` + body
		if p, _, code := impl.ParseProgram(text); code == impl.OK {
			return p
		} else if code != impl.ErrInvalid {
			panic(text)
		}
	}
}

// withUses writes a term that uses two of the variables, of any level, beside others.
func (s *sketch) withUses(kind impl.Type, depth int) string {
	parts := []impl.Type{bangType(intType()), bangType(dataType("Nat")), intType(), typeOf("Int -> !Int")}
	functions, arguments := "", ""
	for _, i := range s.random.Perm(len(parts))[:2] {
		functions += `\v:` + impl.TypeText(parts[i]) + ". "
		arguments += " " + s.term(parts[i], 0, 1+s.random.Intn(2))
	}
	return "((" + functions + s.term(kind, 0, depth) + ")" + arguments + ")"
}
