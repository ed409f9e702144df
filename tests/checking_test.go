package tests

import (
	"fmt"
	"maps"
	"math/rand"
	"slices"
	"strings"
	"testing"

	"loop.example/g01074/impl"
)

const checkedDatas = "data Nat = Z | S[Nat] data Pair = P[Int, !Nat] data Fun = F[Int -> Int, Nat, Pair] data Tri = A | B[Int] | C[Nat, Int]\n"

// checkedProgram has checkedDatas and definitions such as "main : Int = 1".
func checkedProgram(defs ...string) impl.Program {
	text := checkedDatas
	for _, def := range defs {
		text += "def " + def + "\n"
	}
	return must(impl.ParseProgram(text))
}

// checkCodes checks a program of which the code of CheckProgram is given: the checks before the one that fails return OK.
func checkCodes(t *testing.T, p impl.Program, want int64) {
	t.Helper()
	types, levels := want, want
	if want >= impl.ErrLevel {
		types = impl.OK
	}
	if want >= impl.ErrLinear {
		levels = impl.OK
	}
	got := []int64{impl.CheckTypes(p), impl.CheckLevels(p), impl.CheckProgram(p)}
	if !slices.Equal(got, []int64{types, levels, want}) {
		t.Errorf("%.700s: codes %d, want %d, %d and %d", impl.PrintProgram(p), got, types, levels, want)
	}
}

// checkAll also compares the code with what chapter 5 states, for the program as it is and for programs that differ in the names of bound variables and in other definitions.
func checkAll(t *testing.T, p impl.Program, want int64) {
	t.Helper()
	if stated := codeAsStated(p); stated != want {
		t.Fatalf("%.700s: code %d as stated, want %d", impl.PrintProgram(p), stated, want)
	}
	checkCodes(t, p, want)
	checkCodes(t, withOtherNames(p), want)
	if len(p.Defs) < 8 {
		other := impl.Def{Name: "unused", Type: typeOf("Int -> Int"), Body: termOf(`(\x (let:y x (+ y y)))`)}
		checkCodes(t, impl.Program{Datas: p.Datas, Defs: append([]impl.Def{other}, p.Defs...)}, want)
		checkCodes(t, impl.Program{Datas: p.Datas, Defs: append(slices.Clone(p.Defs), other)}, want)
	}
}

// withOtherNames has names for all bound variables that occur nowhere else.
func withOtherNames(p impl.Program) impl.Program {
	q := impl.Program{Datas: p.Datas}
	for _, def := range p.Defs {
		q.Defs = append(q.Defs, impl.Def{Name: def.Name, Type: def.Type, Body: withOwnNames(def.Body)})
	}
	return q
}

// statement tells of one body, in which each variable has a name of its own, what chapter 5 states.
// Types are closed texts, and the text of what has no type is empty.
type statement struct {
	p      impl.Program
	body   impl.Term
	types  map[string]string
	levels map[string]int
}

func stated(p impl.Program, body impl.Term) statement {
	return statement{p, numbered(body), map[string]string{}, map[string]int{}}
}

func (s statement) typeText(t impl.Term) string {
	switch t.Kind {
	case impl.TmVar:
		if text, bound := s.types[t.Name]; bound {
			return text
		}
		at := slices.IndexFunc(s.p.Defs, func(d impl.Def) bool { return d.Name == t.Name })
		return closedText(s.p.Defs[at].Type)
	case impl.TmNum:
		return "Int"
	case impl.TmOp:
		return when(s.typeText(t.Kids[0]) == "Int" && s.typeText(t.Kids[1]) == "Int", "Int")
	case impl.TmLam:
		s.types[t.Name] = closedText(t.Type)
		result := s.typeText(t.Kids[0])
		return when(result != "", "("+closedText(t.Type)+"->"+result+")")
	case impl.TmApp:
		argument := s.typeText(t.Kids[1])
		result, found := strings.CutPrefix(s.typeText(t.Kids[0]), "("+argument+"->")
		return when(found && argument != "", strings.TrimSuffix(result, ")"))
	case impl.TmBox:
		inside := s.typeText(t.Kids[0])
		return when(inside != "", "!"+inside)
	case impl.TmLet:
		first := s.typeText(t.Kids[0])
		s.types[t.Name] = strings.TrimPrefix(first, "!")
		return when(first == "Int" || strings.HasPrefix(first, "!"), s.typeText(t.Kids[1]))
	case impl.TmCon:
		data, fields := s.declared(t.Name)
		fit := true
		for i, field := range fields {
			fit = fit && s.typeText(t.Kids[i]) == closedText(field)
		}
		return when(fit, data)
	case impl.TmIf:
		second, third := s.typeText(t.Kids[1]), s.typeText(t.Kids[2])
		return when(s.typeText(t.Kids[0]) == "Int" && second == third, second)
	}
	return s.typeOfMatch(t)
}

func (s statement) typeOfMatch(t impl.Term) string {
	data, _ := s.declared(t.Kids[1].Name)
	fit := s.typeText(t.Kids[0]) == data
	var texts []string
	for _, branch := range t.Kids[1:] {
		_, fields := s.declared(branch.Name)
		for i, name := range branch.Names {
			s.types[name] = closedText(fields[i])
		}
		texts = append(texts, s.typeText(branch.Kids[0]))
		fit = fit && texts[0] == texts[len(texts)-1]
	}
	return when(fit, texts[0])
}

func (s statement) declared(constructor string) (string, []impl.Type) {
	for _, data := range s.p.Datas {
		for _, c := range data.Cons {
			if c.Name == constructor {
				return data.Name, c.Fields
			}
		}
	}
	panic("not declared: " + constructor)
}

func when(holds bool, text string) string {
	if holds {
		return text
	}
	return ""
}

// levelsFit tells whether all levels in a term of a level are correct, once the types are known.
func (s statement) levelsFit(t impl.Term, level int) bool {
	for _, name := range append(slices.Clone(t.Names), t.Name) {
		switch t.Kind {
		case impl.TmLam, impl.TmCase:
			s.levels[name] = level
		case impl.TmLet:
			s.levels[name] = level + len(when(strings.HasPrefix(s.typeText(t.Kids[0]), "!"), "!"))
		}
	}
	own, bound := s.levels[t.Name]
	fit := level <= 8 && (t.Kind != impl.TmVar || !bound || own == level)
	for _, kid := range t.Kids {
		fit = s.levelsFit(kid, insideOf(t, level)) && fit
	}
	return fit
}

func insideOf(t impl.Term, level int) int {
	if t.Kind == impl.TmBox {
		return level + 1
	}
	return level
}

// usesFit tells whether all uses in a term of a level are correct, once the levels are known.
func (s statement) usesFit(t impl.Term, level int) bool {
	fit := true
	for _, name := range append(slices.Clone(t.Names), t.Name) {
		if t.Kind == impl.TmLam || t.Kind == impl.TmCase {
			fit = fit && usesAsStated(t.Kids[0], name) <= 1
		}
	}
	for i, kid := range t.Kids {
		if i > 0 && (t.Kind == impl.TmMatch || t.Kind == impl.TmIf) {
			for name, own := range s.levels {
				fit = fit && (own != level || bindsInside(kid, name) || usesAsStated(kid, name) <= 1)
			}
		}
		fit = fit && s.usesFit(kid, insideOf(t, level))
	}
	return fit
}

func bindsInside(t impl.Term, name string) bool {
	return t.Kind != impl.TmVar && t.Name == name || slices.Contains(t.Names, name) || slices.ContainsFunc(t.Kids, func(kid impl.Term) bool { return bindsInside(kid, name) })
}

// usesAsStated is the greatest number of occurrences over all ways to choose one branch of each node that has branches.
func usesAsStated(t impl.Term, name string) int64 {
	return slices.Max(slices.Collect(maps.Keys(occurrences(t, name))))
}

// occurrences are the numbers of occurrences that are possible in a numbered term.
func occurrences(t impl.Term, name string) map[int64]bool {
	if t.Kind == impl.TmVar && t.Name == name {
		return map[int64]bool{1: true}
	}
	all, chosen := map[int64]bool{0: true}, map[int64]bool{}
	for i, kid := range t.Kids {
		if i > 0 && (t.Kind == impl.TmMatch || t.Kind == impl.TmIf) {
			maps.Copy(chosen, occurrences(kid, name))
		} else {
			all = sumsOf(all, occurrences(kid, name))
		}
	}
	if len(chosen) > 0 {
		return sumsOf(all, chosen)
	}
	return all
}

func sumsOf(a, b map[int64]bool) map[int64]bool {
	sums := map[int64]bool{}
	for n := range a {
		for m := range b {
			sums[n+m] = true
		}
	}
	return sums
}

// levelsAsStated are the levels of the occurrences of a name in a numbered term.
func levelsAsStated(t impl.Term, name string) []int64 {
	var levels []int64
	var look func(t impl.Term, level int)
	look = func(t impl.Term, level int) {
		if t.Kind == impl.TmVar && t.Name == name {
			levels = append(levels, int64(level))
		}
		for _, kid := range t.Kids {
			look(kid, insideOf(t, level))
		}
	}
	look(t, 0)
	return levels
}

func depthAsStated(t impl.Term) int64 {
	deepest := int64(0)
	var look func(t impl.Term, boxes []bool)
	look = func(t impl.Term, boxes []bool) {
		deepest = max(deepest, int64(len(boxes)))
		if t.Kind == impl.TmBox {
			boxes = append(boxes, true)
		}
		for _, kid := range t.Kids {
			look(kid, boxes)
		}
	}
	look(t, nil)
	return deepest
}

// typeAsStated is the closed text of the type of a body, or nothing.
func typeAsStated(p impl.Program, body impl.Term) string {
	s := stated(p, body)
	return s.typeText(s.body)
}

// codeAsStated is CheckProgram, condition by condition.
func codeAsStated(p impl.Program) int64 {
	if !impl.ValidProgram(p) {
		return impl.ErrInvalid
	}
	if code := checkNamesAsStated(p); code != impl.OK {
		return code
	}
	typed, leveled, linear := true, true, true
	for _, def := range p.Defs {
		s := stated(p, def.Body)
		typed = typed && s.typeText(s.body) == closedText(def.Type)
		leveled = leveled && typed && s.levelsFit(s.body, 0)
		linear = linear && leveled && s.usesFit(s.body, 0)
	}
	for i, met := range []bool{typed, leveled, linear} {
		if !met {
			return []int64{impl.ErrType, impl.ErrLevel, impl.ErrLinear}[i]
		}
	}
	return impl.OK
}

// known is a variable that can be used so many times more.
type known struct {
	name  string
	kind  impl.Type
	level int
	left  int
}

// sketch writes random terms of given types. Their levels and uses are correct, but for one occurrence in so many.
type sketch struct {
	random *rand.Rand
	faults int
	defs   []impl.Def
	scope  []*known
}

func (s *sketch) pick(list ...string) string { return list[s.random.Intn(len(list))] }

func (s *sketch) kind() impl.Type {
	return typeOf(s.pick("Int", "Int", "Nat", "Pair", "Tri", "!Int", "!Nat", "Int -> Int", "!(Int -> Int)", "Nat -> !Int", "Fun"))
}

// inside writes a term in the scope of more variables.
func (s *sketch) inside(write func() string, variables ...*known) string {
	n := len(s.scope)
	s.scope = append(s.scope, variables...)
	text := write()
	s.scope = s.scope[:n]
	return text
}

// name returns the name of a variable or a definition of a type that can be used at a level.
func (s *sketch) name(kind impl.Type, level int) (string, bool) {
	fault := s.random.Intn(4 * s.faults)
	otherLevel, usedUp := fault == 0, 0 < fault && fault < 4
	hidden := map[string]bool{}
	var names []string
	var choices []*known
	for _, v := range slices.Backward(s.scope) {
		if !hidden[v.name] && equalTypes(v.kind, kind) && (otherLevel || v.level == level) && (usedUp || v.left > 0) {
			names, choices = append(names, v.name), append(choices, v)
		}
		hidden[v.name] = true
	}
	for _, def := range s.defs {
		if !hidden[def.Name] && equalTypes(def.Type, kind) && s.random.Intn(4) == 0 {
			names, choices = append(names, def.Name), append(choices, &known{})
		}
	}
	if len(names) == 0 {
		return "", false
	}
	i := s.random.Intn(len(names))
	choices[i].left--
	return names[i], true
}

// leaf writes a small term without variables.
func (s *sketch) leaf(kind impl.Type) string {
	switch {
	case kind.Kind == impl.TyBang:
		return "!" + s.leaf(kind.Kids[0])
	case kind.Kind == impl.TyFun:
		return fmt.Sprintf(`(\%s:%s. %s)`, s.pick("w", "x", "y", "z"), impl.TypeText(kind.Kids[0]), s.leaf(kind.Kids[1]))
	}
	leaves := map[string][]string{"": {"7", "(-1)"}, "Nat": {"Z", "S[Z]"}, "Pair": {"P[1, !Z]"}, "Fun": {`F[\x:Int. 3, Z, P[1, !Z]]`}, "Tri": {"A", "B[5]"}}
	return s.pick(leaves[kind.Name]...)
}

func (s *sketch) term(kind impl.Type, level, depth int) string {
	if name, found := s.name(kind, level); found && (depth <= 0 || s.random.Intn(2) == 0) {
		return name
	}
	if depth <= 0 {
		return s.leaf(kind)
	}
	switch s.random.Intn(9) {
	case 0:
		argument := s.kind()
		return "(" + s.term(funType(argument, kind), level, depth-1) + " " + s.term(argument, level, depth-1) + ")"
	case 1:
		return s.choice(level, "(if "+s.term(intType(), level, depth-1), []string{" then ", " else "}, ")", func(int) string { return s.term(kind, level, depth-1) })
	case 2:
		return s.choice(level, "(match "+s.term(dataType("Nat"), level, depth-1), []string{" { ", "; "}, " })", func(i int) string {
			return s.branch([]string{"Z", "S"}[i], level, func() string { return s.term(kind, level, depth-1) })
		})
	case 3:
		return s.choice(level, "(match "+s.term(dataType("Tri"), level, depth-1), []string{" { ", "; ", "; "}, " })", func(i int) string {
			return s.branch([]string{"A", "B", "C"}[i], level, func() string { return s.term(kind, level, depth-1) })
		})
	case 4, 5:
		return s.let(kind, level, depth)
	}
	return s.built(kind, level, depth)
}

// built writes a term whose node at the top makes its type.
func (s *sketch) built(kind impl.Type, level, depth int) string {
	kid := func(kind string) string { return s.term(typeOf(kind), level, depth-1) }
	switch {
	case kind.Kind == impl.TyInt:
		return "(" + kid("Int") + s.pick(" + ", " - ", " * ", " / ", " < ", " = ") + kid("Int") + ")"
	case kind.Kind == impl.TyBang:
		return "!" + s.term(kind.Kids[0], level+1, depth-1)
	case kind.Kind == impl.TyFun:
		name := s.pick("w", "x", "y", "z")
		body := s.inside(func() string { return s.term(kind.Kids[1], level, depth-1) }, &known{name, kind.Kids[0], level, 1})
		return `(\` + name + ":" + impl.TypeText(kind.Kids[0]) + ". " + body + ")"
	case kind.Name == "Nat":
		return "S[" + kid("Nat") + "]"
	case kind.Name == "Pair":
		return "P[" + kid("Int") + ", " + kid("!Nat") + "]"
	case kind.Name == "Fun":
		return "F[" + kid("Int -> Int") + ", " + kid("Nat") + ", " + kid("Pair") + "]"
	}
	return "C[" + kid("Nat") + ", " + kid("Int") + "]"
}

func (s *sketch) let(kind impl.Type, level, depth int) string {
	first, bound := intType(), &known{s.pick("w", "x", "y", "z"), intType(), level, 1000}
	if s.random.Intn(2) == 0 {
		bound.kind, bound.level = s.kind(), level+1
		first = bangType(bound.kind)
	}
	text := "(let " + bound.name + " = " + s.term(first, level, depth-1)
	return text + " in " + s.inside(func() string { return s.term(kind, level, depth-1) }, bound) + ")"
}

// branch writes a case of a constructor.
func (s *sketch) branch(constructor string, level int, write func() string) string {
	fields := map[string][]string{"S": {"Nat"}, "B": {"Int"}, "C": {"Nat", "Int"}}[constructor]
	var variables []*known
	var names []string
	for i, at := range s.random.Perm(4)[:len(fields)] {
		names = append(names, "wxyz"[at:at+1])
		variables = append(variables, &known{names[i], typeOf(fields[i]), level, 1})
	}
	if len(names) > 0 {
		constructor += "[" + strings.Join(names, ", ") + "]"
	}
	return constructor + " -> " + s.inside(write, variables...)
}

// choice writes branches, each behind one of the words. In each branch a variable of its level can be used once, and a variable of another level as often as in each other branch.
func (s *sketch) choice(level int, text string, words []string, end string, write func(i int) string) string {
	most := map[*known]int{}
	for i, word := range words {
		before, limited := map[*known]int{}, map[*known]int{}
		for _, v := range s.scope {
			before[v] = v.left
			if v.level == level {
				v.left = min(v.left, 1)
			}
			limited[v] = v.left
		}
		text += word + write(i)
		for _, v := range s.scope {
			most[v] = max(most[v], limited[v]-v.left)
			v.left = before[v]
		}
	}
	for _, v := range s.scope {
		v.left -= most[v]
	}
	return text + end
}

// randomChecked is a program with names and types that are correct, and often correct levels and uses.
func randomChecked(random *rand.Rand, faults int) impl.Program {
	for {
		s := &sketch{random: random, faults: faults}
		text := checkedDatas
		for _, i := range random.Perm(5)[:1+random.Intn(4)] {
			s.defs = append(s.defs, impl.Def{Name: []string{"main", "w", "x", "y", "f"}[i], Type: s.kind()})
		}
		for _, def := range s.defs {
			text += "def " + def.Name + " : " + impl.TypeText(def.Type) + " = " + s.term(def.Type, 0, random.Intn(6)) + "\n"
		}
		if p, _, code := impl.ParseProgram(text); code == impl.OK {
			return p
		} else if code != impl.ErrInvalid && code != impl.ErrRange {
			panic(text)
		}
	}
}
