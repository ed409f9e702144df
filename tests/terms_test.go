package tests

import (
	"fmt"
	"maps"
	"math/rand"
	"slices"
	"strconv"
	"strings"

	"loop.example/g01074/impl"
)

// termOf reads a term, valid or not, that is written with its node first and its kids behind it:
// variables, numbers and constructors without fields as they are, and (+ a b), (\x:Int a), (@ a b), (! a), (let:x a b), (S a), (match a (|Z b) (|S,m b)) and (if a b c).
func termOf(text string) impl.Term {
	t, rest := cutTerm(strings.Fields(strings.NewReplacer("(", " ( ", ")", " ) ").Replace(text)))
	if len(rest) > 0 {
		panic("no term: " + text)
	}
	return t
}

func cutTerm(words []string) (impl.Term, []string) {
	if words[0] != "(" {
		return leafOf(words[0]), words[1:]
	}
	t, rest := nodeOf(words[1]), words[2:]
	for rest[0] != ")" {
		var kid impl.Term
		kid, rest = cutTerm(rest)
		t.Kids = append(t.Kids, kid)
	}
	return t, rest[1:]
}

func leafOf(word string) impl.Term {
	if n, err := strconv.ParseInt(word, 10, 64); err == nil {
		return impl.Term{Kind: impl.TmNum, Num: n}
	}
	if strings.ToUpper(word[:1]) == word[:1] {
		return impl.Term{Kind: impl.TmCon, Name: word}
	}
	return impl.Term{Kind: impl.TmVar, Name: word}
}

func nodeOf(word string) impl.Term {
	name, annotation, annotated := strings.Cut(word[1:], ":")
	switch {
	case len(word) == 1 && strings.Contains("+-*/<=", word):
		return impl.Term{Kind: impl.TmOp, Num: int64(strings.Index("+-*/<=", word)) + 1}
	case word[0] == '\\' && annotated:
		return impl.Term{Kind: impl.TmLam, Name: name, Type: typeOf(annotation)}
	case word[0] == '\\':
		return impl.Term{Kind: impl.TmLam, Name: name, Type: intType()}
	case word[0] == '|':
		names := strings.Split(word[1:], ",")
		return impl.Term{Kind: impl.TmCase, Name: names[0], Names: names[1:]}
	case strings.HasPrefix(word, "let:"):
		return impl.Term{Kind: impl.TmLet, Name: annotation}
	}
	switch word {
	case "@":
		return impl.Term{Kind: impl.TmApp}
	case "!":
		return impl.Term{Kind: impl.TmBox}
	case "match":
		return impl.Term{Kind: impl.TmMatch}
	case "if":
		return impl.Term{Kind: impl.TmIf}
	}
	return impl.Term{Kind: impl.TmCon, Name: word}
}

// programOf reads declarations as datasOf does, or none, and definitions such as "main : Nat = (S Z)".
func programOf(datas string, defs ...string) impl.Program {
	var p impl.Program
	if datas != "" {
		p.Datas = datasOf(datas)
	}
	for _, text := range defs {
		head, body, _ := strings.Cut(text, "=")
		name, result, _ := strings.Cut(head, ":")
		p.Defs = append(p.Defs, impl.Def{Name: strings.TrimSpace(name), Type: typeOf(result), Body: termOf(body)})
	}
	return p
}

// withBody is a program, without declarations, of one definition.
func withBody(body impl.Term) impl.Program {
	return impl.Program{Defs: []impl.Def{{Name: "main", Type: intType(), Body: body}}}
}

// leaves are n numbers.
func leaves(n int) []impl.Term {
	return slices.Repeat([]impl.Term{{Kind: impl.TmNum, Num: 7}}, n)
}

// boxes puts n boxes around a term.
func boxes(n int, t impl.Term) impl.Term {
	return nested(n, t, func(kid impl.Term) impl.Term { return impl.Term{Kind: impl.TmBox, Kids: []impl.Term{kid}} })
}

func nested(n int, t impl.Term, around func(impl.Term) impl.Term) impl.Term {
	for range n {
		t = around(t)
	}
	return t
}

// wrappers put a term into each place that a kid can have.
func wrappers() []func(impl.Term) impl.Term {
	var list []func(impl.Term) impl.Term
	for _, text := range []string{
		`(+ # 1)`, `(+ 1 #)`, `(\x #)`, `(\x:Int->Int #)`, `(@ # 1)`, `(@ 1 #)`, `(! #)`, `(let:x # 1)`, `(let:x 1 #)`, `(S #)`, `(P 1 # 1)`, `(P 1 1 #)`,
		`(match # (|Z 1))`, `(match 1 (|S,x #))`, `(match 1 (|Z 1) (|S,x,y #))`, `(if # 1 1)`, `(if 1 # 1)`, `(if 1 1 #)`,
	} {
		place := termOf(text)
		list = append(list, func(kid impl.Term) impl.Term { return filled(place, kid) })
	}
	return list
}

// filled is t with a term in the place of the constructor "#".
func filled(t, kid impl.Term) impl.Term {
	if t.Kind == impl.TmCon && t.Name == "#" {
		return kid
	}
	kids := t.Kids
	t.Kids = nil
	for _, k := range kids {
		t.Kids = append(t.Kids, filled(k, kid))
	}
	return t
}

// tangledTerm has few nodes in memory and 2^depth paths, because its kids share memory.
func tangledTerm(depth int, leaf impl.Term) impl.Term {
	return nested(depth, leaf, func(kid impl.Term) impl.Term { return impl.Term{Kind: impl.TmApp, Kids: []impl.Term{kid, kid}} })
}

// sizedTerm has n nodes and is as flat as boxes and sums can be.
func sizedTerm(n int) impl.Term {
	switch {
	case n == 1:
		return leafOf("1")
	case n%2 == 0:
		return impl.Term{Kind: impl.TmBox, Kids: []impl.Term{sizedTerm(n - 1)}}
	}
	left := (n - 1) / 2
	return impl.Term{Kind: impl.TmOp, Num: impl.OpAdd, Kids: []impl.Term{sizedTerm(left), sizedTerm(n - 1 - left)}}
}

func nodesOfTerm(t impl.Term) int {
	n := 1
	for _, kid := range t.Kids {
		n += nodesOfTerm(kid)
	}
	return n
}

func depthOfTerm(t impl.Term) int {
	most := 0
	for _, kid := range t.Kids {
		most = max(most, depthOfTerm(kid))
	}
	return most + 1
}

func equalTerms(a, b impl.Term) bool {
	return a.Kind == b.Kind && a.Num == b.Num && a.Name == b.Name && equalTypes(a.Type, b.Type) && slices.Equal(a.Names, b.Names) && slices.EqualFunc(a.Kids, b.Kids, equalTerms)
}

// renamed is a valid term in which each bound variable has a name that next chooses, and each occurrence the name of the variable that it referred to before.
func renamed(t impl.Term, names map[string]string, next func() string) impl.Term {
	result := impl.Term{Kind: t.Kind, Num: t.Num, Name: t.Name, Type: t.Type}
	inside := maps.Clone(names)
	switch t.Kind {
	case impl.TmVar:
		if name, bound := names[t.Name]; bound {
			result.Name = name
		}
	case impl.TmLam, impl.TmLet:
		result.Name = next()
		inside[t.Name] = result.Name
	case impl.TmCase:
		for _, name := range t.Names {
			inside[name] = next()
			for slices.Contains(result.Names, inside[name]) {
				inside[name] = next()
			}
			result.Names = append(result.Names, inside[name])
		}
	}
	for i, kid := range t.Kids {
		if t.Kind == impl.TmLet && i == 0 {
			result.Kids = append(result.Kids, renamed(kid, names, next))
		} else {
			result.Kids = append(result.Kids, renamed(kid, inside, next))
		}
	}
	return result
}

// numbered is a valid term in which the bound variables are called #1, #2 and so on, so that no two of them have one name.
func numbered(t impl.Term) impl.Term {
	n := 0
	return renamed(t, map[string]string{}, func() string {
		n++
		return fmt.Sprint("#", n)
	})
}

// withOwnNames renames all bound variables to names that occur nowhere else.
func withOwnNames(t impl.Term) impl.Term {
	n := 0
	return renamed(t, map[string]string{}, func() string {
		n++
		return fmt.Sprint("own", n)
	})
}

// freeAsNumbered are the free names of a valid term.
func freeAsNumbered(t impl.Term) []string {
	var names []string
	var look func(t impl.Term)
	look = func(t impl.Term) {
		if t.Kind == impl.TmVar && t.Name[0] != '#' && !slices.Contains(names, t.Name) {
			names = append(names, t.Name)
		}
		for _, kid := range t.Kids {
			look(kid)
		}
	}
	look(numbered(t))
	return names
}

// randomDatasText declares the constructors that randomText uses.
const randomDatasText = "Nat = Z | S[Nat]; Pair = P[Int, Nat]; Three = A | B[Int] | C[Int, Nat, Three]"

// randomText is the text of a term that uses the variables w, x, y and z, bound or free, and the constructors as they are declared.
func randomText(random *rand.Rand, depth int) string {
	kid := func() string { return " " + randomText(random, depth-1) }
	letter := func(letters string) string { return letters[random.Intn(len(letters)):][:1] }
	branch := func(constructor string, fields int) string {
		for _, i := range random.Perm(4)[:fields] {
			constructor += "," + "wxyz"[i:i+1]
		}
		return " (|" + constructor + kid() + ")"
	}
	n := random.Intn(14)
	if depth <= 1 {
		n = random.Intn(4)
	}
	switch n {
	case 0, 1:
		return letter("wxyz")
	case 2:
		return letter("ZA")
	case 3:
		return []string{"3", "-2147483648", "2147483647"}[random.Intn(3)]
	case 4:
		return "(" + letter("+-*/<=") + kid() + kid() + ")"
	case 5:
		return `(\` + letter("wxyz") + []string{":Nat", ":Nat->!Int"}[random.Intn(2)] + kid() + ")"
	case 6:
		return `(\` + letter("wxyz") + kid() + ")"
	case 7, 8:
		return "(let:" + letter("wxyz") + kid() + kid() + ")"
	case 9:
		return "(" + []string{"@", "P"}[random.Intn(2)] + kid() + kid() + ")"
	case 10:
		return "(" + letter("!SB") + kid() + ")"
	case 11:
		return "(match" + kid() + branch("Z", 0) + branch("S", 1) + ")"
	case 12:
		return "(match" + kid() + branch("A", 0) + branch("B", 1) + branch("C", 3) + ")"
	}
	return "(if" + kid() + kid() + kid() + ")"
}

// randomTerm has a valid form.
func randomTerm(random *rand.Rand, depth int) impl.Term {
	for {
		if t := termOf(randomText(random, depth)); nodesOfTerm(t) <= 160 {
			return t
		}
	}
}

// randomTerms are valid terms that are the same in each run.
func randomTerms(n int) []impl.Term {
	random := rand.New(rand.NewSource(4))
	var list []impl.Term
	for range n {
		list = append(list, randomTerm(random, 1+random.Intn(7)))
	}
	return list
}

// randomProgram has definitions called w, x, y and z, so that all names are known, and others.
func randomProgram(random *rand.Rand) impl.Program {
	p := impl.Program{Datas: datasOf(randomDatasText)}
	names := []string{"w", "x", "y", "z", "main", "other", "f", "g"}[:4+random.Intn(5)]
	random.Shuffle(len(names), func(i, k int) { names[i], names[k] = names[k], names[i] })
	for _, name := range names {
		p.Defs = append(p.Defs, impl.Def{Name: name, Type: typeOf("Nat -> Int"), Body: randomTerm(random, 1+random.Intn(4))})
	}
	return p
}

// dumpTerm tells a term in full, with what is in the unused capacity of its slices.
func dumpTerm(t impl.Term) string {
	var b strings.Builder
	var tell func(t impl.Term)
	tell = func(t impl.Term) {
		b.WriteString(fmt.Sprint(t.Kind, t.Num, t.Name, dumpType(t.Type), len(t.Names), t.Names[:cap(t.Names)], len(t.Kids), "["))
		for _, kid := range t.Kids[:cap(t.Kids)] {
			tell(kid)
		}
		b.WriteString("]")
	}
	tell(t)
	return b.String()
}

// roomyTerm is t in memory of its own in which all slices have unused capacity.
func roomyTerm(t impl.Term) impl.Term {
	kids := make([]impl.Term, 0, len(t.Kids)+2)
	for _, kid := range t.Kids {
		kids = append(kids, roomyTerm(kid))
	}
	names := append(make([]string, 0, len(t.Names)+2), t.Names...)
	for i := len(kids); i < cap(kids); i++ {
		kids[:cap(kids)][i] = leafOf("unused")
	}
	for i := len(names); i < cap(names); i++ {
		names[:cap(names)][i] = "unused"
	}
	return impl.Term{Kind: t.Kind, Num: t.Num, Name: t.Name, Type: roomyType(t.Type), Names: names, Kids: kids}
}

func dumpProgram(p impl.Program) string {
	var b strings.Builder
	b.WriteString(fmt.Sprint(len(p.Datas), dumpDatas(p.Datas), len(p.Defs)))
	for _, def := range p.Defs[:cap(p.Defs)] {
		b.WriteString(" def " + def.Name + dumpType(def.Type) + dumpTerm(def.Body))
	}
	return b.String()
}

func roomyProgram(p impl.Program) impl.Program {
	defs := make([]impl.Def, 0, len(p.Defs)+2)
	for _, def := range p.Defs {
		defs = append(defs, impl.Def{Name: def.Name, Type: roomyType(def.Type), Body: roomyTerm(def.Body)})
	}
	return impl.Program{Datas: roomyDatas(p.Datas), Defs: defs}
}

// spoilSlice overwrites all memory of a result.
func spoilSlice[T any](list []T, with T) {
	list = list[:cap(list)]
	for i := range list {
		list[i] = with
	}
}
