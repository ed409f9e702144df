package tests

import (
	"fmt"
	"math/rand"
	"slices"
	"strconv"
	"strings"

	"loop.example/g01074/impl"
)

// coreOf reads the text of a core term, which needs not be valid. "?" is the zero value.
func coreOf(text string) impl.Core {
	c, rest := cutCore(text)
	if rest != "" {
		panic("no core term: " + text)
	}
	return c
}

func coresOf(texts ...string) []impl.Core {
	var list []impl.Core
	for _, text := range texts {
		list = append(list, coreOf(text))
	}
	return list
}

func bookOf(texts ...string) impl.Book { return impl.Book{Defs: coresOf(texts...)} }

func cutCore(text string) (impl.Core, string) {
	rest := text[1:]
	switch text[0] {
	case '?':
		return impl.Core{}, rest
	case '#':
		return cutNumbered(impl.CoVar, rest)
	case '@':
		return cutNumbered(impl.CoRef, rest)
	case '^':
		return cutParts(impl.Core{Kind: impl.CoLam}, rest, "")
	case '!':
		return cutParts(impl.Core{Kind: impl.CoBox}, rest, "")
	case '<':
		c, rest := cutNumbered(impl.CoCon, rest)
		return cutParts(c, rest, strings.Repeat(" ", fields(rest))+">")
	case '[':
		return cutChoice(impl.CoMat, rest)
	case '{':
		return cutChoice(impl.CoSwi, rest)
	case '(':
		return cutPair(rest)
	}
	return cutNumbered(impl.CoNum, text)
}

// fields tells how many terms follow behind the tag of a constructor.
func fields(rest string) int {
	n := 0
	for rest[0] == ' ' {
		_, rest = cutCore(rest[1:])
		n++
	}
	return n
}

// cutParts reads a term behind each separator but the last one, and if there is none, one term.
func cutParts(c impl.Core, rest, separators string) (impl.Core, string) {
	if separators == "" {
		kid, rest := cutCore(rest)
		c.Kids = []impl.Core{kid}
		return c, rest
	}
	for i := range separators {
		if rest[0] != separators[i] {
			panic("no separator at " + rest)
		}
		rest = rest[1:]
		if i < len(separators)-1 {
			var kid impl.Core
			kid, rest = cutCore(rest)
			c.Kids = append(c.Kids, kid)
		}
	}
	return c, rest
}

func cutNumbered(kind int64, text string) (impl.Core, string) {
	end := 1
	for end < len(text) && strings.Contains("0123456789", text[end:end+1]) {
		end++
	}
	n, err := strconv.ParseInt(text[:end], 10, 64)
	if err != nil {
		panic(err)
	}
	return impl.Core{Kind: kind, Value: n}, text[end:]
}

func cutChoice(kind int64, text string) (impl.Core, string) {
	defs, rest, _ := strings.Cut(text, ":")
	c := impl.Core{Kind: kind}
	for _, word := range strings.Fields(defs) {
		def, _ := cutNumbered(kind, word)
		c.Data = append(c.Data, def.Value)
	}
	kid, rest := cutCore(rest)
	c.Kids = []impl.Core{kid}
	return c, rest[1:]
}

func cutPair(text string) (impl.Core, string) {
	if text, isLet := strings.CutPrefix(text, "let "); isLet {
		first, rest := cutCore(text)
		second, rest := cutCore(rest[len(" in "):])
		return impl.Core{Kind: impl.CoLet, Kids: []impl.Core{first, second}}, rest[1:]
	}
	first, rest := cutCore(text)
	c := impl.Core{Kind: impl.CoApp, Kids: []impl.Core{first}}
	if op := strings.Index("+-*/<=", rest[1:2]); op >= 0 && rest[2] == ' ' {
		c.Kind, c.Value = impl.CoOp, int64(op)+1
		rest = rest[2:]
	}
	second, rest := cutCore(rest[1:])
	c.Kids = append(c.Kids, second)
	return c, rest[1:]
}

// corePlaces are all places that a kid can have.
func corePlaces() []string {
	return []string{"^?", "!?", "(? 1)", "(1 ?)", "(? + 1)", "(1 = ?)", "(let ? in 1)", "(let 1 in ?)", "<0 ?>", "<3 ? 1 1>", "<2 1 ? 1>", "<1 1 1 ?>", "[23:?]", "[0 1 2 3:?]", "{0 1:?}"}
}

// putInto is the term of a place with a term in it.
func putInto(place string, kid impl.Core) impl.Core { return filledCore(coreOf(place), kid) }

func filledCore(c, kid impl.Core) impl.Core {
	if c.Kind == 0 {
		return kid
	}
	kids := c.Kids
	c.Kids = nil
	for _, k := range kids {
		c.Kids = append(c.Kids, filledCore(k, kid))
	}
	return c
}

// nestedCore puts a term n times into a place.
func nestedCore(n int, place string, c impl.Core) impl.Core {
	for range n {
		c = putInto(place, c)
	}
	return c
}

// tangledCore has few nodes in memory and 2^depth paths, because its kids share memory.
func tangledCore(depth int, leaf impl.Core) impl.Core {
	for range depth {
		leaf = impl.Core{Kind: impl.CoApp, Kids: []impl.Core{leaf, leaf}}
	}
	return leaf
}

// sizedCore has n nodes and is as flat as boxes and sums can be.
func sizedCore(n int, leaf string) impl.Core {
	switch {
	case n == 1:
		return coreOf(leaf)
	case n%2 == 0:
		return putInto("!?", sizedCore(n-1, leaf))
	}
	left := (n - 1) / 2
	return impl.Core{Kind: impl.CoOp, Value: impl.OpAdd, Kids: []impl.Core{sizedCore(left, leaf), sizedCore(n-1-left, leaf)}}
}

func numbers(n int) []impl.Core { return slices.Repeat(coresOf("7"), n) }

func nodesOfCore(c impl.Core) int {
	n := 1
	for _, kid := range c.Kids {
		n += nodesOfCore(kid)
	}
	return n
}

func depthOfCore(c impl.Core) int {
	most := 0
	for _, kid := range c.Kids {
		most = max(most, depthOfCore(kid))
	}
	return most + 1
}

func equalCores(a, b impl.Core) bool {
	return a.Kind == b.Kind && a.Value == b.Value && slices.Equal(a.Data, b.Data) && slices.EqualFunc(a.Kids, b.Kids, equalCores)
}

// coreAt returns the node of a core term with so many nodes before it.
func coreAt(c *impl.Core, before int) *impl.Core {
	var find func(c *impl.Core) *impl.Core
	find = func(c *impl.Core) *impl.Core {
		if before == 0 {
			return c
		}
		before--
		for i := range c.Kids {
			if found := find(&c.Kids[i]); found != nil {
				return found
			}
		}
		return nil
	}
	return find(c)
}

// dumpCore tells a core term in full, with what is in the unused capacity of its slices.
func dumpCore(c impl.Core) string {
	var b strings.Builder
	var tell func(c impl.Core)
	tell = func(c impl.Core) {
		b.WriteString(fmt.Sprint(c.Kind, c.Value, len(c.Data), c.Data[:cap(c.Data)], len(c.Kids), "["))
		for _, kid := range c.Kids[:cap(c.Kids)] {
			tell(kid)
		}
		b.WriteString("]")
	}
	tell(c)
	return b.String()
}

// roomyCore is c in memory of its own in which all slices have unused capacity.
func roomyCore(c impl.Core) impl.Core {
	kids := make([]impl.Core, 0, len(c.Kids)+2)
	for _, kid := range c.Kids {
		kids = append(kids, roomyCore(kid))
	}
	data := append(make([]int64, 0, len(c.Data)+2), c.Data...)
	for i := len(kids); i < cap(kids); i++ {
		kids[:cap(kids)][i] = coreOf("[7:8]")
	}
	for i := len(data); i < cap(data); i++ {
		data[:cap(data)][i] = 9
	}
	return impl.Core{Kind: c.Kind, Value: c.Value, Data: data, Kids: kids}
}

func roomyBook(b impl.Book) impl.Book {
	defs := make([]impl.Core, 0, len(b.Defs)+2)
	for _, c := range b.Defs {
		defs = append(defs, roomyCore(c))
	}
	for i := len(defs); i < cap(defs); i++ {
		defs[:cap(defs)][i] = coreOf("[7:8]")
	}
	return impl.Book{Defs: defs}
}

func dumpBook(b impl.Book) string {
	told := fmt.Sprint(len(b.Defs))
	for _, c := range b.Defs[:cap(b.Defs)] {
		told += dumpCore(c)
	}
	return told
}

// spoilCore overwrites all memory of a result.
func spoilCore(c impl.Core) {
	for _, kid := range c.Kids {
		spoilCore(kid)
	}
	spoilSlice(c.Data, -1)
	spoilSlice(c.Kids, impl.Core{Kind: -1})
}

func (m *memoryOf) addCore(c impl.Core) {
	sliceIn(m, c.Data)
	sliceIn(m, c.Kids)
	for _, kid := range c.Kids {
		m.addCore(kid)
	}
}

// namedCore is a core term in which each binder has a name of its own. The names of free variables begin with "free".
type namedCore struct {
	kind, value int64
	data        []int64
	name        string
	kids        []namedCore
}

// naming gives names to binders.
type naming struct{ given int }

func (n *naming) binder() string {
	n.given++
	return fmt.Sprint("bound", n.given)
}

func freeName(variable int) string { return fmt.Sprint("free", variable) }

// named gives names to the variables of a core term inside the binders around it, the outermost one first.
func (n *naming) named(c impl.Core, around ...string) namedCore {
	result := namedCore{kind: c.Kind, value: c.Value, data: c.Data}
	if c.Kind == impl.CoVar {
		result.value = 0
		if at := len(around) - 1 - int(c.Value); at >= 0 {
			result.name = around[at]
		} else {
			result.name = freeName(-1 - at)
		}
		return result
	}
	inside := slices.Clone(around)
	if c.Kind == impl.CoLam || c.Kind == impl.CoLet {
		result.name = n.binder()
		inside = append(inside, result.name)
	}
	for i, kid := range c.Kids {
		if c.Kind == impl.CoLet && i == 0 {
			result.kids = append(result.kids, n.named(kid, around...))
		} else {
			result.kids = append(result.kids, n.named(kid, inside...))
		}
	}
	return result
}

func nameCore(c impl.Core) namedCore { return new(naming).named(c) }

// unnamed finds the indices again.
func (c namedCore) unnamed(around ...string) impl.Core {
	result := impl.Core{Kind: c.kind, Value: c.value, Data: c.data}
	if c.kind == impl.CoVar {
		if at := slices.Index(around, c.name); at >= 0 {
			result.Value = int64(len(around) - 1 - at)
		} else {
			result.Value = int64(number(c.name) + len(around))
		}
		return result
	}
	inside := slices.Clone(around)
	if c.name != "" {
		inside = append(inside, c.name)
	}
	for i, kid := range c.kids {
		if c.kind == impl.CoLet && i == 0 {
			result.Kids = append(result.Kids, kid.unnamed(around...))
		} else {
			result.Kids = append(result.Kids, kid.unnamed(inside...))
		}
	}
	return result
}

// number is the number of a free variable with a name.
func number(name string) int {
	n, err := strconv.Atoi(strings.TrimPrefix(name, "free"))
	if err != nil {
		panic(err)
	}
	return n
}

// replaced has other terms in the place of the free variables.
func (c namedCore) replaced(free func(variable int) namedCore) namedCore {
	if strings.HasPrefix(c.name, "free") {
		return free(number(c.name))
	}
	kids := c.kids
	c.kids = nil
	for _, kid := range kids {
		c.kids = append(c.kids, kid.replaced(free))
	}
	return c
}

func freeCore(variable int) namedCore {
	return namedCore{kind: impl.CoVar, name: freeName(variable)}
}

// occurrences counts the free variables.
func (c namedCore) occurrences() map[int64]int64 {
	counts := map[int64]int64{}
	c.replaced(func(variable int) namedCore {
		counts[int64(variable)]++
		return freeCore(variable)
	})
	return counts
}

// greatestIndex is that of any CoVar node.
func greatestIndex(c impl.Core) int64 {
	most := int64(-1)
	if c.Kind == impl.CoVar {
		most = c.Value
	}
	for _, kid := range c.Kids {
		most = max(most, greatestIndex(kid))
	}
	return most
}

// shiftAsStated is the result of ShiftCore for a valid core term.
func shiftAsStated(c impl.Core, by, from int64) (impl.Core, int64) {
	if by < 0 || by > 64 || from < 0 || from > 255 {
		return impl.Core{}, impl.ErrRange
	}
	result := nameCore(c).replaced(func(variable int) namedCore {
		if int64(variable) >= from {
			return freeCore(variable + int(by))
		}
		return freeCore(variable)
	}).unnamed()
	if greatestIndex(result) > 255 {
		return impl.Core{}, impl.ErrRange
	}
	return result, impl.OK
}

// instantiateAsStated is the result of InstantiateCore for valid core terms.
func instantiateAsStated(body, arg impl.Core) (impl.Core, int64) {
	names := new(naming)
	namedBody, namedArg := names.named(body), names.named(arg)
	result := namedBody.replaced(func(variable int) namedCore {
		if variable == 0 {
			return namedArg
		}
		return freeCore(variable - 1)
	}).unnamed()
	switch {
	case nodesOfCore(result) > 400 || depthOfCore(result) > 80:
		return impl.Core{}, impl.ErrFull
	case greatestIndex(result) > 255:
		return impl.Core{}, impl.ErrRange
	}
	return result, impl.OK
}

// randomCoreText is the text of a valid core term with at most so many free variables if it is inside that many binders, or rarely with one of a great index.
func randomCoreText(random *rand.Rand, depth, variables int) string {
	kid := func(more int) string { return randomCoreText(random, depth-1, variables+more) }
	def := func() string { return strconv.Itoa(random.Intn(24)) }
	n := random.Intn(17)
	if depth <= 1 {
		n = random.Intn(5)
	}
	switch n {
	case 0, 1, 2:
		if random.Intn(40) == 0 {
			return "#" + strconv.Itoa(190+random.Intn(66))
		}
		return "#" + strconv.Itoa(random.Intn(variables+1))
	case 3:
		return []string{"3", "-2147483648", "2147483647", "-1", "0"}[random.Intn(5)]
	case 4:
		return "@" + def()
	case 5, 6, 7:
		return "^" + kid(1)
	case 8:
		return "!" + kid(0)
	case 9, 10:
		return "(let " + kid(0) + " in " + kid(1) + ")"
	case 11:
		return "(" + kid(0) + " " + "+-*/<="[random.Intn(6):][:1] + " " + kid(0) + ")"
	case 12:
		return "[" + strings.Repeat(def()+" ", random.Intn(4)) + def() + ":" + kid(0) + "]"
	case 13:
		return "{" + def() + " " + def() + ":" + kid(0) + "}"
	case 14:
		text := "<" + strconv.Itoa(random.Intn(4))
		for range random.Intn(4) {
			text += " " + kid(0)
		}
		return text + ">"
	}
	return "(" + kid(0) + " " + kid(0) + ")"
}

// randomCores are valid core terms that are the same in each run.
func randomCores(seed int64, n int) []impl.Core {
	random := rand.New(rand.NewSource(seed))
	var list []impl.Core
	for len(list) < n {
		c := coreOf(randomCoreText(random, 1+random.Intn(8), random.Intn(4)))
		if nodesOfCore(c) <= 400 {
			list = append(list, c)
		}
	}
	return list
}

// smallCores are all core terms of variables up to a greatest one, functions, applications, boxes and lets with at most so many nodes.
func smallCores(greatest, nodes int) []impl.Core {
	bySize := [][]impl.Core{nil, nil}
	for variable := range greatest + 1 {
		bySize[1] = append(bySize[1], coreOf("#"+strconv.Itoa(variable)))
	}
	for n := 2; n <= nodes; n++ {
		var list []impl.Core
		for _, kid := range bySize[n-1] {
			list = append(list, putInto("^?", kid), putInto("!?", kid))
		}
		for left := 1; left < n-1; left++ {
			for _, a := range bySize[left] {
				for _, b := range bySize[n-1-left] {
					list = append(list, impl.Core{Kind: impl.CoApp, Kids: []impl.Core{a, b}}, impl.Core{Kind: impl.CoLet, Kids: []impl.Core{a, b}})
				}
			}
		}
		bySize = append(bySize, list)
	}
	return slices.Concat(bySize...)
}
