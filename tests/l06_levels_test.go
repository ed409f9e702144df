package tests

import (
	"fmt"
	"math/rand"
	"slices"
	"strconv"
	"strings"
	"testing"

	"loop.example/g01074/impl"
)

// stratifiedAsStated tells of a closed term whether it is stratified: it gathers the levels of the binders and of the occurrences by the names of the variables.
func stratifiedAsStated(c impl.Core) bool {
	binders, uses := map[string]namedCore{}, map[string][]int{}
	levels := map[string]int{}
	deepest := 0
	var walk func(c namedCore, level int)
	walk = func(c namedCore, level int) {
		deepest = max(deepest, level)
		if c.kind == impl.CoVar {
			uses[c.name] = append(uses[c.name], level)
		} else if c.name != "" {
			binders[c.name], levels[c.name] = c, level
		}
		for _, kid := range c.kids {
			if c.kind == impl.CoBox {
				walk(kid, level+1)
			} else {
				walk(kid, level)
			}
		}
	}
	walk(nameCore(c), 0)
	for name, binder := range binders {
		own := levels[name]
		used := uses[name]
		if binder.kind == impl.CoLam && len(used) > 1 {
			return false
		}
		same := !slices.ContainsFunc(used, func(level int) bool { return level != own })
		above := binder.kind == impl.CoLet && !slices.ContainsFunc(used, func(level int) bool { return level != own+1 })
		if !same && !above {
			return false
		}
	}
	return deepest <= 8
}

func checkStratified(t *testing.T, c impl.Core, want bool) {
	t.Helper()
	if impl.IsStratified(c) != want {
		t.Errorf("%s: stratified is %t", impl.CoreText(c), !want)
	}
}

func TestIsStratified(t *testing.T) {
	for want, texts := range map[bool][]string{
		true: {
			"7", "@3", "<2>", "!7", "(1 + !!2)", "[1 2:<0>]", "{1 2:3}", "!(let 1 in !(let 2 in 3))",
			// The variable of a function: not at all, once.
			"^7", "^#0", "^^#0", "^^#1", "^^(#1 #0)", "^^(#0 #1)", "!^#0", "!!^^(#0 + #1)", "^[1 2:#0]", "^{1 2:#0}", "^<1 2 #0>", "^(#0 !7)", "^(#0 !^#0)", "(^#0 ^#0)", "^(#0 ^#0)", "^(let #0 in 1)", "^(let 1 in #1)", "^(let !1 in (#1 !#0))",
			// The variable of a let: not at all, once, several times at its level, and at the next one.
			"(let 1 in 2)", "(let 1 in #0)", "(let 1 in !#0)", "(let 1 in (#0 #0))", "(let 1 in !(#0 #0))", "(let 1 in (!#0 !#0))", "(let 1 in <0 !#0 7 !(#0 + #0)>)", "(let 1 in (#0 (#0 (#0 #0))))", "!(let 1 in (!#0 !#0))", "!(let 1 in (#0 #0))", "(let 1 in ^(#1 #0))", "(let 1 in !^(#1 (#1 #0)))", "(let 1 in !(let 2 in (#1 !#0)))", "(let 1 in !(let 2 in (#1 (#0 #0))))", "(let 1 in (let 2 in (#1 + !#0)))", "(let 1 in (let 2 in (!#1 + #0)))", "(let 1 in (let #0 in (#0 #1)))", "(let 1 in (let !#0 in !#1))", "(let (let 1 in !#0) in (#0 #0))",
		},
		false: {
			"^(#0 #0)", "^(#0 + #0)", "^<0 #0 #0>", "^<0 #0 1 #0>", "^!#0", "^(1 !#0)", "^!!#0", "^(#0 !#0)", "^(!#0 #0)", "^(!#0 !#0)", "^^(#1 #1)", "^^!#1", "^^(#0 (#1 !#1))", "!^!#0", "^(let #0 in #1)", "^(let 1 in !#1)", "^(let 1 in (#1 #1))", "^(let !#0 in 1)", "^[1 2:(#0 #0)]", "^{1 2:!#0}", "^(^#0 ^(#0 #0))", "^(^#1 #0)",
			"(let 1 in !!#0)", "(let 1 in (#0 !#0))", "(let 1 in (!#0 #0))", "(let 1 in (!#0 !!#0))", "(let 1 in (#0 !!#0))", "(let 1 in <0 !#0 #0 !#0>)", "(let 1 in <0 #0 !#0 #0>)", "(let 1 in (#0 (#0 !#0)))", "(let 1 in !(#0 !#0))", "!(let 1 in !!#0)", "(let 1 in !(let 2 in !#1))", "(let 1 in !(let 2 in !!#0))", "(let 1 in (let 2 in (#1 + !#1)))", "(let 1 in (let !#0 in #1))", "(let (let 1 in !!#0) in #0)", "(let 1 in (let #0 in !!#1))", "(let 1 in ^!!#1)", "(let 1 in !^!#1)",
			// Open terms.
			"#0", "!#0", "(1 #3)", "^#1", "^(#0 #1)", "(let #0 in #0)", "(let 1 in #1)", "(let 1 in !#1)", "!^!(#0 #2)", "[1 2:#0]",
		},
	} {
		for _, text := range texts {
			c := coreOf(text)
			if (len(nameCore(c).occurrences()) == 0 && stratifiedAsStated(c)) != want {
				t.Fatalf("%s: the test is wrong", text)
			}
			checkStratified(t, c, want)
			checkStratified(t, nestedCore(3, "!?", c), want)
			for _, place := range corePlaces() {
				if impl.IsClosed(c) {
					checkStratified(t, putInto(place, c), want)
				}
			}
		}
	}
}

// TestCoreLevelsAtTheLimit has nodes at MaxLevel and one above it, with and without variables.
func TestCoreLevelsAtTheLimit(t *testing.T) {
	for text, most := range map[string]int{
		"7": 8, "@3": 8, "<0>": 8, "^#0": 8, "^7": 8, "(let 1 in #0)": 8, "(let 1 in 2)": 8, "{1 2:3}": 8, "(1 <2 3 4>)": 8,
		"!7": 7, "(let 1 in !#0)": 7, "(let 1 in !2)": 7, "(let !1 in !(#0 #0))": 7, "^(#0 !1)": 7, "^(!1 #0)": 7, "<1 2 3 !4>": 7, "!!!!!7": 3, "(!!!7 ^#0)": 5,
	} {
		for n := range 12 {
			checkStratified(t, nestedCore(n, "!?", coreOf(text)), n <= most)
			checkStratified(t, nestedCore(n, "^!?", coreOf(text)), n <= most)
			checkStratified(t, nestedCore(n, "(let 1 in (1 !?))", coreOf(text)), n <= most)
			checkStratified(t, putInto("(? 1)", nestedCore(n, "!?", coreOf(text))), n <= most)
		}
	}
	// The same variables at all levels between.
	chain := "7"
	for range 8 {
		chain = "(let 1 in !(#0 " + chain + "))"
	}
	checkStratified(t, coreOf(chain), true)
	checkStratified(t, coreOf("!"+chain), false)
	checkStratified(t, coreOf("(let "+chain+" in #0)"), true)
	checkStratified(t, coreOf("(let 1 in "+chain+")"), true)
	checkStratified(t, coreOf("(let 1 in !"+chain+")"), false)
}

// writtenVariable is a variable in scope of a term that is being written.
type writtenVariable struct {
	isLet  bool
	level  int
	chosen int
	uses   int
}

// fits reports whether the variable may occur at a level once more, and counts that.
func (v *writtenVariable) fits(level int) bool {
	fits := level == v.level && v.uses == 0
	if v.isLet {
		fits = (level == v.level || level == v.level+1) && (v.uses == 0 || v.chosen == level)
	}
	if fits {
		v.uses++
		v.chosen = level
	}
	return fits
}

// stratifiedText is the text of a stratified term but for about one occurrence in so many.
func stratifiedText(random *rand.Rand, faults, depth, level int, variables []*writtenVariable) string {
	kid := func() string { return stratifiedText(random, faults, depth-1, level, variables) }
	inside := func(isLet bool) string {
		return stratifiedText(random, faults, depth-1, level, append(slices.Clone(variables), &writtenVariable{isLet: isLet, level: level}))
	}
	n := random.Intn(9)
	if depth <= 1 || level >= 8 && n == 1 {
		n = 0
	}
	switch n {
	case 0:
		for _, i := range random.Perm(len(variables)) {
			if random.Intn(faults) == 0 || variables[i].fits(level) {
				return "#" + strconv.Itoa(len(variables)-1-i)
			}
		}
		return "7"
	case 1, 2:
		if level < 8 {
			return "!" + stratifiedText(random, faults, depth-1, level+1, variables)
		}
		return "<0 " + kid() + ">"
	case 3, 4:
		return "^" + inside(false)
	case 5, 6:
		return "(let " + kid() + " in " + inside(true) + ")"
	case 7:
		return "<1 " + kid() + " " + kid() + " " + kid() + ">"
	}
	return "(" + kid() + " " + kid() + ")"
}

func TestStratifiedCores(t *testing.T) {
	counts := map[bool]int{}
	for _, faults := range []int{10, 30, 1 << 40} {
		random := rand.New(rand.NewSource(int64(91 + faults)))
		for range 2000 {
			c := coreOf(stratifiedText(random, faults, 2+random.Intn(10), random.Intn(3), nil))
			if nodesOfCore(c) > 400 {
				continue
			}
			want := stratifiedAsStated(c)
			if faults == 1<<40 && !want {
				t.Fatalf("%s is meant to be stratified", impl.CoreText(c))
			}
			checkStratified(t, c, want)
			if nodesOfCore(c) > 10 {
				counts[want]++
			}
		}
	}
	if counts[true] < 1000 || counts[false] < 500 {
		t.Errorf("only %v", counts)
	}
}

func TestStratifiedSmallCores(t *testing.T) {
	counts := map[bool]int{}
	for _, c := range append(smallCores(1, 7), randomCores(92, 3000)...) {
		want := len(nameCore(c).occurrences()) == 0 && stratifiedAsStated(c)
		checkStratified(t, c, want)
		counts[want]++
	}
	if counts[true] < 1000 || counts[false] < 5000 {
		t.Errorf("only %v", counts)
	}
}

func checkValidBook(t *testing.T, b impl.Book, want bool) {
	t.Helper()
	if impl.ValidBook(b) != want {
		t.Errorf("%.300s: valid is %t", fmt.Sprint(b), !want)
	}
}

// bookWith has so many definitions, of which one is given.
func bookWith(length, at int, c impl.Core) impl.Book {
	b := impl.Book{Defs: numbers(length)}
	b.Defs[at] = c
	return b
}

func TestValidBooks(t *testing.T) {
	checkValidBook(t, impl.Book{}, false)
	checkValidBook(t, impl.Book{Defs: []impl.Core{}}, false)
	for n := 1; n < 30; n++ {
		checkValidBook(t, impl.Book{Defs: numbers(n)}, n <= 24)
		checkValidBook(t, bookWith(n, n-1, coreOf("^#0")), n <= 24)
	}
	checkValidBook(t, impl.Book{Defs: numbers(300000)}, false)
	for _, length := range []int{1, 2, 3, 23, 24} {
		for at := range length {
			for text, want := range map[string]bool{"^#0": true, "#0": false, "^#1": false, "(let #0 in 1)": false, "!^!#1": false, "?": false, "<4>": false, "^(#0 #0)": true, "^!#0": true, "!!!!!!!!!!7": true} {
				checkValidBook(t, bookWith(length, at, coreOf(text)), want)
			}
			for def := range 26 {
				word := strconv.Itoa(def)
				for _, text := range []string{"@#", "[#:1]", "[0 #:1]", "[# 0:1]", "[0 0 0 #:1]", "[0 # 0 0:1]", "{# 0:1}", "{0 #:1}", "^(#0 @#)", "(let 1 in !<0 1 {0 #:1}>)", "[0:[0:[#:1]]]", "{0 0:@#}"} {
					text = strings.ReplaceAll(text, "#0", "$")
					text = strings.ReplaceAll(strings.ReplaceAll(text, "#", word), "$", "#0")
					checkValidBook(t, bookWith(length, at, coreOf(text)), def < length && def < 24)
				}
			}
		}
	}
	checkValidBook(t, bookOf("@1", "<0 5 -3>"), true)
	checkValidBook(t, bookOf("@1"), false)
	checkValidBook(t, bookOf("@0"), true)
	checkValidBook(t, bookOf("7", "@-1"), false)
	checkValidBook(t, impl.Book{Defs: slices.Repeat([]impl.Core{sizedCore(400, "1")}, 24)}, true)
	checkValidBook(t, bookWith(24, 23, sizedCore(401, "1")), false)
}

// TestRandomBooks has books with definitions that are closed by functions around them.
func TestRandomBooks(t *testing.T) {
	counts := map[bool]int{}
	random := rand.New(rand.NewSource(93))
	for range 2000 {
		b := impl.Book{}
		want := true
		length := 1 + random.Intn(26)
		for _, c := range randomCores(random.Int63(), length) {
			if random.Intn(100) > 0 {
				c = nestedCore(4, "^?", c)
			}
			b.Defs = append(b.Defs, c)
			want = want && nodesOfCore(c) <= 400 && len(nameCore(c).occurrences()) == 0
			for n := range nodesOfCore(c) {
				node := coreAt(&c, n)
				for _, def := range node.Data {
					want = want && def < int64(length)
				}
				want = want && (node.Kind != impl.CoRef || node.Value < int64(length))
			}
		}
		want = want && length <= 24
		checkValidBook(t, b, want)
		counts[want]++
	}
	if counts[true] < 100 || counts[false] < 100 {
		t.Errorf("only %v", counts)
	}
}

func TestSameBook(t *testing.T) {
	list := []impl.Book{{}, bookOf("?"), bookOf("?", "?"), bookOf("1"), bookOf("2"), bookOf("1", "2"), bookOf("2", "1"), bookOf("1", "1"), bookOf("1", "1", "1"), bookOf("^#0"), bookOf("^#1"), bookOf("[1:1]"), bookOf("[2:1]"), bookOf("@0", "<4>"), bookOf("@0", "<5>")}
	for i, a := range list {
		for k, b := range list {
			if impl.SameBook(a, b) != (i == k) {
				t.Errorf("books %d and %d: same is %t", i, k, i != k)
			}
		}
		if !impl.SameBook(a, impl.Book{Defs: append([]impl.Core{}, a.Defs...)}) {
			t.Errorf("book %d is not the same as its copy", i)
		}
	}
	if !impl.SameBook(impl.Book{}, impl.Book{Defs: []impl.Core{}}) {
		t.Error("a book without definitions")
	}
	many := impl.Book{Defs: numbers(300000)}
	other := impl.Book{Defs: numbers(300000)}
	if !impl.SameBook(many, other) {
		t.Error("large books are the same")
	}
	other.Defs[299999].Value++
	if impl.SameBook(many, other) {
		t.Error("large books differ at the end")
	}
}

// TestBooksArePure is P1 for the functions of books.
func TestBooksArePure(t *testing.T) {
	list := []impl.Book{{}, bookOf("?"), bookOf("@1"), bookOf("@1", "[0 1:^#0]"), bookOf("#0"), {Defs: numbers(24)}, {Defs: numbers(25)}, {Defs: brokenCores()}, {Defs: randomCores(94, 20)}}
	for i := range list {
		list[i] = roomyBook(list[i])
	}
	tell := func(i int) string {
		told := fmt.Sprint(impl.ValidBook(list[i]))
		for _, other := range list {
			told += fmt.Sprint(impl.SameBook(list[i], other))
		}
		return told
	}
	var first, before []string
	for i := range list {
		before = append(before, dumpBook(list[i]))
	}
	for i := range list {
		first = append(first, tell(i))
	}
	for i := len(list) - 1; i >= 0; i-- {
		if tell(i) != first[i] || dumpBook(list[i]) != before[i] {
			t.Errorf("book %d: first %s, then %s", i, first[i], tell(i))
		}
	}
}
