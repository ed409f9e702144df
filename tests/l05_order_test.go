package tests

import (
	"fmt"
	"math/rand"
	"slices"
	"strings"
	"testing"

	"loop.example/g01074/impl"
)

// brokenParts are terms of the type Int that break one condition, in the order in which the conditions are checked, behind one that breaks none.
func brokenParts() ([]int64, []string) {
	return []int64{impl.OK, impl.ErrName, impl.ErrRange, impl.ErrType, impl.ErrLevel, impl.ErrLinear},
		[]string{"1", "free", "(match S { Z -> 1; S[n] -> 2 })", "(1 + Z)", `((\x:Int. let y = !x in 1) 2)`, `((\x:Int. x + x) 2)`}
}

// TestOrderOfChecks is the first half of P6: all rows of up to four parts, in one definition and in as many definitions.
func TestOrderOfChecks(t *testing.T) {
	codes, parts := brokenParts()
	var rows func(row []int)
	rows = func(row []int) {
		if len(row) > 0 {
			var defs, words []string
			want := 0
			for i, part := range row {
				words = append(words, parts[part])
				defs = append(defs, fmt.Sprint("d", i, " : Int = ", parts[part]))
				if part > 0 && (want == 0 || part < want) {
					want = part
				}
			}
			checkCodes(t, checkedProgram("main : Int = "+strings.Join(words, " + ")), codes[want])
			checkCodes(t, checkedProgram(defs...), codes[want])
			checkInvalidOnce(t, checkedProgram(defs...))
		}
		if len(row) < 4 {
			for part := range parts {
				rows(append(slices.Clone(row), part))
			}
		}
	}
	rows(nil)
}

// checkInvalidOnce makes the last definition of a program invalid.
func checkInvalidOnce(t *testing.T, p impl.Program) {
	t.Helper()
	p.Defs[len(p.Defs)-1].Name = "Main"
	checkCodes(t, p, impl.ErrInvalid)
}

// TestOrderOfChecksInOneTerm nests the parts instead of putting them beside each other.
func TestOrderOfChecksInOneTerm(t *testing.T) {
	codes, parts := brokenParts()
	for i := range parts {
		for k := range parts {
			for _, place := range intPlaces() {
				if strings.Contains(place, "fun") || strings.Contains(place, "nat") || strings.Contains(place, "box") {
					continue
				}
				want := min(i, k)
				if want == 0 {
					want = max(i, k)
				}
				inner := "(" + strings.ReplaceAll(place, "#", parts[i]) + ")"
				for _, body := range []string{inner + " + " + parts[k], parts[k] + " + " + inner, strings.ReplaceAll(place, "#", "("+parts[k]+" + "+inner+")"), strings.ReplaceAll(place, "#", "("+inner+" + "+parts[k]+")")} {
					checkCodes(t, checkedProgram("main : Int = "+body), codes[want])
				}
			}
		}
	}
}

// TestOrderOfChecksOfOneNode has single nodes that break two conditions at once.
func TestOrderOfChecksOfOneNode(t *testing.T) {
	checkRows(t, map[int64][]string{
		// A name that is unknown, of no level and used twice; constructors that are unknown, or have wrong fields of wrong types.
		impl.ErrName:  {"Int = x + !x", "Int -> Nat = \\x:Int. x + x + y", "Int = T[!1, 1 + Z]", "Int = match T { Z -> 1; S[n] -> n }", "Tree = 1", `Int = \x:Tree. x + !x`},
		impl.ErrRange: {"Int = S[1, !Z]", "Nat = Z[1]", "Int = match 1 { Z -> Z }", "Int = match 1 { S[n] -> n; Z -> 1 }", "Int = match nat { Z -> 1; S[n, m] -> n + !n }", `Int -> Int = \x:Int. S[x, x]`},
		// Wrong types of occurrences at wrong levels, and of variables that are used twice.
		impl.ErrType:  {`Int -> Int = \x:Int. !x`, `Nat -> Int = \x:Nat. x + x`, `Int -> Int = \x:Int. x x`, `Int -> !Nat = \x:Int. !x`, "Int = let x = !Z in x + x", "Int = let x = fun in if x then x x else x", "!Nat = let x = 1 in !x", "Int = match nat { Z -> 1; S[n] -> n + !n }", `Int -> Int = \x:Int. if 1 then !x else x + x`, "!Int = !!!!!!!!!1", "Int = !!!!!!!!!1"},
		impl.ErrLevel: {`Nat -> Pair = \x:Nat. P[1, !x]`, `Int -> !Int = \x:Int. !(x + x)`, "!Int = let x = 1 in if x then !(x + x) else !x", "Int = let x = box in if x then x + x else x", `Nat -> !Nat = \x:Nat. match x { Z -> !x; S[y] -> !y }`, `Int -> Int = \x:Int. let y = !(x + x) in x`},
	})
}

// checkRandom compares a program with what the document states. What does not tell bound names must be the same with other names.
func checkRandom(t *testing.T, p impl.Program) int64 {
	t.Helper()
	want := codeAsStated(p)
	checkCodes(t, p, want)
	if want == impl.ErrInvalid {
		return want
	}
	q := withOtherNames(p)
	checkCodes(t, q, want)
	at, code := impl.MainDef(p)
	if otherAt, otherCode := impl.MainDef(q); otherAt != at || otherCode != code || code == impl.OK && p.Defs[at].Name != "main" {
		t.Errorf("%.700s: main is %d, code %d", impl.PrintProgram(p), at, code)
	}
	for k, def := range p.Defs {
		other := q.Defs[k].Body
		for _, name := range append(impl.FreeNames(def.Body), "w", "x") {
			if impl.UsesOf(def.Body, name) != impl.UsesOf(other, name) || !slices.Equal(impl.LevelsOf(def.Body, name), impl.LevelsOf(other, name)) || impl.BoxDepth(def.Body) != impl.BoxDepth(other) {
				t.Errorf("%.700s: %q has other uses or levels with other bound names", impl.PrintProgram(p), name)
			}
		}
		if want == impl.OK || want >= impl.ErrType {
			if got := inferredText(p, int64(k)); got != typeAsStated(p, def.Body) || got != inferredText(q, int64(k)) {
				t.Errorf("%.700s: definition %d has the type %q", impl.PrintProgram(p), k, got)
			}
		}
	}
	return want
}

// TestRandomPrograms is P6 and P4 for programs that are nearly correct.
func TestRandomPrograms(t *testing.T) {
	codes := map[int64]int{}
	for _, faults := range []int{1, 2, 4, 1 << 40} {
		random := rand.New(rand.NewSource(int64(faults)))
		for range 500 {
			code := checkRandom(t, randomChecked(random, faults))
			codes[code]++
			if faults == 1<<40 && code != impl.OK {
				t.Fatalf("code %d of a program that is meant to be correct", code)
			}
		}
	}
	for _, code := range []int64{impl.OK, impl.ErrLevel, impl.ErrLinear} {
		if codes[code] < 100 {
			t.Errorf("code %d occurs %d times only", code, codes[code])
		}
	}
}

// disturb changes one node of a term, mostly into one of another type or another level.
func disturb(random *rand.Rand, x *impl.Term) {
	switch random.Intn(7) {
	case 0:
		*x = termOf([]string{"1", "Z", "(! 1)", "(! Z)", "A", `(\x x)`, "(P 1 (! Z))"}[random.Intn(7)])
	case 1:
		*x = leafOf([]string{"w", "x", "y", "z"}[random.Intn(4)])
	case 2:
		*x = boxes(1, roomyTerm(*x))
	case 3:
		if x.Kind == impl.TmBox {
			*x = roomyTerm(x.Kids[0])
		}
	case 4:
		random.Shuffle(len(x.Kids), func(i, k int) {
			if x.Kind != impl.TmMatch {
				x.Kids[i], x.Kids[k] = x.Kids[k], x.Kids[i]
			}
		})
	case 5:
		if x.Kind == impl.TmLam {
			x.Type = typeOf([]string{"Int", "Nat", "!Int", "Int -> Int"}[random.Intn(4)])
		}
	case 6:
		if x.Kind == impl.TmLam || x.Kind == impl.TmLet || x.Kind == impl.TmVar {
			x.Name = []string{"w", "x", "y", "z"}[random.Intn(4)]
		}
	}
}

func TestDisturbedPrograms(t *testing.T) {
	codes := map[int64]int{}
	random := rand.New(rand.NewSource(17))
	for range 1500 {
		p := randomChecked(random, 6)
		for range 1 + random.Intn(2) {
			body := &p.Defs[random.Intn(len(p.Defs))].Body
			if at := nodeAt(body, random.Intn(nodesOfTerm(*body))); at.Kind != impl.TmCase {
				disturb(random, at)
			}
		}
		codes[checkRandom(t, p)]++
	}
	for _, code := range []int64{impl.OK, impl.ErrName, impl.ErrType, impl.ErrLevel, impl.ErrLinear} {
		if codes[code] < 30 {
			t.Errorf("code %d occurs %d times only", code, codes[code])
		}
	}
}

func checksAsTold(p impl.Program) string {
	told := fmt.Sprint(impl.CheckTypes(p), impl.CheckLevels(p), impl.CheckProgram(p))
	at, code := impl.MainDef(p)
	told += fmt.Sprint(" ", at, code)
	for k := int64(-1); k <= int64(min(len(p.Defs), 9)); k++ {
		x, code := impl.InferBody(p, k)
		told += fmt.Sprint(" ", dumpType(x), code)
	}
	for _, def := range p.Defs[:min(len(p.Defs), 9)] {
		for _, name := range []string{"w", "x", "y", "z", ""} {
			told += fmt.Sprint(" ", impl.UsesOf(def.Body, name), impl.LevelsOf(def.Body, name), impl.BoxDepth(def.Body))
		}
	}
	return told
}

// TestChecksArePure is P1 for the functions of chapter 5.
func TestChecksArePure(t *testing.T) {
	random := rand.New(rand.NewSource(18))
	var list []impl.Program
	for i := range 150 {
		list = append(list, randomChecked(random, 1+i), randomProgram(random))
	}
	for _, x := range invalidTerms() {
		list = append(list, withBody(x))
	}
	var first []string
	for i := range list {
		list[i] = roomyProgram(list[i])
		before := dumpProgram(list[i])
		first = append(first, checksAsTold(list[i]))
		for k := range min(len(list[i].Defs), 9) {
			x, _ := impl.InferBody(list[i], int64(k))
			spoilType(x)
			for _, name := range []string{"w", "x", "y", "z"} {
				spoilSlice(impl.LevelsOf(list[i].Defs[k].Body, name), -1)
			}
		}
		if after := dumpProgram(list[i]); after != before {
			t.Fatalf("%.300s became %.300s", before, after)
		}
	}
	for i, p := range slices.Backward(list) {
		if got := checksAsTold(p); got != first[i] {
			t.Errorf("first %.300s, then %.300s", first[i], got)
		}
	}
}

// TestTypesOfBodiesShareNoMemory is P1 for the results of InferBody: no two slices, of one result, of two results or of the program, have memory in common.
func TestTypesOfBodiesShareNoMemory(t *testing.T) {
	p := roomyProgram(checkedProgram(
		`a : !(Nat -> Nat) -> !(Nat -> Nat) = \x:!(Nat -> Nat). x`, `b : !(Nat -> Nat) -> !(Nat -> Nat) = a`, `c : (Int -> Int) -> Int -> Int = \f:Int -> Int. \x:Int. (\g:Int -> Int. g) f x`, `d : (!Int -> !Int) -> !Int -> !Int = \f:!Int -> !Int. f`,
		`e : Int -> Int = match F[\x:Int. x, Z, P[1, !Z]] { F[a, b, c] -> a }`, `f : !Nat = match P[1, !Z] { P[a, b] -> b }`, `g : !(Int -> Int) = let x = !!(\x:Int. x) in if 1 then !e else !e`, `h : (Int -> Int) -> !(Int -> Int) -> Int -> Int = \x:Int -> Int. \y:!(Int -> Int). if 1 then x else e`,
	))
	checkCodes(t, p, impl.OK)
	var m memoryOf
	m.addProgram(p)
	var kept []impl.Type
	for range 2 {
		for k := range p.Defs {
			x, code := impl.InferBody(p, int64(k))
			if code != impl.OK {
				t.Errorf("definition %d: code %d", k, code)
			}
			m.addType(x)
			kept = append(kept, x)
		}
	}
	if m.overlap() {
		t.Fatalf("two slices share memory in %.300s", fmt.Sprint(kept))
	}
}
