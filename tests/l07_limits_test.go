package tests

import (
	"fmt"
	"math/rand"
	"slices"
	"strings"
	"testing"

	"loop.example/g01074/impl"
)

// branchesText is a term of the type Int with so many branches.
func branchesText(n int) string {
	switch {
	case n == 0:
		return "1"
	case n == 1:
		return "(match U { U -> 1 })"
	}
	return "(" + branchesText(n/2) + " + " + branchesText(n-n/2) + ")"
}

// withBranches has definitions with so many branches each.
func withBranches(counts ...int) impl.Program {
	text := "data U = U\n"
	for i, n := range counts {
		text += fmt.Sprintf("def d%d : Int = %s\n", i, branchesText(n))
	}
	return must(impl.ParseProgram(text))
}

// checkFull checks a program of which it is known whether it has a book.
func checkFull(t *testing.T, p impl.Program, full bool) {
	t.Helper()
	want := int64(impl.OK)
	if full {
		want = impl.ErrFull
	}
	if _, code := impl.LiftProgram(p); code != want {
		t.Errorf("%.700s: code %d, want %d", impl.PrintProgram(p), code, want)
	}
	checkLifted(t, p)
}

// TestBooksAtMaxBook has programs of MaxBook definitions and branches, and of some less and more.
func TestBooksAtMaxBook(t *testing.T) {
	for defs := 1; defs <= 8; defs++ {
		for total := 22; total <= 27; total++ {
			first, last, spread := make([]int, defs), make([]int, defs), make([]int, defs)
			first[0], last[defs-1] = total-defs, total-defs
			for i := range total - defs {
				spread[i%defs]++
			}
			for _, counts := range [][]int{first, last, spread} {
				p := withBranches(counts...)
				checkFull(t, p, total > 24)
				if list, code := impl.Branches(p); len(list) != total-defs || code != impl.OK {
					t.Errorf("%d branches, code %d, want %d", len(list), code, total-defs)
				}
			}
		}
	}
	// Branches of all kinds of nodes, in branches and beside them.
	for n := 8; n <= 13; n++ {
		nested := "0"
		for i := range n {
			nested = fmt.Sprintf("if %d then %s else %d", i, nested, i)
		}
		checkFull(t, checkedProgram("main : Int = "+nested), 1+2*n > 24)
		checkFull(t, checkedProgram("main : Int = "+nested, "f : Int = 1"), 2+2*n > 24)
		checkFull(t, checkedProgram("f : Int = match A { A -> 1; B[x] -> x; C[y, x] -> x }", "main : Int = "+nested), 5+2*n > 24)
	}
	most := withBranches(slices.Repeat([]int{31}, 8)...)
	checkFull(t, most, true)
	if list, code := impl.Branches(most); len(list) != 248 || list[247].Def != 7 || code != impl.OK {
		t.Errorf("%d branches, code %d", len(list), code)
	}
}

// chainOf is a term with matches in the first Kids of each other. Their branches capture four variables or six, so that each match is as many levels of a core term and one more.
func chainOf(matches, variables int, first string) string {
	content, lets := "T[x, y, z + w]", "let x = 1 in let y = 2 in let z = 3 in let w = 4 in "
	if variables == 6 {
		content, lets = "T[x + u, y + v, z + w]", lets+"let u = 5 in let v = 6 in "
	}
	for range matches {
		first = "match " + first + " { T[a, b, c] -> " + content + " }"
	}
	return lets + first
}

// TestBooksAtMaxCoreDepth has definitions of the depth MaxCoreDepth and of one more: bodies, branches with fields, and branches with boxed captured variables.
func TestBooksAtMaxCoreDepth(t *testing.T) {
	firsts := []string{"t", "T[1, 2, 3]", "T[1 + 1, 2, 3]", "T[1 + 1 + 1, 2, 3]"}
	for _, c := range []struct {
		main               string
		matches, variables int
		least              int
	}{
		{"T = #", 15, 4, 80},
		{`Int -> Int -> T = \s:Int. \r:Int. #`, 10, 6, 79},
		{"T = match t { T[a, b, c] -> # }", 14, 4, 78},
		{"T = if 1 then t else #", 15, 4, 80},
		{"Q = let p = !1 in if 1 then Q[#, !(p + p)] else Q[t, !3]", 10, 6, 80},
	} {
		seen := map[int]bool{}
		for more, first := range firsts {
			main := "def main : " + strings.ReplaceAll(c.main, "#", "("+chainOf(c.matches, c.variables, first)+")")
			for _, defs := range []string{main + "\ndef t : T = t", "def t : T = t\n" + main} {
				p, _, code := impl.ParseProgram("data T = T[Int, Int, Int]\ndata Q = Q[T, !Int]\n" + defs)
				if code == impl.ErrInvalid {
					continue
				}
				depth := 0
				for _, def := range liftAsStated(p).definitions() {
					depth = max(depth, depthOfCore(def.core()))
				}
				if depth != c.least+more {
					t.Fatalf("%s: the depth is %d", defs, depth)
				}
				checkFull(t, p, depth > 80)
				seen[depth] = true
			}
		}
		if !seen[80] || !seen[81] {
			t.Errorf("%s: only the depths %v", c.main, seen)
		}
	}
}

// TestLargeBooks has definitions that are larger than the bodies that they come from. The limits of a program keep all definitions below MaxCore and MaxIndex: a captured variable takes at most three nodes, and its occurrence in a branch at least one and a half.
func TestLargeBooks(t *testing.T) {
	text := "data T = L[Int, Int, Int] | N[T, T, T]\ndata Q = Q[!T, !T, !T] | R[Q, Q, Q]\ndef other : !T = other\ndef one : !Int = !1\ndef main : Q = "
	for _, name := range strings.Split("abcdefghi", "") {
		text += "let " + name + " = one in "
	}
	text += strings.ReplaceAll("R[Q[#, #, #], Q[#, #, #], Q[#, #, other]]", "#", "if 1 then !N[L[a, b, c], L[d, e, f], L[g, h, i]] else other")
	p := must(impl.ParseProgram(text))
	_, defs := checkLifted(t, p)
	if from, to := nodesOfTerm(p.Defs[2].Body), nodesOfCore(defs[2]); from != 159 || to != 255 {
		t.Errorf("a body of %d nodes becomes a definition of %d", from, to)
	}
	checkFull(t, p, false)
	// Many variables in scope of one branch.
	many := "data T = T[Int, Int, Int]\ndef t : T = t\ndef main : Int = "
	sum := "1"
	for i := range 5 {
		many += fmt.Sprintf("match t { T[a%d, b%d, c%d] -> let d%d = !1 in ", i, i, i, i)
		sum = fmt.Sprintf("(%s + (a%d + b%d + c%d))", sum, i, i, i)
	}
	p = must(impl.ParseProgram(many + "if 1 then " + sum + " else 2" + strings.Repeat(" }", 5)))
	checkFull(t, p, false)
	if list, _ := impl.Branches(p); len(list) != 7 || len(list[6].Captured) != 15 {
		t.Errorf("branches %v", list)
	}
}

// TestErrorsOfLifting has programs that fail the checks, with each code, in any definition and in branches.
func TestErrorsOfLifting(t *testing.T) {
	codes, parts := brokenParts()
	for i, code := range codes {
		if code == impl.OK {
			continue
		}
		for _, place := range []string{"#", "1 + #", "if # then 1 else 2", "if 1 then # else 2", "if 1 then 2 else #", "match A { A -> 1; B[x] -> #; C[n, x] -> x }", "let x = !# in 1"} {
			body := strings.ReplaceAll(place, "#", parts[i])
			for at := range 3 {
				defs := []string{"f : Int = 1", "g : Int = if 1 then 2 else 3", "h : Int = h"}
				defs[at] = "main : Int = " + body
				checkNoBook(t, checkedProgram(defs...), code, code)
			}
		}
	}
	for _, p := range invalidPrograms() {
		checkNoBook(t, p, impl.ErrInvalid, impl.ErrInvalid)
	}
}

// TestErrorsBeforeFull has programs that fail the checks and would have too many definitions.
func TestErrorsBeforeFull(t *testing.T) {
	full := withBranches(31, 31)
	checkNoBook(t, full, impl.ErrFull, impl.OK)
	codes := []int64{impl.ErrInvalid, impl.ErrName, impl.ErrRange, impl.ErrType, impl.ErrLevel, impl.ErrLinear}
	for i, body := range []string{"(@ 1)", "x", "(U 1)", "U", "(let:x (! 1) x)", `(@ (\x (+ x x)) 1)`} {
		for at := range 3 {
			p := full
			p.Defs = slices.Insert(slices.Clone(full.Defs), at, impl.Def{Name: "f", Type: intType(), Body: termOf(body)})
			checkNoBook(t, p, codes[i], codes[i])
		}
	}
}

func (m *memoryOf) addLifted(p impl.Program) []any {
	list, _ := impl.Branches(p)
	sliceIn(m, list)
	for _, branch := range list {
		sliceIn(m, branch.Fields)
		sliceIn(m, branch.Captured)
		sliceIn(m, branch.Boxed)
	}
	b, _ := impl.LiftProgram(p)
	sliceIn(m, b.Defs)
	for _, c := range b.Defs {
		m.addCore(c)
	}
	names, _ := impl.LiftNames(p)
	sliceIn(m, names)
	types, _ := impl.BookTypes(p)
	nodes, _ := impl.CoreTypes(p)
	sliceIn(m, nodes)
	for _, list := range append(nodes, types) {
		sliceIn(m, list)
		for _, x := range list {
			m.addType(x)
		}
	}
	return []any{list, b, names, types, nodes}
}

// liftingPrograms are checked programs with branches of all kinds.
func liftingPrograms() []impl.Program {
	random := rand.New(rand.NewSource(72))
	list := []impl.Program{
		checkedProgram(`main : (Int -> Int) -> !(Int -> Int) -> Int -> Int = \f:Int -> Int. \g:!(Int -> Int). \x:Int. let h = g in if x then f 1 else 2`, "f : Fun -> Int -> Int = \\x:Fun. match x { F[a, b, c] -> if 1 then a else \\y:Int. y }"),
		checkedProgram(`main : !(Int -> Int) -> Pair -> !(Int -> Int) = \f:!(Int -> Int). \p:Pair. let g = f in match p { P[a, b] -> let b = b in if a then !(\x:Int. g (g x)) else match Z { Z -> !g; S[n] -> !(\x:Int. match b { Z -> x; S[m] -> g x }) } }`),
		withBranches(3, 0, 5, 1), withBranches(16, 1),
	}
	for range 60 {
		list = append(list, randomCapturing(random), randomChecked(random, 1<<40), randomChecked(random, 8))
	}
	return list
}

// TestLiftingIsPure is P1 for the functions of chapter 7.
func TestLiftingIsPure(t *testing.T) {
	list := liftingPrograms()
	for _, x := range invalidTerms() {
		list = append(list, withBody(x))
	}
	list = append(list, withBranches(31, 31), checkedProgram("main : Int = x"), checkedProgram("main : Nat = S"), checkedProgram("main : Int = Z"), checkedProgram("main : Int = let x = box in x", "box : !Int = !1"), checkedProgram(`main : Int -> Int = \x:Int. x + x`))
	var first []string
	for i := range list {
		list[i] = roomyProgram(list[i])
		before := dumpProgram(list[i])
		first = append(first, liftedAsTold(list[i], true))
		spoilLifted(list[i])
		if after := dumpProgram(list[i]); after != before {
			t.Fatalf("%.300s became %.300s", before, after)
		}
	}
	for i, p := range slices.Backward(list) {
		if got := liftedAsTold(p, true); got != first[i] {
			t.Errorf("first %.300s, then %.300s", first[i], got)
		}
	}
}

// spoilLifted overwrites all memory of the results.
func spoilLifted(p impl.Program) {
	list, _ := impl.Branches(p)
	for _, branch := range list {
		spoilSlice(branch.Fields, "spoiled")
		spoilSlice(branch.Captured, "spoiled")
		spoilSlice(branch.Boxed, true)
	}
	spoilSlice(list, impl.Branch{Def: -1})
	b, _ := impl.LiftProgram(p)
	for _, c := range b.Defs {
		spoilCore(c)
	}
	spoilSlice(b.Defs, impl.Core{Kind: -1})
	names, _ := impl.LiftNames(p)
	spoilSlice(names, "spoiled")
	types, _ := impl.BookTypes(p)
	nodes, _ := impl.CoreTypes(p)
	for _, list := range append(nodes, types) {
		spoilType(impl.Type{Kids: list})
	}
}

// TestLiftedShareNoMemory is P1 for the results of chapter 7: no two slices, of one result, of two results or of the program, have memory in common.
func TestLiftedShareNoMemory(t *testing.T) {
	var kept []any
	var m memoryOf
	for _, p := range liftingPrograms() {
		p = roomyProgram(p)
		kept = append(kept, p)
		m.addProgram(p)
		kept = append(kept, m.addLifted(p)...)
		kept = append(kept, m.addLifted(p)...)
	}
	if m.overlap() {
		t.Fatalf("two slices share memory in %.300s", fmt.Sprint(kept...))
	}
}
