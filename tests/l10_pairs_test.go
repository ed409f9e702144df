package tests

import (
	"cmp"
	"math"
	"strings"
	"testing"
	"unicode"

	"loop.example/g01074/impl"
)

// pairEnd is an agent of a pair.
type pairEnd struct {
	kind, level int64
}

// drawnPairs is the table of pairs drawn by hand, for agents a (lines) and b (columns), both from KiLam to KiRef: where the level of a is less, where both are equal, and where that of a is greater.
// A kind without a level is in all three, with the same letters. A letter is the first one of a class, x for ClExpand and a point for ClClash, in upper case if a is the first agent and in lower case if b is.
func drawnPairs() map[int]string {
	return map[int]string{
		-1: `
			. . . e . . . . . . .
			. . . e . . . . . . x
			D D D e D D D D D D D
			E E E E E E E E E E E
			. . d e . O O . . C .
			. . . e o . . . . . x
			. . . e o . . . . . x
			. . . e . . . . C . .
			. . . e . . . c . . x
			. . . e c . . . . . x
			. X d e . X X . X X .`,
		0: `
			. B . e . . . . . . .
			b . . e . . . . . . x
			. . A e D . . . . . D
			E E E E E E E E E E E
			. . d e . O O . . C .
			. . . e o . . . . . x
			. . . e o . . . . . x
			. . . e . . . . C . .
			. . . e . . . c . . x
			. . . e c . . . . . x
			. X d e . X X . X X .`,
		1: `
			. . d e . . . . . . .
			. . d e . . . . . . x
			. . d e D . . . . . D
			E E E E E E E E E E E
			. . d e . O O . . C .
			. . d e o . . . . . x
			. . d e o . . . . . x
			. . d e . . . . C . .
			. . d e . . . c . . x
			. . d e c . . . . . x
			. X d e . X X . X X .`,
	}
}

// statedPairs reads the drawing: it returns the class and the first agent for two kinds and the comparison of their levels.
func statedPairs() map[[3]int64][2]int64 {
	stated := map[[3]int64][2]int64{}
	for order, drawing := range drawnPairs() {
		for i, letter := range strings.Fields(drawing) {
			place := [3]int64{impl.KiLam + int64(i/11), impl.KiLam + int64(i%11), int64(order)}
			stated[place] = pairOfLetter(rune(letter[0]))
		}
	}
	return stated
}

func pairOfLetter(letter rune) [2]int64 {
	class := int64(strings.IndexRune(" BADEOCX.", unicode.ToUpper(letter)))
	switch {
	case class == impl.ClClash:
		return [2]int64{class, 0}
	case unicode.IsUpper(letter):
		return [2]int64{class, 1}
	}
	return [2]int64{class, 2}
}

// pairAsStated returns the class and the first agent of a pair by the drawing.
func pairAsStated(stated map[[3]int64][2]int64, a, b pairEnd) [2]int64 {
	if !isAllowedAsStated(a) || !isAllowedAsStated(b) {
		return [2]int64{}
	}
	order := cmp.Compare(a.level, b.level)
	return stated[[3]int64{a.kind, b.kind, int64(order)}]
}

// isAllowedAsStated reports whether an agent may be in a pair.
func isAllowedAsStated(e pairEnd) bool {
	row := rowOfKind(e.kind)
	switch {
	case row.name == "" || row.name == "root" || e.level < 0:
		return false
	case row.level:
		return e.level <= impl.MaxLevel
	}
	return e.level == 0
}

func foundPair(a, b pairEnd) [2]int64 {
	return [2]int64{impl.PairClass(a.kind, a.level, b.kind, b.level), impl.FirstOfPair(a.kind, a.level, b.kind, b.level)}
}

// pairEnds are all agents with kinds and levels from one less than the least to one more than the greatest.
func pairEnds() []pairEnd {
	var list []pairEnd
	for kind := int64(0); kind <= impl.KiRef+1; kind++ {
		for level := int64(-1); level <= impl.MaxLevel+1; level++ {
			list = append(list, pairEnd{kind, level})
		}
	}
	return list
}

// TestDrawing checks the drawing itself: it is complete, and the kinds without a level, whose level is 0, are the same in the parts that they can be in.
func TestDrawing(t *testing.T) {
	stated := statedPairs()
	if len(stated) != 3*11*11 {
		t.Fatalf("the drawing has %d places", len(stated))
	}
	for place, pair := range stated {
		a, b := rowOfKind(place[0]), rowOfKind(place[1])
		if (!a.level || !b.level) && pair != stated[[3]int64{place[0], place[1], 0}] && !(a.kind == impl.KiFan || b.kind == impl.KiFan) {
			t.Errorf("%s and %s are not the same in all parts", a.name, b.name)
		}
	}
}

// TestPairs compares PairClass and FirstOfPair with the drawing for all pairs of kinds and levels, those beside the ranges too.
func TestPairs(t *testing.T) {
	stated := statedPairs()
	counts := map[int64]int{}
	for _, a := range pairEnds() {
		for _, b := range pairEnds() {
			got, want := foundPair(a, b), pairAsStated(stated, a, b)
			if got != want {
				t.Errorf("the pair %v %v has the class and the first agent %v, want %v", a, b, got, want)
			}
			counts[got[0]]++
		}
	}
	for class := int64(0); class <= impl.ClClash; class++ {
		if counts[class] == 0 {
			t.Errorf("no pair has the class %d", class)
		}
	}
}

// TestPairsInBothOrders is the first half of P11: the table does not depend on the order of the two agents.
func TestPairsInBothOrders(t *testing.T) {
	for _, a := range pairEnds() {
		for _, b := range pairEnds() {
			one, other := foundPair(a, b), foundPair(b, a)
			want := [2]int64{one[0], 3 - one[1]}
			if one[1] == 0 || a == b {
				want[1] = one[1]
			}
			if other != want {
				t.Errorf("the pair %v %v has the class and the first agent %v, and %v the other way round", a, b, one, other)
			}
		}
	}
}

// TestPairTable is the table in its own words: each row with the levels that the issue and the document name.
func TestPairTable(t *testing.T) {
	const root, lam, app, fan, era, num, ref = impl.KiRoot, impl.KiLam, impl.KiApp, impl.KiFan, impl.KiEra, impl.KiNum, impl.KiRef
	rows := []struct {
		a, b         pairEnd
		class, first int64
	}{
		{pairEnd{app, 1}, pairEnd{lam, 1}, impl.ClBeta, 2},
		{pairEnd{lam, 1}, pairEnd{app, 2}, impl.ClClash, 0},
		{pairEnd{fan, 2}, pairEnd{fan, 1}, impl.ClDuplicate, 2},
		{pairEnd{fan, 1}, pairEnd{fan, 2}, impl.ClDuplicate, 1},
		{pairEnd{fan, 0}, pairEnd{fan, 8}, impl.ClDuplicate, 1},
		{pairEnd{fan, 8}, pairEnd{fan, 8}, impl.ClAnnihilate, 1},
		{pairEnd{fan, 0}, pairEnd{fan, 0}, impl.ClAnnihilate, 1},
		{pairEnd{fan, 0}, pairEnd{era, 0}, impl.ClErase, 2},
		{pairEnd{fan, 8}, pairEnd{num, 0}, impl.ClDuplicate, 1},
		{pairEnd{fan, 8}, pairEnd{ref, 0}, impl.ClDuplicate, 1},
		{pairEnd{ref, 8}, pairEnd{fan, 8}, impl.ClDuplicate, 2},
		{pairEnd{fan, 1}, pairEnd{app, 1}, impl.ClClash, 0},
		{pairEnd{fan, 2}, pairEnd{lam, 1}, impl.ClClash, 0},
		{pairEnd{lam, 2}, pairEnd{fan, 1}, impl.ClDuplicate, 2},
		{pairEnd{era, 0}, pairEnd{era, 0}, impl.ClErase, 1},
		{pairEnd{lam, 8}, pairEnd{lam, 8}, impl.ClClash, 0},
		{pairEnd{lam, 8}, pairEnd{app, 8}, impl.ClBeta, 1},
		{pairEnd{lam, 0}, pairEnd{app, 8}, impl.ClClash, 0},
		{pairEnd{num, 0}, pairEnd{impl.KiOp, 3}, impl.ClOperate, 1},
		{pairEnd{impl.KiOp1, 3}, pairEnd{num, 0}, impl.ClOperate, 2},
		{pairEnd{impl.KiSwi, 8}, pairEnd{num, 0}, impl.ClChoose, 2},
		{pairEnd{impl.KiCon, 0}, pairEnd{impl.KiMat, 8}, impl.ClChoose, 1},
		{pairEnd{impl.KiMat, 0}, pairEnd{num, 0}, impl.ClClash, 0},
		{pairEnd{impl.KiCon, 0}, pairEnd{impl.KiSwi, 0}, impl.ClClash, 0},
		{pairEnd{num, 0}, pairEnd{num, 0}, impl.ClClash, 0},
		{pairEnd{ref, 0}, pairEnd{app, 8}, impl.ClExpand, 1},
		{pairEnd{impl.KiOp1, 0}, pairEnd{ref, 8}, impl.ClExpand, 2},
		{pairEnd{ref, 0}, pairEnd{ref, 0}, impl.ClClash, 0},
		{pairEnd{ref, 2}, pairEnd{num, 0}, impl.ClClash, 0},
		{pairEnd{ref, 2}, pairEnd{lam, 2}, impl.ClClash, 0},
		{pairEnd{ref, 2}, pairEnd{era, 0}, impl.ClErase, 2},
		{pairEnd{root, 0}, pairEnd{num, 0}, 0, 0},
		{pairEnd{era, 0}, pairEnd{root, 0}, 0, 0},
		{pairEnd{root, 0}, pairEnd{fan, 0}, 0, 0},
		{pairEnd{root, 0}, pairEnd{root, 0}, 0, 0},
		{pairEnd{era, 1}, pairEnd{lam, 1}, 0, 0},
		{pairEnd{era, 0}, pairEnd{lam, 9}, 0, 0},
		{pairEnd{fan, 9}, pairEnd{fan, 9}, 0, 0},
		{pairEnd{lam, -1}, pairEnd{app, -1}, 0, 0},
		{pairEnd{num, 1}, pairEnd{impl.KiSwi, 1}, 0, 0},
		{pairEnd{lam, 1}, pairEnd{13, 1}, 0, 0},
		{pairEnd{0, 0}, pairEnd{era, 0}, 0, 0},
	}
	for _, r := range rows {
		if got := foundPair(r.a, r.b); got != [2]int64{r.class, r.first} {
			t.Errorf("the pair %v %v has the class and the first agent %v, want %d and %d", r.a, r.b, got, r.class, r.first)
		}
	}
}

// TestNoPairs gives one agent with a number that is no kind, or a level far out of the range, to each agent.
func TestNoPairs(t *testing.T) {
	var wrong []pairEnd
	for _, kind := range noKinds() {
		wrong = append(wrong, pairEnd{kind, 0}, pairEnd{kind, 1})
	}
	for kind := int64(impl.KiRoot); kind <= impl.KiRef; kind++ {
		for _, level := range []int64{math.MinInt64, math.MinInt64 + 1, -1 << 32, -256, -1, 9, 16, 256, 257, 1 << 32, 1<<32 + 1, math.MaxInt64} {
			wrong = append(wrong, pairEnd{kind, level})
		}
	}
	for _, a := range wrong {
		for kind := int64(impl.KiRoot); kind <= impl.KiRef; kind++ {
			b := pairEnd{kind, 0}
			if got := [2][2]int64{foundPair(a, b), foundPair(b, a)}; got != [2][2]int64{} {
				t.Errorf("the pair %v %v has the classes and the first agents %v", a, b, got)
			}
			if impl.Duplicates(0, a.kind, a.level) {
				t.Errorf("a fan duplicates %v", a)
			}
		}
	}
}

// duplicatesAsStated is the sentence of the document, with the kinds by their names.
func duplicatesAsStated(label, kind, level int64) bool {
	row := rowOfKind(kind)
	if label < 0 || label > 8 {
		return false
	}
	switch row.name {
	case "", "root", "era":
		return false
	case "num":
		return level == 0
	case "ref":
		return level >= 0 && level <= 8
	}
	return level > label && level <= 8
}

func TestDuplicates(t *testing.T) {
	levels := []int64{math.MinInt64, -1, 0, 1, 2, 3, 4, 5, 6, 7, 8, 9, 10, math.MaxInt64}
	for _, kind := range kindsAndOthers() {
		for _, label := range levels {
			for _, level := range levels {
				if got := impl.Duplicates(label, kind, level); got != duplicatesAsStated(label, kind, level) {
					t.Errorf("Duplicates(%d, %d, %d) is %t", label, kind, level, got)
				}
			}
		}
	}
	rows := []struct {
		label, kind, level int64
		want               bool
	}{
		{1, impl.KiLam, 2, true}, {1, impl.KiNum, 0, true}, {1, impl.KiRef, 0, true}, {1, impl.KiLam, 1, false}, {2, impl.KiFan, 1, false},
		{1, impl.KiFan, 2, true}, {1, impl.KiFan, 1, false}, {0, impl.KiFan, 8, true}, {8, impl.KiFan, 8, false}, {8, impl.KiRef, 8, true}, {8, impl.KiRef, 0, true},
		{8, impl.KiRef, 9, false}, {9, impl.KiRef, 0, false}, {0, impl.KiRef, -1, false}, {-1, impl.KiNum, 0, false}, {9, impl.KiNum, 0, false}, {0, impl.KiNum, 1, false},
		{0, impl.KiEra, 0, false}, {0, impl.KiEra, 1, false}, {0, impl.KiRoot, 0, false}, {0, impl.KiRoot, 1, false}, {-1, impl.KiLam, 0, false}, {-1, impl.KiLam, 8, false},
		{0, impl.KiLam, 9, false}, {7, impl.KiCon, 8, true}, {0, impl.KiMat, 1, true}, {0, impl.KiSwi, 1, true}, {0, impl.KiOp, 1, true}, {0, impl.KiOp1, 1, true}, {0, impl.KiApp, 1, true},
	}
	for _, r := range rows {
		if got := impl.Duplicates(r.label, r.kind, r.level); got != r.want {
			t.Errorf("Duplicates(%d, %d, %d) is %t", r.label, r.kind, r.level, got)
		}
	}
}

// growthRow is a row of the table of growth: the range of the ports, and the result for the least of them, from which it grows with them.
type growthRow struct {
	least, most, start int64
}

func growthRows() map[int64]growthRow {
	return map[int64]growthRow{
		impl.ClBeta:       {0, 0, -2},
		impl.ClAnnihilate: {0, 0, -2},
		impl.ClDuplicate:  {0, 3, 0},
		impl.ClErase:      {0, 3, -2},
		impl.ClOperate:    {0, 0, -1},
		impl.ClChoose:     {0, 3, -1},
		impl.ClExpand:     {2, 600, 0},
	}
}

func TestGrowth(t *testing.T) {
	counts := append(edgeIntegers(), -1, 0, 1, 2, 3, 4, impl.MaxFields, impl.MaxFields+1, 100, 599, impl.MaxAgents, impl.MaxAgents+1, 602)
	for _, class := range kindsAndOthers() {
		for _, ports := range counts {
			var want [2]int64
			row, ruled := growthRows()[class]
			if ruled && row.least <= ports && ports <= row.most {
				want[0] = row.start + ports - row.least
			} else {
				want[1] = impl.ErrRange
			}
			growth, code := impl.Growth(class, ports)
			if got := [2]int64{growth, code}; got != want {
				t.Errorf("Growth(%d, %d) is %d, want %d", class, ports, got, want)
			}
		}
	}
	examples := [][4]int64{
		{impl.ClDuplicate, 2, 2, impl.OK}, {impl.ClErase, 0, -2, impl.OK}, {impl.ClClash, 0, 0, impl.ErrRange},
		{impl.ClBeta, 0, -2, impl.OK}, {impl.ClBeta, 1, 0, impl.ErrRange}, {impl.ClChoose, 3, 2, impl.OK}, {impl.ClExpand, 600, 598, impl.OK}, {impl.ClExpand, 1, 0, impl.ErrRange},
	}
	for _, c := range examples {
		if growth, code := impl.Growth(c[0], c[1]); growth != c[2] || code != c[3] {
			t.Errorf("Growth(%d, %d) is %d and %d, want %d and %d", c[0], c[1], growth, code, c[2], c[3])
		}
	}
}

// agentsMade returns how many agents the rules of chapter 13 append for a pair with the first agent x and the second one y, with so many fields in a constructor and agents in a template.
func agentsMade(class int64, x, y pairEnd, fields, template int64) int64 {
	switch class {
	case impl.ClDuplicate:
		return 2 + auxiliaryPorts(y, fields)
	case impl.ClErase:
		return auxiliaryPorts(y, fields)
	case impl.ClOperate:
		return 1
	case impl.ClChoose:
		return 1 + auxiliaryPorts(x, fields)
	case impl.ClExpand:
		return template - 1
	}
	return 0
}

func auxiliaryPorts(e pairEnd, fields int64) int64 {
	if e.kind != impl.KiCon {
		fields = 0
	}
	return impl.PortsOf(e.kind, fields) - 1
}

// growthPorts returns what Growth takes as the ports for such a pair.
func growthPorts(class int64, x, y pairEnd, fields, template int64) int64 {
	switch class {
	case impl.ClDuplicate, impl.ClErase:
		return auxiliaryPorts(y, fields)
	case impl.ClChoose:
		return auxiliaryPorts(x, fields)
	case impl.ClExpand:
		return template
	}
	return 0
}

// TestGrowthOfPairs is the second half of P11: for each pair of a class, the growth is what its rule appends without what it removes.
func TestGrowthOfPairs(t *testing.T) {
	for _, a := range pairEnds() {
		for _, b := range pairEnds() {
			found := foundPair(a, b)
			if found[1] == 0 {
				continue
			}
			class, x, y := found[0], a, b
			if found[1] == 2 {
				x, y = b, a
			}
			removed := int64(2)
			if class == impl.ClExpand {
				removed = 1
			}
			for fields := int64(0); fields <= impl.MaxFields; fields++ {
				template := 2 + 190*fields
				growth, code := impl.Growth(class, growthPorts(class, x, y, fields, template))
				if want := agentsMade(class, x, y, fields, template) - removed; growth != want || code != impl.OK {
					t.Errorf("the growth of %v %v is %d and the code %d, want %d", x, y, growth, code, want)
				}
			}
		}
	}
}
