package tests

import (
	"fmt"
	"math"
	"slices"
	"strings"
	"testing"

	"loop.example/g01074/impl"
)

// agentRow is what chapter 10 says of a kind; the ports are without the fields of a constructor.
type agentRow struct {
	kind            int64
	name            string
	ports           int64
	level, consumer bool
}

func agentRows() []agentRow {
	return []agentRow{
		{impl.KiRoot, "root", 1, false, false},
		{impl.KiLam, "lam", 3, true, false},
		{impl.KiApp, "app", 3, true, true},
		{impl.KiFan, "fan", 3, true, false},
		{impl.KiEra, "era", 1, false, false},
		{impl.KiNum, "num", 1, false, false},
		{impl.KiOp, "op", 3, true, true},
		{impl.KiOp1, "op1", 2, true, true},
		{impl.KiCon, "con", 1, true, false},
		{impl.KiMat, "mat", 2, true, true},
		{impl.KiSwi, "swi", 2, true, true},
		{impl.KiRef, "ref", 1, true, false},
	}
}

// rowOfKind returns the row of a kind, and the zero value for a number that is no kind.
func rowOfKind(kind int64) agentRow {
	for _, row := range agentRows() {
		if row.kind == kind {
			return row
		}
	}
	return agentRow{}
}

func classWords() []string {
	return strings.Fields("beta annihilate duplicate erase operate choose expand clash")
}

// noKinds are numbers that are neither a kind nor a class, among them those whose lower bits are one.
func noKinds() []int64 {
	list := []int64{math.MinInt64, math.MinInt64 + 1, math.MinInt64 + 2, math.MaxInt64, -1, -2, -4, 0, 13, 14, 15, 16, 64}
	for _, bits := range []int{4, 5, 6, 8, 16, 32, 33, 63} {
		for kind := int64(1); kind <= 12; kind++ {
			n := kind + 1<<bits
			list = append(list, n, -n)
		}
	}
	return list
}

// kindsAndOthers are the kinds and numbers that are none.
func kindsAndOthers() []int64 {
	list := noKinds()
	for kind := int64(1); kind <= 12; kind++ {
		list = append(list, kind)
	}
	return list
}

func TestAgentConstants(t *testing.T) {
	got := []int64{
		impl.KiRoot, impl.KiLam, impl.KiApp, impl.KiFan, impl.KiEra, impl.KiNum, impl.KiOp, impl.KiOp1, impl.KiCon, impl.KiMat, impl.KiSwi, impl.KiRef,
		impl.ClBeta, impl.ClAnnihilate, impl.ClDuplicate, impl.ClErase, impl.ClOperate, impl.ClChoose, impl.ClExpand, impl.ClClash,
	}
	want := []int64{1, 2, 3, 4, 5, 6, 7, 8, 9, 10, 11, 12, 1, 2, 3, 4, 5, 6, 7, 8}
	if !slices.Equal(got, want) {
		t.Errorf("got %d, want %d", got, want)
	}
}

func TestKindNames(t *testing.T) {
	for i, row := range agentRows() {
		if row.kind != int64(i+1) {
			t.Fatalf("the row %q is at the place %d", row.name, i)
		}
	}
	for _, kind := range kindsAndOthers() {
		want := rowOfKind(kind)
		if got := impl.KindName(kind); got != want.name {
			t.Errorf("KindName(%d) is %q, want %q", kind, got, want.name)
		}
		if want.name != "" && impl.KindNamed(want.name) != kind {
			t.Errorf("KindNamed(%q) is %d, want %d", want.name, impl.KindNamed(want.name), kind)
		}
	}
	if got := impl.KindName(impl.KiOp1); got != "op1" {
		t.Errorf("the name of KiOp1 is %q", got)
	}
	if got := impl.KindNamed("swi"); got != 11 {
		t.Errorf("the kind with the name swi is %d", got)
	}
}

func TestClassNames(t *testing.T) {
	for _, class := range kindsAndOthers() {
		want := ""
		if class >= 1 && class <= 8 {
			want = classWords()[class-1]
		}
		if got := impl.ClassName(class); got != want {
			t.Errorf("ClassName(%d) is %q, want %q", class, got, want)
		}
	}
	if got := impl.ClassName(impl.ClChoose); got != "choose" {
		t.Errorf("the name of ClChoose is %q", got)
	}
}

// TestNoKindNames gives KindNamed words that are like the name of a kind, the names of classes, and others.
func TestNoKindNames(t *testing.T) {
	list := append(someTexts(), classWords()...)
	for _, row := range agentRows() {
		s := row.name
		list = append(list, strings.ToUpper(s), strings.ToUpper(s[:1])+s[1:], s[:len(s)-1]+strings.ToUpper(s[len(s)-1:]), " "+s, s+" ", s+"\n", "\t"+s, s+"\x00",
			s[1:], s[:len(s)-1], s+"0", s+"s", s+s, "/"+s, s+"/0", "Ki"+s, fmt.Sprint(row.kind))
	}
	list = append(list, "op2", "op 1", "op11", "opl", "lambda", "function", "number", "eraser", "kind", "class")
	for _, s := range list {
		named := slices.ContainsFunc(agentRows(), func(row agentRow) bool { return row.name == s })
		// A few of these words are names again, such as "op1" without its end.
		if got := impl.KindNamed(s); (got != 0) != named {
			t.Errorf("KindNamed(%.20q) is %d", s, got)
		}
	}
	if got := impl.KindNamed(""); got != 0 {
		t.Errorf("KindNamed of the empty string is %d", got)
	}
}

func TestPortsOf(t *testing.T) {
	fieldCounts := append(edgeIntegers(), 0, 1, 2, 3, 4, impl.MaxFields, impl.MaxFields+1)
	for _, kind := range kindsAndOthers() {
		for _, fields := range fieldCounts {
			want := int64(0)
			switch {
			case kind == impl.KiCon && fields >= 0 && fields <= 3:
				want = 1 + fields
			case fields == 0 && kind != impl.KiCon:
				want = rowOfKind(kind).ports
			}
			if got := impl.PortsOf(kind, fields); got != want {
				t.Errorf("PortsOf(%d, %d) is %d, want %d", kind, fields, got, want)
			}
		}
	}
	examples := [][3]int64{{impl.KiCon, 3, 4}, {impl.KiCon, 4, 0}, {impl.KiLam, 1, 0}}
	for _, c := range examples {
		if got := impl.PortsOf(c[0], c[1]); got != c[2] {
			t.Errorf("PortsOf(%d, %d) is %d, want %d", c[0], c[1], got, c[2])
		}
	}
}

func TestLevelsAndConsumers(t *testing.T) {
	for _, kind := range kindsAndOthers() {
		want := rowOfKind(kind)
		if got := impl.HasLevel(kind); got != want.level {
			t.Errorf("HasLevel(%d) is %t", kind, got)
		}
		if got := impl.IsConsumer(kind); got != want.consumer {
			t.Errorf("IsConsumer(%d) is %t", kind, got)
		}
	}
	if impl.HasLevel(impl.KiNum) || !impl.IsConsumer(impl.KiMat) {
		t.Error("a number has a level, or a KiMat is no consumer")
	}
}

// farNumbers are numbers around the kinds, the classes, the levels and the limits, and numbers that are far from them.
func farNumbers() []int64 {
	return []int64{math.MinInt64, math.MinInt64 + 5, -1 << 32, -256, -1, 0, 1, 2, 3, 4, 5, 6, 7, 8, 9, 10, 11, 12, 13, 16, 260, 600, 601, 1<<32 + 4, math.MaxInt64 - 1, math.MaxInt64}
}

// agentsOfInteger returns what the functions of chapter 10 return for n and the others.
func agentsOfInteger(n int64) string {
	var b strings.Builder
	fmt.Fprintf(&b, "%q %q %t %t", impl.KindName(n), impl.ClassName(n), impl.HasLevel(n), impl.IsConsumer(n))
	for _, m := range farNumbers() {
		growth, code := impl.Growth(n, m)
		fmt.Fprintf(&b, "; %d %d %d", impl.PortsOf(n, m), growth, code)
		for _, k := range farNumbers() {
			fmt.Fprintf(&b, " %t", impl.Duplicates(n, m, k))
			for _, l := range farNumbers() {
				fmt.Fprint(&b, " ", impl.PairClass(n, m, k, l), impl.FirstOfPair(n, m, k, l))
			}
		}
	}
	return b.String()
}

// TestAgentsArePure is P1 for chapter 10: each function returns for all arguments, leaves them as they are, and returns the same in another order of calls.
func TestAgentsArePure(t *testing.T) {
	integers, texts := farNumbers(), append(someTexts(), "root", "lam", "op1", "ref", "Root", "clash")
	var first []string
	for _, n := range integers {
		first = append(first, agentsOfInteger(n))
	}
	var kinds []int64
	for _, s := range texts {
		kept := strings.Clone(s)
		kinds = append(kinds, impl.KindNamed(s))
		if s != kept {
			t.Fatalf("the text %.20q became %.20q", kept, s)
		}
	}
	for i := len(texts) - 1; i >= 0; i-- {
		if got := impl.KindNamed(strings.Clone(texts[i])); got != kinds[i] {
			t.Errorf("KindNamed(%.20q): first %d, then %d", texts[i], kinds[i], got)
		}
	}
	for i := len(integers) - 1; i >= 0; i-- {
		if agentsOfInteger(integers[i]) != first[i] {
			t.Errorf("the functions of %d return something else at the second call", integers[i])
		}
	}
}
