package tests

import (
	"math"
	"math/rand"
	"slices"
	"strings"
	"testing"

	"loop.example/g01074/impl"
)

// ordersOf are the lists that contain each number less than n once and begin with 0, or some of them if there are many.
func ordersOf(random *rand.Rand, n int) [][]int64 {
	if n > 5 {
		list := [][]int64{upTo(n)}
		for range 3 {
			order := upTo(n)
			random.Shuffle(n-1, func(i, j int) { order[i+1], order[j+1] = order[j+1], order[i+1] })
			list = append(list, order)
		}
		return list
	}
	list := [][]int64{{0}}
	for k := 1; k < n; k++ {
		var longer [][]int64
		for _, order := range list {
			for at := 1; at <= len(order); at++ {
				longer = append(longer, slices.Insert(slices.Clone(order), at, int64(k)))
			}
		}
		list = longer
	}
	return list
}

// inverseOf returns the list with the place of each number in the order.
func inverseOf(order []int64) []int64 {
	inverse := make([]int64, len(order))
	for i, k := range order {
		inverse[k] = int64(i)
	}
	return inverse
}

func TestRenumberNet(t *testing.T) {
	random := rand.New(rand.NewSource(1120))
	for _, c := range wiredNets() {
		for _, order := range ordersOf(random, len(c.n.Agents)) {
			got, code := impl.RenumberNet(c.n, order)
			var agents []impl.Agent
			for _, k := range order {
				agents = append(agents, c.n.Agents[k])
			}
			renamed := withEnds(c.wires, func(p impl.Port) impl.Port {
				return impl.Port{Agent: int64(slices.Index(order, p.Agent)), Slot: p.Slot}
			})
			want, _ := wiredAsStated(agents, renamed)
			if !equalNets(got, want) || code != impl.OK {
				t.Fatalf("RenumberNet(%.200s, %.100v) is %.200s, %d", netLine(c.n), order, netLine(got), code)
			}
			back, code := impl.RenumberNet(got, inverseOf(order))
			if !equalNets(back, c.n) || code != impl.OK {
				t.Fatalf("RenumberNet(%.200s, %.100v) and back is %.200s, %d", netLine(c.n), order, netLine(back), code)
			}
		}
	}
}

func TestRenumberRows(t *testing.T) {
	n := netOf("root 3.0; lam/1 2.0 1.2 1.1; app/2 1.0 3.1 3.2; fan/0 0.0 2.1 2.2")
	for _, c := range []struct {
		order []int64
		want  string
	}{
		{[]int64{0, 1, 2, 3}, "root 3.0; lam/1 2.0 1.2 1.1; app/2 1.0 3.1 3.2; fan/0 0.0 2.1 2.2"},
		{[]int64{0, 2, 3, 1}, "root 2.0; app/2 3.0 2.1 2.2; fan/0 0.0 1.1 1.2; lam/1 1.0 3.2 3.1"},
		{[]int64{0, 3, 2, 1}, "root 1.0; fan/0 0.0 2.1 2.2; app/2 3.0 1.1 1.2; lam/1 2.0 3.2 3.1"},
	} {
		got, code := impl.RenumberNet(n, c.order)
		checkNet(t, got, code, c.want)
	}
}

func TestRenumberErrors(t *testing.T) {
	far := []int64{math.MinInt64, -1 << 32, -2, -1, 0, 1, 2, 3, 4, 1 << 32, 1<<32 + 1, math.MaxInt64}
	three := netOf("root 2.1; num=7 2.0; op1/0=+,1 1.0 0.0")
	for _, a := range far {
		for _, b := range far {
			checkNoNet(t, impl.ErrRange)(impl.RenumberNet(three, []int64{a, b}))
			for _, c := range far {
				checkNoNet(t, impl.ErrRange)(impl.RenumberNet(three, []int64{0, 1, 2, c}))
				if a == 0 && min(b, c) == 1 && max(b, c) == 2 {
					continue
				}
				checkNoNet(t, impl.ErrRange)(impl.RenumberNet(three, []int64{a, b, c}))
			}
		}
	}
	for _, n := range validNets() {
		last := len(n.Agents)
		orders := [][]int64{nil, {}, upTo(last - 1), upTo(last + 1), append(upTo(last), 0), append(upTo(last-1), int64(last)), append(upTo(last-1), 0), append(upTo(last-1), -1), upTo(last)[1:]}
		reversed := upTo(last)
		slices.Reverse(reversed)
		for _, order := range append(orders, reversed, append(upTo(last)[1:], 0)) {
			checkNoNet(t, impl.ErrRange)(impl.RenumberNet(n, order))
		}
	}
}

// TestNetTexts is the part of P12 about texts.
func TestNetTexts(t *testing.T) {
	for _, text := range netTexts() {
		n, code := impl.ReadNet(text)
		checkNet(t, n, code, text)
	}
	for _, c := range wiredNets() {
		text := impl.NetText(c.n)
		if want := netLine(c.n); text != want {
			t.Fatalf("NetText is %.300s, want %.300s", text, want)
		}
		n, code := impl.ReadNet(text)
		if !equalNets(n, c.n) || !impl.SameNet(n, c.n) || code != impl.OK {
			t.Fatalf("ReadNet(%.300s) is %.300s, %d", text, netLine(n), code)
		}
	}
}

// TestTextsOfAllKinds has an agent of each kind with all of its levels, and values at the bounds.
func TestTextsOfAllKinds(t *testing.T) {
	random := rand.New(rand.NewSource(1121))
	texts := map[string]bool{}
	for kind := int64(2); kind <= 12; kind++ {
		for range 300 {
			n := aroundOne(randomAgent(random, kind))
			text := impl.NetText(n)
			texts[text] = true
			got, code := impl.ReadNet(text)
			if !equalNets(got, n) || code != impl.OK || text != netLine(n) {
				t.Fatalf("ReadNet(%s) is %s, %d", text, netLine(got), code)
			}
		}
	}
	if len(texts) < 400 {
		t.Errorf("only %d texts", len(texts))
	}
}

// noNetTexts are texts of no valid net, most of them with one fault.
func noNetTexts() []string {
	list := []string{
		"", " ", ";", "; ", "; ; ", "root", "root ", "root 0.0", "root 1.0", "root 1.0;", "root 1.0; ", "num=5 0.0", "num=5 1.0; root 0.0", "root 1.0; root 0.0", "root 1.0; num=5 0.0; root 3.0; era 2.0",
		"root 1.0; num=5 0.0;", "root 1.0; num=5 0.0; ", "; root 1.0; num=5 0.0", "root 1.0; num=5 0.0; ; era 3.0; era 2.0", " root 1.0; num=5 0.0", "root 1.0; num=5 0.0 ", "root 1.0; num=5 0.0\n", "\nroot 1.0; num=5 0.0", "root 1.0; num=5 0.0\x00",
		"root  1.0; num=5 0.0", "root 1.0;  num=5 0.0", "root 1.0 ; num=5 0.0", "root 1.0;num=5 0.0", "root 1.0, num=5 0.0", "root 1.0: num=5 0.0", "root 1.0;\tnum=5 0.0", "root\t1.0; num=5 0.0", "root 1.0;\u00a0num=5 0.0", "root 1.0\nnum=5 0.0",
		"root 1,0; num=5 0.0", "root 1:0; num=5 0.0", "root 1 0; num=5 0.0", "root 10; num=5 0.0", "root 1.; num=5 0.0", "root .0; num=5 0.0", "root 1..0; num=5 0.0", "root 1.0.0; num=5 0.0", "root 1.0.; num=5 0.0", "root 1. 0; num=5 0.0",
		"root 01.0; num=5 0.0", "root 1.00; num=5 0.0", "root +1.0; num=5 0.0", "root 1.+0; num=5 0.0", "root 1.-0; num=5 -0.0", "root -1.0; num=5 0.0", "root 1.0; num=5 0.-1", "root 0x1.0; num=5 0.0", "root 1_0.0; num=5 0.0", "root 1.0; num=5 0.0 0.0", "root 1.0; num=5",
		"root 1.0; num=05 0.0", "root 1.0; num=-0 0.0", "root 1.0; num=+5 0.0", "root 1.0; num= 0.0", "root 1.0; num 0.0", "root 1.0; num5 0.0", "root 1.0; num==5 0.0", "root 1.0; num=5= 0.0", "root 1.0; num=5,6 0.0", "root 1.0; num=5, 0.0", "root 1.0; num=,5 0.0", "root 1.0; num=5.0 0.0", "root 1.0; num=five 0.0", "root 1.0; num=+ 0.0",
		"root 1.0; num=2147483648 0.0", "root 1.0; num=-2147483649 0.0", "root 1.0; num=4294967301 0.0", "root 1.0; num=9223372036854775808 0.0", "root 1.0; num=18446744073709551621 0.0", "root 18446744073709551617.0; num=5 0.0", "root 4294967297.0; num=5 0.0", "root 1.4294967296; num=5 0.0", "root 2.0; num=5 0.0",
		"root 1.0; num/0=5 0.0", "root 1.0; num/=5 0.0", "root/0 1.0; num=5 0.0", "root=0 1.0; num=5 0.0", "root= 1.0; num=5 0.0", "root 1.0; era/0 0.0", "root 1.0; era= 0.0", "root 1.0; era=0 0.0", "root 1.0; Era 0.0", "root 1.0; eras 0.0", "root 1.0; er 0.0", "root 1.0; con 0.0", "Root 1.0; era 0.0", "ROOT 1.0; era 0.0",
		"root 1.0; con=1 0.0", "root 1.0; con/=1 0.0", "root 1.0; con/0 0.0", "root 1.0; con/0= 0.0", "root 1.0; con/9=1 0.0", "root 1.0; con/-1=1 0.0", "root 1.0; con/00=1 0.0", "root 1.0; con/0=01 0.0", "root 1.0; con/0=4 0.0", "root 1.0; con/0=-1 0.0", "root 1.0; con/0/0=1 0.0", "root 1.0; con//0=1 0.0", "root 1.0; con/0=1/0 0.0", "root 1.0; con=1/0 0.0", "root 1.0; con/0=1,2 0.0", "root 1.0; con/4294967296=1 0.0",
		"root 1.0; ref/0=24 0.0", "root 1.0; ref/0=-1 0.0", "root 1.0; ref=0 0.0", "root 1.0; ref/9=0 0.0", "root 1.0; ref/0 0.0", "root 1.0; what/0=0 0.0", "root 1.0; =0 0.0", "root 1.0; /0=0 0.0", "root 1.0; 12/0=0 0.0", "root 1.0;  0.0",
		"root 1.0; lam 0.0 1.2 1.1", "root 1.0; lam/0=0 0.0 1.2 1.1", "root 1.0; lam/0= 0.0 1.2 1.1", "root 1.0; lam/0 0.0 1.1 1.2", "root 1.0; lam/0 0.0 1.2", "root 1.0; lam/0 0.0", "root 1.0; lam/0 0.0 1.2 1.1 1.1", "root 1.0; fan/9 0.0 1.2 1.1",
	}
	for _, op := range []string{"op/0", "op/0=", "op/0=?", "op/0=+,", "op/0=+,1", "op/0=++", "op/0=1", "op/0=0", "op/0=,+", "op=+", "op/9=+", "op/0+", "op/0= +", "op/0=%", "op/0===", "op/0==,", "op/0==,1", "op/0=>", "op1/0=+"} {
		list = append(list, "root 3.2; num=1 3.0; num=2 3.1; "+op+" 1.0 2.0 0.0")
	}
	for _, op := range []string{"op1/0=+", "op1/0=+,", "op1/0=1", "op1/0=1,+", "op1/0=,1", "op1/0=+1", "op1/0=+,1,2", "op1/0=+,01", "op1/0=+,-0", "op1/0=+,+1", "op1/0=+,2147483648", "op1/0=+,-2147483649", "op1/0=+,99999999999999999999", "op1/0=+, 1", "op1/0==1", "op1/0==,", "op1/0===,1", "op1=+,1", "op1/9=+,1", "op1/0=?,1", "op/0=+"} {
		list = append(list, "root 2.1; num=7 2.0; "+op+" 1.0 0.0")
	}
	for _, mat := range []string{"mat/0", "mat/0=", "mat/0=,", "mat/0=1,", "mat/0=,1", "mat/0=1,,2", "mat/0=24", "mat/0=-1", "mat/0=01", "mat/0=1,2,3,4,5", "mat=1", "mat/9=1", "mat/0=1;2", "mat/0=1 2", "mat/0=1, 2", "swi/0=1", "swi/0=1,2,3", "swi/0=1,24", "swi/0=24,1", "swi/0=", "swi/0", "swi=1,2", "swi/0=1.2", "swi/0=+,1"} {
		list = append(list, "root 2.1; num=7 2.0; "+mat+" 1.0 0.0")
	}
	return list
}

func TestTextsOfNoNet(t *testing.T) {
	form := netForm()
	list := noNetTexts()
	for _, n := range wrongNets() {
		// A text has no place for the level of an agent without one.
		if text := netLine(n); equalNets(netOf(text), n) {
			list = append(list, text)
		}
	}
	for _, text := range slices.Concat(list, someTexts()) {
		checkNoNet(t, impl.ErrSyntax)(impl.ReadNet(text))
		if _, ok := readAsStated(form, text); ok {
			t.Errorf("%.200q is a text by its form", text)
		}
	}
	for _, text := range []string{"root 1.0; mat/0=1 0.0 2.0; era 1.1", "root 2.1; num=7 2.0; mat/0=1 1.0 0.0", "root 2.1; num=7 2.0; swi/0=1,2 1.0 0.0", "root 2.1; num=7 2.0; op1/0=/,1 1.0 0.0", "root 1.0; ref/0=23 0.0"} {
		n, code := impl.ReadNet(text)
		checkNet(t, n, code, text)
	}
}

// TestDisturbedTexts changes single bytes of texts and compares ReadNet with the form of texts.
func TestDisturbedTexts(t *testing.T) {
	random := rand.New(rand.NewSource(1122))
	form, letters := netForm(), " ;./=,+-*<0123456789aeflmnoprtuw\n"
	counts := map[bool]int{}
	for range 12 {
		for _, c := range smallOnes(wiredNets()) {
			text := netLine(c.n)
			at, letter := random.Intn(len(text)), letters[random.Intn(len(letters)):][:1]
			switch random.Intn(4) {
			case 0:
				text = text[:at] + letter + text[at:]
			case 1:
				text = text[:at] + text[at+1:]
			case 2:
				text = text[:at] + letter + text[at+1:]
			default:
				to := at + random.Intn(len(text)-at)
				text = text[:to] + text[at:to] + text[to:]
			}
			want, ok := readAsStated(form, text)
			got, code := impl.ReadNet(text)
			if counts[ok]++; ok != (code == impl.OK) || !equalNets(got, want) || ok && impl.NetText(got) != text {
				t.Fatalf("ReadNet(%q) is %s, %d", text, netLine(got), code)
			}
			if !ok {
				checkNoNet(t, impl.ErrSyntax)(got, code)
			}
		}
	}
	if counts[true] < 100 || counts[false] < 1000 {
		t.Errorf("too few cases: %v", counts)
	}
}

// TestTextsOfManyAgents has nets and texts around the greatest number of agents.
func TestTextsOfManyAgents(t *testing.T) {
	for _, agents := range []int{598, 600, 602} {
		text := netLine(widestNet(agents))
		n, code := impl.ReadNet(text)
		if agents <= 600 {
			checkNet(t, n, code, text)
		} else {
			checkNoNet(t, impl.ErrSyntax)(n, code)
		}
	}
	for _, part := range []string{"; ", "; era 0.0", " ", " 0.0", "0", "9", ";", ".", ",", "=", "/", "-", "root 1.0; ", "root", "\xff"} {
		long := strings.Repeat(part, 100000)
		for _, text := range []string{long, "root 1.0" + long, "root 1.0; num=5" + long, "root 1.0; num=5 0.0" + long, "root 1." + long, "root 1.0; mat/0=1" + long, long + "root 1.0; num=5 0.0"} {
			checkNoNet(t, impl.ErrSyntax)(impl.ReadNet(text))
		}
	}
}
