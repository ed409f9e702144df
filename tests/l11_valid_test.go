package tests

import (
	"math"
	"math/rand"
	"slices"
	"testing"

	"loop.example/g01074/impl"
)

// TestNetExamples has the examples of chapter 11.
func TestNetExamples(t *testing.T) {
	five := impl.Net{Agents: []impl.Agent{{Kind: impl.KiRoot, Ports: []impl.Port{{Agent: 1, Slot: 0}}}, {Kind: impl.KiNum, Value: 5, Ports: []impl.Port{{Agent: 0, Slot: 0}}}}}
	if !impl.ValidNet(five) || impl.MaxAgents != 600 {
		t.Error("the first example is not valid, or MaxAgents is not 600")
	}
	n := netOf("root 2.1; num=7 2.0; op1/0=+,1 1.0 0.0")
	if p, code := impl.PeerOf(n, portOf("1.0")); p != portOf("2.0") || code != impl.OK {
		t.Errorf("PeerOf is %v, %d", p, code)
	}
	if pairs, code := impl.ActivePairs(n); !slices.Equal(pairs, []impl.Pair{{A: 1, B: 2}}) || code != impl.OK {
		t.Errorf("ActivePairs is %v, %d", pairs, code)
	}
	if count, code := impl.CountKind(n, impl.KiOp1); count != 1 || code != impl.OK {
		t.Errorf("CountKind is %d, %d", count, code)
	}
	if wires, code := impl.WiresOf(n); !slices.Equal(wires, wiresFrom("0.0:2.1, 1.0:2.0")) || code != impl.OK {
		t.Errorf("WiresOf is %v, %d", wires, code)
	}
	exchanged, code := impl.ExchangePorts(n, portOf("0.0"), portOf("1.0"))
	checkNet(t, exchanged, code, "root 2.0; num=7 2.1; op1/0=+,1 0.0 1.0")
	renumbered, code := impl.RenumberNet(n, []int64{0, 2, 1})
	checkNet(t, renumbered, code, "root 1.1; op1/0=+,1 2.0 0.0; num=7 1.0")
	read, code := impl.ReadNet("root 1.0; num=5 0.0")
	checkNet(t, read, code, "root 1.0; num=5 0.0")
	if !equalNets(read, five) || !impl.SameNet(read, five) {
		t.Errorf("ReadNet is %s", netLine(read))
	}
	checkNoNet(t, impl.ErrSyntax)(impl.ReadNet("root 1.0; num=05 0.0"))
}

// checkNet checks that a function has returned the net with a text.
func checkNet(t *testing.T, n impl.Net, code int64, want string) {
	t.Helper()
	if got := impl.NetText(n); code != impl.OK || got != want || netLine(n) != want || !impl.ValidNet(n) {
		t.Errorf("got %.300s with the text %.300q and %d, want %.300s", netLine(n), got, code, want)
	}
}

// checkNoNet returns what checks that a function has returned a code and no net.
func checkNoNet(t *testing.T, want int64) func(n impl.Net, code int64) {
	return func(n impl.Net, code int64) {
		t.Helper()
		if code != want || len(n.Agents) > 0 {
			t.Errorf("got %.300s and %d, want the code %d", netLine(n), code, want)
		}
	}
}

func checkValidNet(t *testing.T, n impl.Net, want bool) {
	t.Helper()
	if got, stated := impl.ValidNet(n), isNetAsStated(n); got != want || stated != want {
		t.Errorf("ValidNet is %t and stated as %t for %.300s", got, stated, dumpNet(n))
	}
}

func TestValidNet(t *testing.T) {
	for _, n := range validNets() {
		checkValidNet(t, n, true)
	}
	for _, n := range wrongNets() {
		checkValidNet(t, n, false)
	}
}

// TestValidNetOfDisturbedNets compares ValidNet with the document's sentences.
func TestValidNetOfDisturbedNets(t *testing.T) {
	random := rand.New(rand.NewSource(1110))
	counts := map[bool]int{}
	for range 40 {
		for _, n := range validNets()[:190] {
			n = disturbedNet(random, n)
			want := isNetAsStated(n)
			counts[want]++
			if got := impl.ValidNet(n); got != want {
				t.Fatalf("ValidNet is %t for %.500s", got, dumpNet(n))
			}
		}
	}
	if counts[true] < 200 || counts[false] < 4000 {
		t.Errorf("too few cases: %v", counts)
	}
}

// aroundOne returns a net of a root, the agent at its port, and an eraser at each other port of the agent. It is valid if the agent is well-formed.
func aroundOne(a impl.Agent) impl.Net {
	a.Ports = slices.Clone(a.Ports)
	agents := []impl.Agent{agentOf("root 1.0"), a}
	join(agents, portOf("0.0"), portOf("1.0"))
	for slot := 1; slot < len(a.Ports); slot++ {
		agents = append(agents, agentOf("era 0.0"))
		join(agents, impl.Port{Agent: 1, Slot: int64(slot)}, impl.Port{Agent: int64(slot + 1)})
	}
	return impl.Net{Agents: agents}
}

// plainAgent returns a well-formed agent of a kind with a number of ports.
func plainAgent(kind int64, ports int) impl.Agent {
	content := contentOf(kind)
	return impl.Agent{Kind: kind, Value: content.value[0], Data: make([]int64, content.data[0]), Ports: make([]impl.Port, ports)}
}

func TestPortsOfAgentsInNets(t *testing.T) {
	for kind := int64(2); kind <= 12; kind++ {
		for ports := 1; ports <= 7; ports++ {
			checkValidNet(t, aroundOne(plainAgent(kind, ports)), slices.Contains(portCounts(kind), ports))
		}
		none := impl.Net{Agents: []impl.Agent{agentOf("root 1.0"), agentOf("era 0.0"), plainAgent(kind, 0)}}
		checkValidNet(t, none, false)
	}
	for _, kind := range noKinds() {
		for ports := 1; ports < 5; ports++ {
			checkValidNet(t, aroundOne(impl.Agent{Kind: kind, Ports: make([]impl.Port, ports)}), false)
		}
	}
}

func TestFieldsOfAgents(t *testing.T) {
	for kind := int64(2); kind <= 12; kind++ {
		content := contentOf(kind)
		for _, ports := range portCounts(kind) {
			check := func(want bool, change func(a *impl.Agent)) {
				t.Helper()
				a := plainAgent(kind, ports)
				change(&a)
				checkValidNet(t, aroundOne(a), want)
			}
			for _, n := range slices.Concat(edgeIntegers(), farNumbers(), []int64{22, 23, 24}) {
				hasLevel := rowOfKind(kind).level
				check(n == 0 || hasLevel && 1 <= n && n <= 8, func(a *impl.Agent) { a.Level = n })
				check(isWithin(n, content.value), func(a *impl.Agent) { a.Value = n })
				for i := range content.data[1] {
					check(isWithin(n, content.numbers), func(a *impl.Agent) {
						a.Data = make([]int64, content.data[1])
						a.Data[i] = n
					})
				}
			}
			for length := range 8 {
				check(content.data[0] <= length && length <= content.data[1], func(a *impl.Agent) { a.Data = make([]int64, length) })
			}
		}
	}
}

// TestBoundsOfFields names the bounds in words of the package, so that the table of the tests does not stand alone.
func TestBoundsOfFields(t *testing.T) {
	for text, want := range map[string]bool{
		"op1/0=+,2147483647 0.0 2.0": true, "op1/0=+,2147483648 0.0 2.0": false, "op1/0=+,-2147483648 0.0 2.0": true, "op1/0=+,-2147483649 0.0 2.0": false,
		"op1/0=+ 0.0 2.0": false, "op1/0=+,1,2 0.0 2.0": false, "op1/0=,1 0.0 2.0": false, "op1/8=+,1 0.0 2.0": true, "op1/9=+,1 0.0 2.0": false,
		"mat/0=23 0.0 2.0": true, "mat/0=24 0.0 2.0": false, "mat/0=-1 0.0 2.0": false, "mat/0= 0.0 2.0": false, "mat/0=1,2,3,4 0.0 2.0": true, "mat/0=1,2,3,4,5 0.0 2.0": false, "mat/0=1,2,3,24 0.0 2.0": false,
		"swi/0=23,23 0.0 2.0": true, "swi/0=23,24 0.0 2.0": false, "swi/0=24,0 0.0 2.0": false, "swi/0=0 0.0 2.0": false, "swi/0=0,0,0 0.0 2.0": false, "swi/0=0,-1 0.0 2.0": false,
		"con/0=3 0.0 2.0": true, "con/0=4 0.0 2.0": false, "con/0=-1 0.0 2.0": false, "con/9=0 0.0 2.0": false, "con/-1=0 0.0 2.0": false, "con/0=0,1 0.0 2.0": false,
	} {
		n := netOf("root 1.0; " + text + "; era 1.1")
		checkValidNet(t, n, want)
	}
	for value := int64(0); value <= 7; value++ {
		n := netOf("root 1.2; op/0=+ 2.0 3.0 0.0; num=1 1.0; num=2 1.1")
		n.Agents[1].Value = value
		checkValidNet(t, n, impl.OpAdd <= value && value <= impl.OpEqual)
	}
	for _, value := range []int64{impl.MaxBook - 1, impl.MaxBook} {
		n := netOf("root 1.0; ref/0=0 0.0")
		n.Agents[1].Value = value
		checkValidNet(t, n, value < impl.MaxBook)
	}
}

func TestNumberOfAgents(t *testing.T) {
	for _, agents := range []int{2, 4, 598, 600, 602, 604, 1200} {
		checkValidNet(t, widestNet(agents), agents <= 600)
	}
	odd := widestNet(598)
	odd.Agents = append(odd.Agents, agentOf("con/0=0 598.1 598.0"))
	checkValidNet(t, odd, true)
	odd.Agents = append(odd.Agents, agentOf("con/0=0 599.1 599.0"))
	checkValidNet(t, odd, true)
	odd.Agents = append(odd.Agents, agentOf("con/0=0 600.1 600.0"))
	checkValidNet(t, odd, false)
}

// TestPeersOfOnePort gives one port of a net every peer that is near.
func TestPeersOfOnePort(t *testing.T) {
	valid := 0
	far := []int64{math.MinInt64, -1 << 32, -1, 0, 1, 2, 3, 4, 5, 1 << 32, 1<<32 + 1, math.MaxInt64}
	for _, text := range netTexts() {
		for _, p := range allPorts(netOf(text).Agents) {
			for _, agent := range far {
				for _, slot := range far {
					n := netOf(text)
					n.Agents[p.Agent].Ports[p.Slot] = impl.Port{Agent: agent, Slot: slot}
					want := netLine(n) == text
					checkValidNet(t, n, want)
					if want {
						valid++
					}
				}
			}
		}
	}
	if valid < 100 {
		t.Errorf("only %d valid nets", valid)
	}
}

// sameInBoth checks SameNet in both orders.
func sameInBoth(t *testing.T, a, b impl.Net, want bool) {
	t.Helper()
	if got, back := impl.SameNet(a, b), impl.SameNet(b, a); got != want || back != want {
		t.Errorf("SameNet is %t and %t for %.200s and %.200s", got, back, dumpNet(a), dumpNet(b))
	}
}

func TestSameNet(t *testing.T) {
	nets := slices.Concat(validNets()[:80], wrongNets(), []impl.Net{{Agents: []impl.Agent{}}})
	for _, a := range nets {
		sameInBoth(t, a, copiedNet(a), true)
		sameInBoth(t, a, roomyNet(a), true)
		for _, b := range nets {
			sameInBoth(t, a, b, equalNets(a, b))
		}
	}
}

// TestSameNetWithOneDifference has nets, valid or not, that differ in one place.
func TestSameNetWithOneDifference(t *testing.T) {
	changes := []func(a *impl.Agent){
		func(a *impl.Agent) { a.Kind++ },
		func(a *impl.Agent) { a.Level-- },
		func(a *impl.Agent) { a.Value += 1 << 32 },
		func(a *impl.Agent) { a.Data = append(slices.Clone(a.Data), 0) },
		func(a *impl.Agent) { a.Data[len(a.Data)-1]++ },
		func(a *impl.Agent) { a.Data = a.Data[:len(a.Data)-1] },
		func(a *impl.Agent) { a.Ports = append(slices.Clone(a.Ports), impl.Port{}) },
		func(a *impl.Agent) { a.Ports = a.Ports[:len(a.Ports)-1] },
		func(a *impl.Agent) { a.Ports[len(a.Ports)-1].Agent++ },
		func(a *impl.Agent) { a.Ports[0].Slot++ },
	}
	for _, n := range slices.Concat(validNets()[:60], wrongNets()[1:]) {
		for i, a := range n.Agents[:min(3, len(n.Agents))] {
			for k, change := range changes {
				if k > 3 && k < 6 && len(a.Data) == 0 || k > 6 && len(a.Ports) == 0 {
					continue
				}
				other := copiedNet(n)
				change(&other.Agents[i])
				sameInBoth(t, n, other, false)
			}
		}
		longer := impl.Net{Agents: append(slices.Clone(n.Agents), impl.Agent{})}
		sameInBoth(t, n, longer, false)
		sameInBoth(t, n, impl.Net{Agents: n.Agents[:len(n.Agents)-1]}, false)
	}
	a := netOf("root 1.0; num=5 0.0; era 3.0; ref/0=1 2.0")
	for _, order := range [][]int{{0, 1, 3, 2}, {1, 0, 2, 3}, {2, 3, 0, 1}} {
		b := impl.Net{}
		for _, k := range order {
			b.Agents = append(b.Agents, a.Agents[k])
		}
		sameInBoth(t, a, b, false)
	}
}
