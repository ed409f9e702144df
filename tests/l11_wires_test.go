package tests

import (
	"math"
	"math/rand"
	"slices"
	"testing"

	"loop.example/g01074/impl"
)

// matchings returns all lists of wires in which each of the ports is an end once.
func matchings(ports []impl.Port) [][]impl.Wire {
	if len(ports) == 0 {
		return [][]impl.Wire{nil}
	}
	var list [][]impl.Wire
	for i := 1; i < len(ports); i++ {
		rest := slices.Concat(ports[1:i], ports[i+1:])
		for _, wires := range matchings(rest) {
			list = append(list, append([]impl.Wire{{A: ports[0], B: ports[i]}}, wires...))
		}
	}
	return list
}

// agentLists are the agents of small nets, whose Ports hold ports of no meaning.
func agentLists() [][]impl.Agent {
	var lists [][]impl.Agent
	for _, text := range []string{
		"root 0.0; num=5 7.7", "root 0.0; con/3=2 -1.0 -1.0 -1.0 9.9; era 1.0", "root 0.0; lam/0 1.0 1.0 1.0; app/0 2.2 2.2 2.2; era 3.0", "root 5.5; fan/2 0.0 0.0 0.0; mat/0=1 0.0 0.0; op1/8=*,-3 0.0 0.0",
		"root 0.0; era 0.0; num=-1 0.0; ref/1=23 0.0; con/0=3 0.0; num=0 0.0", "root 0.0; swi/4=0,1 0.0 0.0; era 0.0", "root 0.0; swi/4=0,1 0.0 0.0; num=3 0.0; op/1=< 0.0 0.0 0.0; era 0.0", "root 0.0; con/1=0 0.0 0.0 0.0",
	} {
		lists = append(lists, netOf(text).Agents)
	}
	return lists
}

// wiredNet is a net with its wires, as they are returned for it.
type wiredNet struct {
	n     impl.Net
	wires []impl.Wire
}

// wiredNets are all nets that the small lists of agents can form, and some others.
func wiredNets() []wiredNet {
	var list []wiredNet
	for _, agents := range agentLists() {
		for _, wires := range matchings(allPorts(agents)) {
			n := copiedNet(impl.Net{Agents: agents})
			for _, w := range wires {
				join(n.Agents, w.A, w.B)
			}
			list = append(list, wiredNet{n, wires})
		}
	}
	for _, n := range validNets() {
		list = append(list, wiredNet{n, wiresAsStated(n)})
	}
	return list
}

// nearPorts are the ports of a net and others that it does not have.
func nearPorts(n impl.Net) []impl.Port {
	list := allPorts(n.Agents)
	for i, a := range n.Agents {
		list = append(list, impl.Port{Agent: int64(i), Slot: int64(len(a.Ports))}, impl.Port{Agent: int64(i), Slot: -1}, impl.Port{Agent: int64(i), Slot: 1 << 32})
	}
	last := int64(len(n.Agents))
	return append(list, impl.Port{Agent: last}, impl.Port{Agent: -1}, impl.Port{Agent: 1 << 32}, impl.Port{Agent: math.MaxInt64, Slot: math.MaxInt64}, impl.Port{Agent: math.MinInt64, Slot: math.MinInt64}, impl.Port{Slot: math.MinInt64})
}

func hasPort(n impl.Net, p impl.Port) bool { return slices.Contains(allPorts(n.Agents), p) }

// smallOnes are the nets among them that have few agents.
func smallOnes(list []wiredNet) []wiredNet {
	return slices.DeleteFunc(list, func(w wiredNet) bool { return len(w.n.Agents) > 6 })
}

func TestPeerOf(t *testing.T) {
	for _, c := range wiredNets() {
		for _, p := range nearPorts(c.n) {
			want, wantCode := impl.Port{}, int64(impl.ErrRange)
			for _, w := range c.wires {
				switch p {
				case w.A:
					want, wantCode = w.B, impl.OK
				case w.B:
					want, wantCode = w.A, impl.OK
				}
			}
			if got, code := impl.PeerOf(c.n, p); got != want || code != wantCode {
				t.Errorf("PeerOf(%.200s, %v) is %v, %d", netLine(c.n), p, got, code)
			}
		}
	}
}

func TestActivePairs(t *testing.T) {
	pairs := 0
	for _, c := range wiredNets() {
		var want []impl.Pair
		for _, w := range c.wires {
			if w.A.Slot == 0 && w.B.Slot == 0 && c.n.Agents[w.A.Agent].Kind != impl.KiRoot {
				want = append(want, impl.Pair{A: w.A.Agent, B: w.B.Agent})
			}
		}
		pairs += len(want)
		if got, code := impl.ActivePairs(c.n); !slices.Equal(got, want) || code != impl.OK {
			t.Errorf("ActivePairs of %.200s is %v, %d", netLine(c.n), got, code)
		}
	}
	if pairs < 500 {
		t.Errorf("only %d pairs", pairs)
	}
	for text, want := range map[string][]impl.Pair{
		"root 1.0; num=5 0.0":                                       nil,
		"root 1.0; num=5 0.0; era 3.0; era 2.0":                     {{A: 2, B: 3}},
		"root 4.0; num=5 3.0; era 5.0; era 1.0; era 0.0; num=1 2.0": {{A: 1, B: 3}, {A: 2, B: 5}},
		"root 1.2; app/0 1.1 1.0 0.0":                               nil,
		"root 1.0; con/0=0 0.0 2.0; num=5 1.1":                      nil,
		"root 1.1; lam/0 2.0 0.0 2.1; app/1 1.0 1.2 3.0; era 2.2":   {{A: 1, B: 2}},
	} {
		if got, code := impl.ActivePairs(netOf(text)); !slices.Equal(got, want) || code != impl.OK {
			t.Errorf("ActivePairs of %s is %v, %d", text, got, code)
		}
	}
}

func TestCountKind(t *testing.T) {
	for _, c := range wiredNets() {
		sum := int64(0)
		for kind := int64(1); kind <= 12; kind++ {
			want := int64(0)
			for _, a := range c.n.Agents {
				if a.Kind == kind {
					want++
				}
			}
			got, code := impl.CountKind(c.n, kind)
			if got != want || code != impl.OK {
				t.Errorf("CountKind(%.200s, %d) is %d, %d", netLine(c.n), kind, got, code)
			}
			sum += got
		}
		if sum != int64(len(c.n.Agents)) {
			t.Errorf("%.200s has %d agents of all kinds", netLine(c.n), sum)
		}
	}
	for _, kind := range slices.Concat(noKinds(), edgeIntegers()) {
		if kind >= 1 && kind <= 12 {
			continue
		}
		if got, code := impl.CountKind(netOf("root 1.0; num=5 0.0"), kind); got != 0 || code != impl.ErrRange {
			t.Errorf("CountKind with %d is %d, %d", kind, got, code)
		}
	}
}

// disordered returns the wires in another order, some with their ends exchanged.
func disordered(random *rand.Rand, wires []impl.Wire) []impl.Wire {
	list := slices.Clone(wires)
	random.Shuffle(len(list), func(i, j int) { list[i], list[j] = list[j], list[i] })
	for i, w := range list {
		if random.Intn(2) == 0 {
			list[i] = impl.Wire{A: w.B, B: w.A}
		}
	}
	return list
}

// TestWiresThereAndBack is the part of P12 about wires.
func TestWiresThereAndBack(t *testing.T) {
	random := rand.New(rand.NewSource(1111))
	for _, c := range wiredNets() {
		wires, code := impl.WiresOf(c.n)
		if !slices.Equal(wires, c.wires) || code != impl.OK {
			t.Fatalf("WiresOf %.200s is %.200v, %d", netLine(c.n), wires, code)
		}
		without := copiedNet(c.n)
		for _, a := range without.Agents {
			for slot := range a.Ports {
				a.Ports[slot] = impl.Port{Agent: random.Int63n(9) - 2, Slot: random.Int63n(9) - 2}
			}
		}
		for range 3 {
			n, code := impl.FromWires(without.Agents, disordered(random, wires))
			checkNet(t, n, code, netLine(c.n))
		}
	}
}

// TestNetsAreDetermined is P12: of all nets with few agents, two are the same if and only if their agents and wires are, and if and only if their texts are.
func TestNetsAreDetermined(t *testing.T) {
	texts := map[string]int{}
	list := smallOnes(wiredNets())
	for i, a := range list {
		agents := slices.Clone(a.n.Agents)
		for k := range agents {
			agents[k].Ports = make([]impl.Port, len(agents[k].Ports))
		}
		for _, b := range list[:i] {
			others := slices.Clone(b.n.Agents)
			for k := range others {
				others[k].Ports = make([]impl.Port, len(others[k].Ports))
			}
			same := impl.SameNet(a.n, b.n)
			if want := slices.Equal(a.wires, b.wires) && equalNets(impl.Net{Agents: agents}, impl.Net{Agents: others}); same != want {
				t.Fatalf("SameNet is %t for %s and %s", same, netLine(a.n), netLine(b.n))
			}
			if got := impl.NetText(a.n) == impl.NetText(b.n); same != got {
				t.Fatalf("SameNet is %t but the texts are of %s and %s", same, netLine(a.n), netLine(b.n))
			}
		}
		texts[impl.NetText(a.n)]++
	}
	if len(texts) < 300 || texts[""] > 0 {
		t.Errorf("%d texts, of which %d are empty", len(texts), texts[""])
	}
}

// TestFromWiresOfAllLists compares FromWires with the document's sentences, for all short lists of wires.
func TestFromWiresOfAllLists(t *testing.T) {
	for _, c := range []struct {
		agents string
		ports  string
		most   int
	}{
		{"root 1.0; num=5 0.0", "0.0:1.0, 0.1:2.0, -1.0:1.1", 3},
		{"root 1.0; mat/0=1 0.0 2.0; era 1.1", "0.0:1.0, 1.1:2.0, 2.1:3.0", 2},
		{"root 1.0; mat/0=1 0.0 2.0; era 1.1", "0.0:1.0, 1.1:2.0", 3},
		{"root 1.0; fan/0 0.0 1.2 1.1", "0.0:1.0, 1.1:1.2, 1.3:0.1", 2},
		{"root 1.0; num=5 0.0; num=5 0.0", "0.0:1.0, 2.0:3.0", 3},
		{"root 1.0; num/1=5 0.0", "0.0:1.0, 2.0:0.0", 2},
		{"root 1.0", "0.0:1.0", 2},
	} {
		agents, codes := netOf(c.agents).Agents, map[int64]int{}
		var wires []impl.Wire
		var ports []impl.Port
		for _, w := range wiresFrom(c.ports) {
			ports = append(ports, w.A, w.B)
		}
		var walk func(left int)
		walk = func(left int) {
			want, wantCode := wiredAsStated(agents, wires)
			got, code := impl.FromWires(agents, wires)
			if code != wantCode || !equalNets(got, want) {
				t.Fatalf("FromWires(%s, %v) is %s, %d, want %d", c.agents, wires, netLine(got), code, wantCode)
			}
			codes[code]++
			for _, p := range ports {
				for _, q := range ports {
					if left > 0 {
						wires = append(wires, impl.Wire{A: p, B: q})
						walk(left - 1)
						wires = wires[:len(wires)-1]
					}
				}
			}
		}
		walk(c.most)
		if len(codes) == 0 {
			t.Error("no cases")
		}
	}
}

// TestFromWiresErrors has the errors in their order, also where two apply.
func TestFromWiresErrors(t *testing.T) {
	op1 := "root 2.1; num=7 2.0; op1/0=+,1 1.0 0.0"
	for _, c := range []struct {
		agents, wires string
		code          int64
	}{
		{op1, "0.0:2.1, 1.0:2.0", impl.OK},
		{op1, "2.0:1.0, 2.1:0.0", impl.OK},
		{op1, "0.0:2.1", impl.ErrState},
		{op1, "0.0:2.1, 1.0:2.0, 0.0:2.1", impl.ErrState},
		{op1, "0.0:2.1, 1.0:2.0, 2.1:0.0", impl.ErrState},
		{op1, "0.0:2.1, 0.0:2.1", impl.ErrState},
		{op1, "0.0:2.1, 0.0:1.0", impl.ErrState},
		{op1, "0.0:2.1, 1.0:1.0, 2.0:2.0", impl.ErrState},
		{op1, "0.0:0.0, 1.0:1.0, 2.0:2.0, 2.1:2.1", impl.ErrState},
		{op1, "0.0:2.1, 1.0:2.0, 1.0:1.0", impl.ErrState},
		{op1, "0.0:2.1, 1.0:2.2", impl.ErrRange},
		{op1, "0.0:2.1, 1.1:2.0", impl.ErrRange},
		{op1, "0.0:2.1, 3.0:2.0", impl.ErrRange},
		{op1, "-1.0:2.1, 1.0:2.0", impl.ErrRange},
		{op1, "0.-1:2.1, 1.0:2.0", impl.ErrRange},
		{op1, "0.0:9223372036854775807.0, 1.0:2.0", impl.ErrRange},
		{op1, "0.0:2.1, 1.0:2.0, 4294967296.0:0.4294967296", impl.ErrRange},
		{op1, "0.0:2.1, 0.0:2.1, 0.0:0.0, 5.5:5.5", impl.ErrRange},
		{op1, "0.0:0.0, 0.0:3.0", impl.ErrRange},
		{"root 2.1; num=7 2.0", "0.0:2.1, 1.0:2.0", impl.ErrRange},
		{"num=7 2.0; root 2.1", "0.0:1.0", impl.ErrInvalid},
		{"num=7 2.0; root 2.1", "0.0:3.0", impl.ErrInvalid},
		{"num=7 2.0; num=7 2.1", "0.0:0.0", impl.ErrInvalid},
		{"root 2.0; root 0.0", "0.0:1.0", impl.ErrInvalid},
		{"root 2.0; num/1=5 0.0", "0.0:5.0", impl.ErrInvalid},
		{"root 2.0; num=5 0.0 0.0", "0.0:1.0, 1.1:1.1", impl.ErrInvalid},
		{"root 2.0; mat/0= 0.0 0.0; era 0.0", "0.0:1.0, 1.1:2.0", impl.ErrInvalid},
		{"root 0.0", "0.0:0.0", impl.ErrState},
		{"root 0.0; fan/0 0.0 0.0 0.0", "0.0:1.2, 1.0:1.1", impl.OK},
		{"root 0.0; num=5 0.0", "1.0:0.0", impl.OK},
	} {
		agents, wires := netOf(c.agents).Agents, wiresFrom(c.wires)
		n, code := impl.FromWires(agents, wires)
		if _, stated := wiredAsStated(agents, wires); code != c.code || stated != c.code || (len(n.Agents) > 0) != (code == impl.OK) {
			t.Errorf("FromWires(%s, %s) is %s, %d, stated as %d", c.agents, c.wires, netLine(n), code, stated)
		}
	}
	for _, wires := range [][]impl.Wire{nil, wiresFrom("0.0:0.0"), wiresFrom("0.0:1.0"), wiresFrom("7.0:0.0")} {
		checkNoNet(t, impl.ErrInvalid)(impl.FromWires(nil, wires))
		checkNoNet(t, impl.ErrInvalid)(impl.FromWires(widestNet(602).Agents, wires))
	}
	checkNoNet(t, impl.ErrState)(impl.FromWires(netOf("root 1.0; num=5 0.0").Agents, nil))
	checkNoNet(t, impl.ErrState)(impl.FromWires(netOf("root 0.0").Agents, nil))
}

// TestFromWiresOfRandomLists disturbs the wires of nets.
func TestFromWiresOfRandomLists(t *testing.T) {
	random := rand.New(rand.NewSource(1112))
	codes := map[int64]int{}
	for _, c := range smallOnes(wiredNets()) {
		for range 10 {
			wires := disordered(random, c.wires)
			i, j := random.Intn(len(wires)), random.Intn(len(wires))
			switch random.Intn(6) {
			case 0:
				wires = append(wires, wires[j])
			case 1:
				wires = slices.Delete(wires, i, i+1)
			case 2:
				wires[i].A, wires[j].B = wires[j].B, wires[i].A
			case 3:
				wires[i] = wires[j]
			case 4:
				ports := nearPorts(c.n)
				wires[i].B = ports[random.Intn(len(ports))]
			}
			agents := c.n.Agents
			if random.Intn(4) == 0 {
				agents = disturbedNet(random, c.n).Agents
			}
			want, wantCode := wiredAsStated(agents, wires)
			got, code := impl.FromWires(agents, wires)
			if codes[code]++; code != wantCode || !equalNets(got, want) {
				t.Fatalf("FromWires(%s, %v) is %s, %d, want %d", netLine(impl.Net{Agents: agents}), wires, netLine(got), code, wantCode)
			}
		}
	}
	for _, code := range []int64{impl.OK, impl.ErrInvalid, impl.ErrRange, impl.ErrState} {
		if codes[code] < 100 {
			t.Errorf("the code %d comes %d times", code, codes[code])
		}
	}
}

// TestExchangePorts compares the net with the one in which p and q have exchanged their names in the wires.
func TestExchangePorts(t *testing.T) {
	same := 0
	for _, c := range smallOnes(wiredNets()) {
		ports := nearPorts(c.n)
		for _, p := range ports {
			for _, q := range ports {
				got, code := impl.ExchangePorts(c.n, p, q)
				if !hasPort(c.n, p) || !hasPort(c.n, q) {
					checkNoNet(t, impl.ErrRange)(got, code)
					continue
				}
				exchanged := withEnds(c.wires, func(end impl.Port) impl.Port {
					switch end {
					case p:
						return q
					case q:
						return p
					}
					return end
				})
				want, _ := wiredAsStated(c.n.Agents, exchanged)
				if !equalNets(got, want) || code != impl.OK {
					t.Fatalf("ExchangePorts(%s, %v, %v) is %s, %d", netLine(c.n), p, q, netLine(got), code)
				}
				if equalNets(got, c.n) {
					same++
				} else if p == q || c.n.Agents[p.Agent].Ports[p.Slot] == q {
					t.Fatalf("ExchangePorts(%s, %v, %v) is %s", netLine(c.n), p, q, netLine(got))
				}
				back, code := impl.ExchangePorts(got, p, q)
				if !equalNets(back, c.n) || code != impl.OK {
					t.Fatalf("ExchangePorts(%s, %v, %v) twice is %s, %d", netLine(c.n), p, q, netLine(back), code)
				}
				other, code := impl.ExchangePorts(c.n, q, p)
				if !equalNets(other, got) || code != impl.OK {
					t.Fatalf("ExchangePorts(%s, %v, %v) is not that with %v, %v", netLine(c.n), p, q, q, p)
				}
			}
		}
	}
	if same < 1000 {
		t.Errorf("only %d nets are unchanged", same)
	}
}

func TestExchangeRows(t *testing.T) {
	for _, row := range [][4]string{
		{"root 2.1; num=7 2.0; op1/0=+,1 1.0 0.0", "2.0", "2.1", "root 2.0; num=7 2.1; op1/0=+,1 0.0 1.0"},
		{"root 2.1; num=7 2.0; op1/0=+,1 1.0 0.0", "1.0", "2.0", "root 2.1; num=7 2.0; op1/0=+,1 1.0 0.0"},
		{"root 2.1; num=7 2.0; op1/0=+,1 1.0 0.0", "2.1", "2.1", "root 2.1; num=7 2.0; op1/0=+,1 1.0 0.0"},
		{"root 2.1; num=7 2.0; op1/0=+,1 1.0 0.0", "0.0", "2.0", "root 1.0; num=7 0.0; op1/0=+,1 2.1 2.0"},
		{"root 1.0; num=7 0.0; op1/0=+,1 2.1 2.0", "2.1", "1.0", "root 2.1; num=7 2.0; op1/0=+,1 1.0 0.0"},
		{"root 1.0; lam/0 0.0 1.2 1.1", "1.1", "1.2", "root 1.0; lam/0 0.0 1.2 1.1"},
		{"root 1.0; lam/0 0.0 1.2 1.1", "1.0", "1.2", "root 1.2; lam/0 1.1 1.0 0.0"},
		{"root 1.0; lam/0 0.0 1.2 1.1", "0.0", "1.2", "root 1.1; lam/0 1.2 0.0 1.0"},
		{"root 1.0; lam/0 0.0 1.2 1.1", "0.0", "1.0", "root 1.0; lam/0 0.0 1.2 1.1"},
	} {
		n, code := impl.ExchangePorts(netOf(row[0]), portOf(row[1]), portOf(row[2]))
		checkNet(t, n, code, row[3])
	}
}

// TestWrongNetsGiveNothing has nets that are not valid, in every function and with other arguments that are wrong too.
func TestWrongNetsGiveNothing(t *testing.T) {
	random := rand.New(rand.NewSource(1113))
	list := wrongNets()
	for _, n := range validNets() {
		if n = disturbedNet(random, n); !isNetAsStated(n) {
			list = append(list, n)
		}
	}
	ports := []impl.Port{{}, {Agent: 1}, {Agent: 1, Slot: 1}, {Agent: -1}, {Agent: math.MaxInt64, Slot: math.MinInt64}}
	for _, n := range list {
		for _, p := range ports {
			if got, code := impl.PeerOf(n, p); got != (impl.Port{}) || code != impl.ErrInvalid {
				t.Errorf("PeerOf(%.300s, %v) is %v, %d", dumpNet(n), p, got, code)
			}
			for _, q := range ports {
				checkNoNet(t, impl.ErrInvalid)(impl.ExchangePorts(n, p, q))
			}
		}
		for _, kind := range farNumbers() {
			if got, code := impl.CountKind(n, kind); got != 0 || code != impl.ErrInvalid {
				t.Errorf("CountKind(%.300s, %d) is %d, %d", dumpNet(n), kind, got, code)
			}
		}
		for _, order := range [][]int64{nil, {0}, {0, 1}, {0, 2, 1}, {1, 0}, {-1}, upTo(len(n.Agents))} {
			checkNoNet(t, impl.ErrInvalid)(impl.RenumberNet(n, order))
		}
		if pairs, code := impl.ActivePairs(n); len(pairs) > 0 || code != impl.ErrInvalid {
			t.Errorf("ActivePairs(%.300s) is %.300v, %d", dumpNet(n), pairs, code)
		}
		if wires, code := impl.WiresOf(n); len(wires) > 0 || code != impl.ErrInvalid {
			t.Errorf("WiresOf(%.300s) is %.300v, %d", dumpNet(n), wires, code)
		}
		if text := impl.NetText(n); text != "" {
			t.Errorf("NetText(%.300s) is %.300q", dumpNet(n), text)
		}
	}
	if len(list) < 150 {
		t.Errorf("only %d nets", len(list))
	}
}

// upTo returns the numbers less than n.
func upTo(n int) []int64 {
	var list []int64
	for i := range n {
		list = append(list, int64(i))
	}
	return list
}
