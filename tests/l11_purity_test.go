package tests

import (
	"fmt"
	"math/rand"
	"slices"
	"strings"
	"testing"

	"loop.example/g01074/impl"
)

// netCase is a net with other arguments of the functions of chapter 11.
type netCase struct {
	n, other impl.Net
	p, q     impl.Port
	wires    []impl.Wire
	order    []int64
	text     string
}

// netted is all results of chapter 11 for a case: nets and lists, and the rest as a text.
type netted struct {
	nets  []impl.Net
	wires []impl.Wire
	pairs []impl.Pair
	rest  []any
}

func (n *netted) add(net impl.Net, code int64) {
	n.nets = append(n.nets, net)
	n.rest = append(n.rest, code)
}

func (c netCase) results() *netted {
	r := &netted{rest: []any{impl.ValidNet(c.n), impl.SameNet(c.n, c.other), impl.NetText(c.n)}}
	r.add(impl.FromWires(c.n.Agents, c.wires))
	r.add(impl.ExchangePorts(c.n, c.p, c.q))
	r.add(impl.ExchangePorts(c.n, c.p, c.p))
	r.add(impl.RenumberNet(c.n, c.order))
	r.add(impl.ReadNet(c.text))
	wires, code := impl.WiresOf(c.n)
	r.wires, r.rest = wires, append(r.rest, code)
	pairs, code := impl.ActivePairs(c.n)
	r.pairs, r.rest = pairs, append(r.rest, code)
	for _, p := range []impl.Port{c.p, c.q} {
		peer, code := impl.PeerOf(c.n, p)
		r.rest = append(r.rest, peer, code)
	}
	for kind := int64(0); kind <= 13; kind++ {
		count, code := impl.CountKind(c.n, kind)
		r.rest = append(r.rest, count, code)
	}
	return r
}

func (r *netted) told() string {
	told := fmt.Sprint(r.wires, r.pairs, r.rest)
	for _, n := range r.nets {
		told += "|" + netLine(n)
	}
	return told
}

// spoil overwrites all memory of the results.
func (r *netted) spoil() {
	for _, n := range r.nets {
		spoilNet(n)
	}
	spoilSlice(r.wires, impl.Wire{A: impl.Port{Agent: -1}})
	spoilSlice(r.pairs, impl.Pair{A: -1})
}

func (m *memoryOf) addNetted(r *netted) {
	for _, n := range r.nets {
		m.addNet(n)
	}
	sliceIn(m, r.wires)
	sliceIn(m, r.pairs)
}

func (c netCase) roomy() netCase {
	c.n, c.other = roomyNet(c.n), roomyNet(c.other)
	c.wires, c.order = roomy(c.wires, impl.Wire{A: impl.Port{Agent: 9}}), roomy(c.order, 9)
	return c
}

func (c netCase) dump() string {
	return fmt.Sprint(dumpNet(c.n), dumpNet(c.other), len(c.wires), c.wires[:cap(c.wires)], len(c.order), c.order[:cap(c.order)])
}

// netCases have nets of all kinds, valid or not, with other arguments that are mostly correct.
func netCases() []netCase {
	random := rand.New(rand.NewSource(1130))
	var list []netCase
	nets := slices.Concat(wrongNets(), validNets())
	for i, n := range nets {
		c := netCase{n: n, other: copiedNet(nets[max(0, i-i%3)]), text: netLine(n)}
		if ports := nearPorts(n); isNetAsStated(n) {
			c.wires, c.order = disordered(random, wiresAsStated(n)), ordersOf(random, len(n.Agents))[random.Intn(min(4, len(n.Agents)))%max(1, len(n.Agents)-1)]
			c.p, c.q = ports[random.Intn(len(ports)*3/4)], ports[random.Intn(len(ports)*3/4)]
		} else {
			c.wires, c.order, c.q = wiresFrom("0.0:1.0"), upTo(len(n.Agents)), portOf("1.0")
		}
		list = append(list, c)
	}
	return list
}

// TestNetsArePure is P1 for the functions of chapter 11.
func TestNetsArePure(t *testing.T) {
	list := netCases()
	var first []string
	done := 0
	for i := range list {
		list[i] = list[i].roomy()
		before := list[i].dump()
		results := list[i].results()
		first = append(first, results.told())
		for _, n := range results.nets {
			if len(n.Agents) > 0 {
				done++
			}
		}
		results.spoil()
		if after := list[i].dump(); after != before {
			t.Fatalf("%.300s became %.300s", before, after)
		}
	}
	for i, c := range slices.Backward(list) {
		if got := c.results().told(); got != first[i] {
			t.Errorf("first %.300s, then %.300s", first[i], got)
		}
	}
	if done < 700 {
		t.Errorf("only %d nets are handed back", done)
	}
}

// TestNetsWithEmptySlices has empty slices where others are nil, and no unused capacity.
func TestNetsWithEmptySlices(t *testing.T) {
	full := func(n impl.Net) impl.Net {
		result := impl.Net{Agents: append([]impl.Agent{}, n.Agents...)}
		for i, a := range n.Agents {
			result.Agents[i].Data, result.Agents[i].Ports = append([]int64{}, a.Data...), append([]impl.Port{}, a.Ports...)
		}
		return result
	}
	for _, c := range netCases() {
		other := c
		other.n, other.other = full(c.n), full(c.other)
		other.wires, other.order = append([]impl.Wire{}, c.wires...), append([]int64{}, c.order...)
		if got, want := other.results().told(), c.results().told(); got != want {
			t.Errorf("%.200s: %.300s, with empty slices %.300s", netLine(c.n), want, got)
		}
		sameInBoth(t, c.n, other.n, true)
	}
	checkNoNet(t, impl.ErrRange)(impl.RenumberNet(netOf("root 1.0; num=5 0.0"), []int64{}))
	checkNoNet(t, impl.ErrState)(impl.FromWires(netOf("root 1.0; num=5 0.0").Agents, []impl.Wire{}))
	checkNoNet(t, impl.ErrInvalid)(impl.FromWires([]impl.Agent{}, []impl.Wire{}))
}

// sharedNets are valid nets with slices that are one in memory at several places.
func sharedNets() []netCase {
	data, ports := []int64{1, 2, 3, 4}, []impl.Port{{Agent: 3}, {Agent: 2, Slot: 1}, {Agent: 1, Slot: 1}, {Agent: 0}}
	n := netOf("root 3.0; mat/0=1,2 2.0 2.1; mat/0=1,2 1.0 1.1; num=5 0.0")
	n.Agents[0].Ports, n.Agents[3].Ports = ports[:1], ports[3:]
	n.Agents[1].Data, n.Agents[2].Data = data[:2], data[:2]
	c := netCase{n: n, other: n, q: portOf("1.0"), wires: wiresFrom("0.0:3.0, 1.0:2.0, 1.1:2.1"), order: data[:0:0], text: netLine(n)}
	c.order = []int64{0, 2, 1, 3}
	// All erasers of the second net have their peers in one list, which is a part of the list of the constructor.
	fields := []impl.Port{{Agent: 0}, {Agent: 2}, {Agent: 3}, {Agent: 4}}
	con := impl.Net{Agents: []impl.Agent{agentOf("root 1.0"), {Kind: impl.KiCon, Ports: fields}, agentOf("era 1.1"), agentOf("era 1.2"), agentOf("era 1.3")}}
	con.Agents[0].Ports = []impl.Port{{Agent: 1}}
	second := netCase{n: con, other: con, p: portOf("1.1"), q: portOf("1.3"), wires: wiresFrom("0.0:1.2, 1.0:2.0, 1.1:3.0, 1.3:4.0"), order: []int64{0, 4, 3, 2, 1}, text: netLine(con)}
	// Two nets in one, whose agents all have their ports in one list.
	loop := []impl.Port{{Agent: 1}, {Agent: 0}, {Agent: 3}, {Agent: 2}}
	four := netOf("root 1.0; num=1 0.0; num=2 3.0; num=3 2.0")
	for i := range four.Agents {
		four.Agents[i].Ports = loop[i : i+1]
	}
	third := netCase{n: four, other: con, p: portOf("0.0"), q: portOf("2.0"), wires: wiresFrom("0.0:3.0, 1.0:2.0"), order: []int64{0, 3, 1, 2}, text: netLine(four)}
	return []netCase{c, second, third}
}

// TestNetsShareNoMemory is P1 for the results of chapter 11: no two slices, of one result, of two results or of an argument, have memory in common.
func TestNetsShareNoMemory(t *testing.T) {
	var m memoryOf
	var kept []any
	for _, c := range netCases() {
		c = c.roomy()
		m.addNet(c.n)
		m.addNet(c.other)
		sliceIn(&m, c.wires)
		sliceIn(&m, c.order)
		for range 2 {
			results := c.results()
			m.addNetted(results)
			kept = append(kept, c, results)
		}
	}
	for _, c := range sharedNets() {
		results := c.results()
		m.addNetted(results)
		kept = append(kept, results)
		if !isNetAsStated(c.n) || slices.Contains(results.rest[3:8], any(int64(impl.ErrInvalid))) {
			t.Errorf("%s: %.300s", netLine(c.n), results.told())
		}
	}
	if m.overlap() || len(m) < 10000 {
		t.Fatalf("%d slices, of which two share memory in %d results", len(m), len(kept))
	}
}

// TestSharedNetsStayUnchanged overwrites results for nets that share memory with each other.
func TestSharedNetsStayUnchanged(t *testing.T) {
	for i := range sharedNets() {
		c := sharedNets()[i]
		before, want := c.dump(), c.results().told()
		c.results().spoil()
		if after, got := c.dump(), c.results().told(); got != want || after != before {
			t.Errorf("%s: first %.300s, then %.300s", netLine(c.n), want, got)
		}
	}
}

// TestNetsOfAnySize has lists that are very long, or one in memory at many places.
func TestNetsOfAnySize(t *testing.T) {
	data, ports := make([]int64, 300000), make([]impl.Port, 300000)
	var nets []impl.Net
	for kind := int64(0); kind <= 13; kind++ {
		wide := impl.Agent{Kind: kind, Data: data, Ports: ports}
		for _, a := range []impl.Agent{wide, {Kind: kind, Data: data}, {Kind: kind, Ports: ports}, {Kind: kind}, {Kind: kind, Ports: ports[:2]}} {
			nets = append(nets, impl.Net{Agents: []impl.Agent{a}}, impl.Net{Agents: []impl.Agent{agentOf("root 1.0"), a}}, impl.Net{Agents: slices.Repeat([]impl.Agent{a}, 20000)})
		}
	}
	for _, n := range append(nets, widestNet(200000)) {
		c := netCase{n: n, other: n, wires: slices.Repeat(wiresFrom("0.0:1.0"), 1000), order: data}
		if got := c.results().told(); strings.Contains(got, "root") || !impl.SameNet(n, n) || impl.ValidNet(n) {
			t.Errorf("%.300s", got)
		}
	}
	five := netOf("root 1.0; num=5 0.0")
	for text, code := range map[string]int64{"0.0:1.0": impl.ErrState, "0.0:2.0": impl.ErrRange, "0.0:0.0": impl.ErrState} {
		checkNoNet(t, code)(impl.FromWires(five.Agents, slices.Repeat(wiresFrom(text), 1000000)))
	}
	checkNoNet(t, impl.ErrRange)(impl.RenumberNet(five, data))
}

// TestSameNetOfTangledNets has nets in memory of their own that are equal, or differ in the last place only.
func TestSameNetOfTangledNets(t *testing.T) {
	tangled := func(number int64, port impl.Port) impl.Net {
		a := impl.Agent{Data: make([]int64, 200000), Ports: make([]impl.Port, 200000)}
		end := impl.Agent{Data: append(make([]int64, 200000), number), Ports: append(make([]impl.Port, 200000), port)}
		return impl.Net{Agents: append(slices.Repeat([]impl.Agent{a}, 100000), end)}
	}
	n := tangled(0, impl.Port{})
	sameInBoth := func(other impl.Net, want bool) {
		if impl.SameNet(n, other) != want || impl.SameNet(other, n) != want {
			t.Errorf("SameNet of tangled nets is not %t", want)
		}
	}
	sameInBoth(n, true)
	sameInBoth(tangled(0, impl.Port{}), true)
	sameInBoth(tangled(1, impl.Port{}), false)
	sameInBoth(tangled(0, impl.Port{Slot: 1}), false)
}
