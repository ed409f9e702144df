package tests

import (
	"fmt"
	"math/rand"
	"regexp"
	"slices"
	"strconv"
	"strings"

	"loop.example/g01074/impl"
)

// netOf returns the net with a text, whether it is valid or not. The text is of the form that NetText returns; a level may be left out or given for every kind.
func netOf(text string) impl.Net {
	var n impl.Net
	for part := range strings.SplitSeq(text, ";") {
		n.Agents = append(n.Agents, agentOf(strings.TrimSpace(part)))
	}
	return n
}

func agentOf(text string) impl.Agent {
	first, ports, _ := strings.Cut(text, " ")
	head, content, _ := strings.Cut(first, "=")
	name, level, _ := strings.Cut(head, "/")
	a := impl.Agent{Level: integerOf(level)}
	for _, row := range agentRows() {
		if row.name == name {
			a.Kind = row.kind
		}
	}
	for i, item := range strings.Split(content, ",") {
		operator := int64(slices.Index([]string{"", "+", "-", "*", "/", "<", "="}, item))
		switch {
		case operator > 0:
			a.Value = operator
		case item == "":
		case i == 0 && slices.Contains([]int64{impl.KiNum, impl.KiCon, impl.KiRef}, a.Kind):
			a.Value = integerOf(item)
		default:
			a.Data = append(a.Data, integerOf(item))
		}
	}
	for _, word := range strings.Fields(ports) {
		a.Ports = append(a.Ports, portOf(word))
	}
	return a
}

// integerOf returns the number that a text begins with; one that is too great becomes the greatest.
func integerOf(text string) int64 {
	n, _ := strconv.ParseInt(text, 10, 64)
	return n
}

// portOf returns the port with a text like 2.1.
func portOf(text string) impl.Port {
	agent, slot, _ := strings.Cut(text, ".")
	return impl.Port{Agent: integerOf(agent), Slot: integerOf(slot)}
}

// wiresFrom returns the wires of a text like "0.0:2.1, 1.0:2.0".
func wiresFrom(text string) []impl.Wire {
	var wires []impl.Wire
	for part := range strings.SplitSeq(text, ",") {
		a, b, _ := strings.Cut(strings.TrimSpace(part), ":")
		wires = append(wires, impl.Wire{A: portOf(a), B: portOf(b)})
	}
	return wires
}

// agentContent is what chapter 11 says of Value and Data of a kind: the bounds of Value, of the length of Data, and of the numbers in Data.
type agentContent struct {
	value   [2]int64
	data    [2]int
	numbers [2]int64
}

// contentOf returns the row of a kind; no kind is in it that must have 0 and an empty list.
func contentOf(kind int64) agentContent {
	rows := map[int64]agentContent{
		impl.KiNum: {value: [2]int64{-2147483648, 2147483647}},
		impl.KiOp:  {value: [2]int64{1, 6}},
		impl.KiOp1: {value: [2]int64{1, 6}, data: [2]int{1, 1}, numbers: [2]int64{-2147483648, 2147483647}},
		impl.KiCon: {value: [2]int64{0, 3}},
		impl.KiMat: {data: [2]int{1, 4}, numbers: [2]int64{0, 23}},
		impl.KiSwi: {data: [2]int{2, 2}, numbers: [2]int64{0, 23}},
		impl.KiRef: {value: [2]int64{0, 23}},
	}
	return rows[kind]
}

// portCounts returns how many ports an agent of a kind may have.
func portCounts(kind int64) []int {
	if kind == impl.KiCon {
		return []int{1, 2, 3, 4}
	}
	return []int{int(rowOfKind(kind).ports)}
}

func isWithin(n int64, bounds [2]int64) bool { return bounds[0] <= n && n <= bounds[1] }

// isAgentAsStated says what chapter 11 says of agents that are well-formed.
func isAgentAsStated(a impl.Agent) bool {
	row, content := rowOfKind(a.Kind), contentOf(a.Kind)
	levels := [2]int64{}
	if row.level {
		levels[1] = 8
	}
	for _, number := range a.Data {
		if !isWithin(number, content.numbers) {
			return false
		}
	}
	return row.name != "" && slices.Contains(portCounts(a.Kind), len(a.Ports)) && isWithin(a.Level, levels) &&
		isWithin(a.Value, content.value) && content.data[0] <= len(a.Data) && len(a.Data) <= content.data[1]
}

func areAgentsAsStated(agents []impl.Agent) bool {
	for i, a := range agents {
		if !isAgentAsStated(a) || (a.Kind == impl.KiRoot) != (i == 0) {
			return false
		}
	}
	return 1 <= len(agents) && len(agents) <= 600
}

// allPorts are the ports of the agents, in their order.
func allPorts(agents []impl.Agent) []impl.Port {
	var list []impl.Port
	for i, a := range agents {
		for slot := range a.Ports {
			list = append(list, impl.Port{Agent: int64(i), Slot: int64(slot)})
		}
	}
	return list
}

// isNetAsStated says what chapter 11 says of valid nets.
func isNetAsStated(n impl.Net) bool {
	peers := map[impl.Port]impl.Port{}
	for _, p := range allPorts(n.Agents) {
		peers[p] = n.Agents[p.Agent].Ports[p.Slot]
	}
	for p, peer := range peers {
		if back, ok := peers[peer]; !ok || peer == p || back != p {
			return false
		}
	}
	return areAgentsAsStated(n.Agents)
}

// wiresAsStated returns the wires of a valid net.
func wiresAsStated(n impl.Net) []impl.Wire {
	var wires []impl.Wire
	met := map[impl.Port]bool{}
	for _, p := range allPorts(n.Agents) {
		peer := n.Agents[p.Agent].Ports[p.Slot]
		if met[p], met[peer] = true, met[peer]; !met[peer] {
			wires = append(wires, impl.Wire{A: p, B: peer})
		}
	}
	return wires
}

// wiredAsStated returns the net of agents and wires that FromWires returns.
func wiredAsStated(agents []impl.Agent, wires []impl.Wire) (impl.Net, int64) {
	if !areAgentsAsStated(agents) {
		return impl.Net{}, impl.ErrInvalid
	}
	ends := map[impl.Port][]impl.Port{}
	for _, p := range allPorts(agents) {
		ends[p] = []impl.Port{}
	}
	for _, w := range wires {
		if ends[w.A] == nil || ends[w.B] == nil {
			return impl.Net{}, impl.ErrRange
		}
		ends[w.A], ends[w.B] = append(ends[w.A], w.B), append(ends[w.B], w.A)
	}
	n := copiedNet(impl.Net{Agents: agents})
	for p, peers := range ends {
		if len(peers) != 1 || peers[0] == p {
			return impl.Net{}, impl.ErrState
		}
		n.Agents[p.Agent].Ports[p.Slot] = peers[0]
	}
	return n, impl.OK
}

// withEnds returns the wires with other ports as their ends.
func withEnds(wires []impl.Wire, other func(p impl.Port) impl.Port) []impl.Wire {
	var list []impl.Wire
	for _, w := range wires {
		list = append(list, impl.Wire{A: other(w.A), B: other(w.B)})
	}
	return list
}

// netLine tells a net, valid or not.
func netLine(n impl.Net) string {
	var parts []string
	for _, a := range n.Agents {
		row := rowOfKind(a.Kind)
		text := row.name
		if row.level {
			text += fmt.Sprint("/", a.Level)
		}
		switch content := strings.Join(strings.Fields(strings.Trim(fmt.Sprint(a.Data), "[]")), ","); a.Kind {
		case impl.KiNum, impl.KiCon, impl.KiRef:
			text += fmt.Sprint("=", a.Value)
		case impl.KiOp:
			text += "=" + operatorLetter(a.Value)
		case impl.KiOp1:
			text += "=" + operatorLetter(a.Value) + "," + content
		case impl.KiMat, impl.KiSwi:
			text += "=" + content
		}
		for _, p := range a.Ports {
			text += fmt.Sprint(" ", p.Agent, ".", p.Slot)
		}
		parts = append(parts, text)
	}
	return strings.Join(parts, "; ")
}

func operatorLetter(op int64) string {
	if op < 1 || op > 6 {
		return "?"
	}
	return "+-*/<="[op-1 : op]
}

// netForm is the form of the text of a net, whether the net is valid or not.
func netForm() *regexp.Regexp {
	index, number := `(0|[1-9][0-9]*)`, `(0|-?[1-9][0-9]*)`
	form := `(root|era|num=N|(lam|app|fan)/I|op/I=[-+*/<=]|op1/I=[-+*/<=],N|(con|ref)/I=I|(mat|swi)/I=I(,I)*)( I\.I)+`
	form = strings.NewReplacer("N", number, "I", index).Replace(form)
	return regexp.MustCompile(`\A` + form + `(; ` + form + `)*\z`)
}

// readAsStated returns the valid net whose text is the given one.
func readAsStated(form *regexp.Regexp, text string) (impl.Net, bool) {
	if !form.MatchString(text) {
		return impl.Net{}, false
	}
	n := netOf(text)
	if !isNetAsStated(n) {
		return impl.Net{}, false
	}
	return n, true
}

// equalNets compares two nets, for which a nil slice and an empty slice are equal.
func equalNets(a, b impl.Net) bool {
	return slices.EqualFunc(a.Agents, b.Agents, func(x, y impl.Agent) bool {
		return x.Kind == y.Kind && x.Level == y.Level && x.Value == y.Value && slices.Equal(x.Data, y.Data) && slices.Equal(x.Ports, y.Ports)
	})
}

func copiedNet(n impl.Net) impl.Net {
	result := impl.Net{Agents: slices.Clone(n.Agents)}
	for i, a := range n.Agents {
		result.Agents[i].Data, result.Agents[i].Ports = slices.Clone(a.Data), slices.Clone(a.Ports)
	}
	return result
}

// roomyNet returns the net in memory of its own with unused capacity that is filled.
func roomyNet(n impl.Net) impl.Net {
	result := impl.Net{Agents: roomy(n.Agents, impl.Agent{Kind: impl.KiNum, Ports: []impl.Port{{Agent: 7}}})}
	for i, a := range n.Agents {
		result.Agents[i].Data, result.Agents[i].Ports = roomy(a.Data, 9), roomy(a.Ports, impl.Port{Agent: 9, Slot: 9})
	}
	return result
}

// dumpNet tells a net in full, with what is in the unused capacity of its slices.
func dumpNet(n impl.Net) string {
	var b strings.Builder
	fmt.Fprint(&b, len(n.Agents))
	for _, a := range n.Agents[:cap(n.Agents)] {
		fmt.Fprint(&b, a.Kind, a.Level, a.Value, len(a.Data), len(a.Ports), a.Data[:cap(a.Data)], a.Ports[:cap(a.Ports)])
	}
	return b.String()
}

func spoilNet(n impl.Net) {
	for _, a := range n.Agents {
		spoilSlice(a.Data, -1)
		spoilSlice(a.Ports, impl.Port{Agent: -1, Slot: -1})
	}
	spoilSlice(n.Agents, impl.Agent{Kind: -1})
}

func (m *memoryOf) addNet(n impl.Net) {
	sliceIn(m, n.Agents)
	for _, a := range n.Agents {
		sliceIn(m, a.Data)
		sliceIn(m, a.Ports)
	}
}

// drawn returns a number within the bounds, the bounds themselves often.
func drawn(random *rand.Rand, bounds [2]int64) int64 {
	switch width := bounds[1] - bounds[0]; random.Intn(4) {
	case 0:
		return bounds[0]
	case 1:
		return bounds[1]
	case 2:
		return bounds[0] + random.Int63n(width+1)
	default:
		return max(bounds[0], min(bounds[1], int64(random.Intn(5))))
	}
}

// randomAgent returns a well-formed agent of a kind; its ports have no peers yet.
func randomAgent(random *rand.Rand, kind int64) impl.Agent {
	content, counts := contentOf(kind), portCounts(kind)
	a := impl.Agent{Kind: kind, Value: drawn(random, content.value), Ports: make([]impl.Port, counts[random.Intn(len(counts))])}
	if rowOfKind(kind).level {
		a.Level = drawn(random, [2]int64{0, 8})
	}
	for range content.data[0] + random.Intn(content.data[1]-content.data[0]+1) {
		a.Data = append(a.Data, drawn(random, content.numbers))
	}
	return a
}

// randomNet returns a valid net of about n agents.
func randomNet(random *rand.Rand, n int) impl.Net {
	agents := []impl.Agent{randomAgent(random, impl.KiRoot)}
	for len(agents) < n {
		agents = append(agents, randomAgent(random, 2+random.Int63n(11)))
	}
	if len(allPorts(agents))%2 == 1 {
		agents = append(agents, randomAgent(random, impl.KiEra))
	}
	ports := allPorts(agents)
	random.Shuffle(len(ports), func(i, j int) { ports[i], ports[j] = ports[j], ports[i] })
	if random.Intn(2) == 0 {
		// Principal ports beside each other make active pairs.
		slices.SortStableFunc(ports, func(p, q impl.Port) int { return int(p.Slot - q.Slot) })
	}
	for i := 0; i < len(ports); i += 2 {
		join(agents, ports[i], ports[i+1])
	}
	return impl.Net{Agents: agents}
}

// join makes two ports the peers of each other.
func join(agents []impl.Agent, p, q impl.Port) {
	agents[p.Agent].Ports[p.Slot], agents[q.Agent].Ports[q.Slot] = q, p
}

func randomNets(seed int64, n, agents int) []impl.Net {
	random := rand.New(rand.NewSource(seed))
	var list []impl.Net
	for range n {
		list = append(list, randomNet(random, 1+random.Intn(agents)))
	}
	return list
}

// netTexts are texts of valid nets: all kinds, and agents whose own ports are peers of each other.
func netTexts() []string {
	return []string{
		"root 1.0; num=5 0.0", "root 1.0; num=-2147483648 0.0", "root 1.0; num=2147483647 0.0", "root 1.0; num=0 0.0", "root 1.0; era 0.0",
		"root 2.1; num=7 2.0; op1/0=+,1 1.0 0.0", "root 2.0; num=7 2.1; op1/0=+,1 0.0 1.0", "root 1.1; op1/0=+,1 2.0 0.0; num=7 1.0",
		"root 1.0; num=5 0.0; era 3.0; era 2.0", "root 2.0; num=5 2.1; app/0 0.0 1.0 3.0; era 2.2",
		"root 1.0; lam/0 0.0 1.2 1.1", "root 1.1; lam/8 1.2 0.0 1.0", "root 1.2; lam/4 1.1 1.0 0.0", "root 1.2; app/8 1.1 1.0 0.0", "root 1.0; fan/3 0.0 1.2 1.1", "root 1.1; op/0=- 1.2 0.0 1.0",
		"root 1.0; con/0=1 0.0 1.2 1.1", "root 1.2; con/2=3 1.1 1.0 0.0", "root 1.0; era 0.0; con/8=0 2.3 2.2 2.1 2.0", "root 1.0; con/0=0 0.0", "root 1.1; con/1=2 3.0 0.0 2.0 2.1; con/0=1 1.2 1.3; era 1.0",
		"root 1.0; num=5 0.0; op1/0=+,3 2.1 2.0", "root 1.0; era 0.0; mat/8=23,0,1,22 2.1 2.0", "root 1.0; ref/8=23 0.0; swi/0=0,23 2.1 2.0", "root 1.0; ref/2=3 0.0; con/1=1 2.1 2.0",
		"root 2.1; con/0=1 2.0; mat/0=7 1.0 0.0", "root 2.1; num=1 2.0; swi/1=3,4 1.0 0.0", "root 2.1; ref/0=0 2.0; mat/0=1,2,3 1.0 0.0", "root 2.1; num=3 2.0; fan/1 1.0 0.0 3.0; era 2.2",
		"root 2.2; lam/0 2.0 1.2 1.1; app/0 1.0 3.0 0.0; num=4 2.1", "root 1.1; lam/0 2.0 0.0 2.1; app/1 1.0 1.2 3.0; era 2.2",
		"root 3.2; num=1 3.0; num=2 3.1; op/0== 1.0 2.0 0.0", "root 2.1; num=7 2.0; op1/0==,1 1.0 0.0", "root 2.1; num=7 2.0; op1/8=-,-2147483648 1.0 0.0", "root 2.1; num=7 2.0; op1/3=/,2147483647 1.0 0.0",
		"root 3.2; num=1 3.0; num=2 3.1; op/0=/ 1.0 2.0 0.0", "root 3.2; num=1 3.0; num=2 3.1; op/8=< 1.0 2.0 0.0", "root 3.2; num=1 3.0; num=2 3.1; op/1=* 1.0 2.0 0.0", "root 2.1; num=7 2.0; op1/1=*,0 1.0 0.0", "root 2.1; num=7 2.0; op1/1=<,-1 1.0 0.0",
	}
}

// validNets are nets of all kinds.
func validNets() []impl.Net {
	var list []impl.Net
	for _, text := range netTexts() {
		list = append(list, netOf(text))
	}
	return slices.Concat(list, randomNets(1101, 150, 8), randomNets(1102, 20, 40), []impl.Net{widestNet(impl.MaxAgents)})
}

// widestNet returns a valid net of n agents, which is an even number.
func widestNet(n int) impl.Net {
	agents := []impl.Agent{{Kind: impl.KiRoot, Ports: make([]impl.Port, 1)}}
	for i := 1; i < n; i++ {
		agents = append(agents, impl.Agent{Kind: impl.KiNum, Value: int64(i), Ports: make([]impl.Port, 1)})
	}
	for i := 0; i+1 < n; i += 2 {
		join(agents, impl.Port{Agent: int64(i)}, impl.Port{Agent: int64(i + 1)})
	}
	return impl.Net{Agents: agents}
}

// disturbedNet returns a valid net with one thing changed, so that it is mostly not valid any more.
func disturbedNet(random *rand.Rand, n impl.Net) impl.Net {
	n = copiedNet(n)
	a := &n.Agents[random.Intn(len(n.Agents))]
	far := farNumbers()
	number := far[random.Intn(len(far))]
	switch random.Intn(9) {
	case 0:
		a.Kind = number
	case 1:
		a.Level = number
	case 2:
		a.Value = number
	case 3:
		a.Data = append(a.Data, number)
	case 4:
		a.Data = a.Data[:len(a.Data)/2]
	case 5:
		a.Ports = append(a.Ports, a.Ports[0])
	case 6:
		a.Ports = a.Ports[1:]
	case 7:
		p := &a.Ports[random.Intn(len(a.Ports))]
		p.Agent, p.Slot = []int64{p.Agent, number, p.Agent + 1}[random.Intn(3)], []int64{p.Slot, number, 1 - p.Slot}[random.Intn(3)]
	default:
		i, j := random.Intn(len(n.Agents)), random.Intn(len(n.Agents))
		n.Agents[i], n.Agents[j] = n.Agents[j], n.Agents[i]
	}
	return n
}

// wrongNets are nets that are not valid, each with one thing that is wrong.
func wrongNets() []impl.Net {
	texts := []string{
		"num=5 0.0", "root 0.0", "root 1.0", "root 0.0; era 1.0", "root 1.0; root 0.0", "num=5 1.0; root 0.0", "num=5 1.0; num=5 0.0", "root 1.0; era 0.0; root 3.0; era 2.0",
		"root 1.0; lam/0 0.0 1.1 1.2", "root 1.0; fan/0 0.0 1.2 1.2", "root 1.0; fan/0 0.0 1.1 1.1", "root 1.0; lam/0 1.0 1.2 1.1", "root 1.0; era 0.0; mat/0=1 2.0 2.1",
		"root 1.0; num=5 2.0; num=6 0.0", "root 1.0; num=5 0.0; num=6 0.0", "root 1.0; num=5 0.0; num=6 1.0", "root 2.0; num=5 0.0; num=6 0.0", "root 1.0; lam/0 0.0 1.2 0.0",
		"root -1.0; num=5 0.0", "root 1.-1; num=5 0.0", "root 2.0; num=5 0.0", "root 1.1; num=5 0.0", "root 1.0; num=5 0.1", "root 1.0; num=5 2.0", "root 9223372036854775807.0; num=5 0.0",
		"root 1.9223372036854775807; num=5 0.0", "root -9223372036854775808.0; num=5 0.0", "root 1.-9223372036854775808; num=5 0.0", "root 4294967297.0; num=5 0.0", "root 1.4294967296; num=5 0.0",
		"root; num=5 0.0", "root 1.0; num=5", "root 1.0 1.0; num=5 0.0", "root 1.0; num=5 0.0 0.0", "root 1.0; what 0.0", "root 1.0; era/1 0.0", "root/1 1.0; era 0.0", "root 1.0; num/1=5 0.0", "root 1.0; num/-1=5 0.0",
	}
	list := []impl.Net{{}, {Agents: []impl.Agent{{}}}, widestNet(impl.MaxAgents + 2), widestNet(5)}
	for _, text := range texts {
		list = append(list, netOf(text))
	}
	// A fan more, with a wire from port to port, makes the number of agents 601.
	one := widestNet(impl.MaxAgents)
	return append(list, impl.Net{Agents: append(one.Agents, agentOf("con/0=0 600.1 600.0"))})
}
