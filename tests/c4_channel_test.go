package tests

import (
	"testing"

	"loop.example/watershares/impl"
)

func TestValidNodes(t *testing.T) {
	for _, list := range someChannels() {
		if !impl.ValidNodes(list) {
			t.Errorf("ValidNodes(%v) = false", list)
		}
	}
	for _, list := range badChannels() {
		if impl.ValidNodes(list) {
			t.Errorf("ValidNodes(%v) = true", list)
		}
	}
}

// checkChanged checks whether a channel is valid with another node in the place of one of its own.
func checkChanged(t *testing.T, list []impl.Node, at int, n impl.Node, fine bool) {
	t.Helper()
	changed := copyNodes(list)
	changed[at] = n
	if impl.ValidNodes(changed) != fine {
		t.Errorf("ValidNodes(%v) is not %v", changed, fine)
	}
}

func TestValidNodesOfChangedNodes(t *testing.T) {
	for _, list := range someChannels() {
		for at, n := range list {
			for _, number := range []int{-2, -1, 0, 1, 2, at - 1, at, at + 1, 10, 11, 12, 20, 21, 499, 500, 501, 999, 1000, 1001, greatestInt, leastInt} {
				changed := n
				changed.Parent = number
				checkChanged(t, list, at, changed, at == 0 && number == -1 || number >= 0 && number < at)
				changed = n
				changed.Weight = number
				checkChanged(t, list, at, changed, number >= 0 && number <= 1000)
				changed = n
				changed.Loss = number
				checkChanged(t, list, at, changed, number >= 0 && number <= 500)
				changed = n
				changed.Room = number
				checkChanged(t, list, at, changed, number >= 0 && number <= 500)
				changed = n
				changed.Delay = number
				checkChanged(t, list, at, changed, number >= 0 && number <= 20)
			}
		}
	}
}

func TestLimitOfNodes(t *testing.T) {
	list := []impl.Node{{Parent: -1, Weight: 1000, Loss: 500, Room: 500, Delay: 20}}
	for nodes := 1; nodes <= 14; nodes++ {
		if impl.ValidNodes(list) != (nodes <= 12) {
			t.Errorf("ValidNodes of %d nodes is not %v", nodes, nodes <= 12)
		}
		list = append(list, impl.Node{Parent: nodes - 1, Weight: 1000, Loss: 500, Room: 500, Delay: 20})
	}
}

func TestKidsPathsAndLeaves(t *testing.T) {
	for _, list := range someChannels() {
		paths := pathsIn(list)
		delays := delaysIn(list)
		for at := range list {
			checkList(t, "KidsOf", list, impl.KidsOf(list, at), kidsIn(list, at))
			checkList(t, "PathTo", list, impl.PathTo(list, at), paths[at])
			if delay := impl.DelayTo(list, at); delay != delays[at] {
				t.Errorf("DelayTo(%v, %d) = %d, not %d", list, at, delay, delays[at])
			}
		}
		checkList(t, "LeavesOf", list, impl.LeavesOf(list), leavesIn(list))
	}
}

func TestTreesByHand(t *testing.T) {
	list := valley()
	checkList(t, "KidsOf 0", list, impl.KidsOf(list, 0), []int{1, 2})
	checkList(t, "KidsOf 1", list, impl.KidsOf(list, 1), []int{3, 4, 6})
	checkList(t, "KidsOf 7", list, impl.KidsOf(list, 7), nil)
	checkList(t, "PathTo 7", list, impl.PathTo(list, 7), []int{0, 2, 5, 7})
	checkList(t, "PathTo 0", list, impl.PathTo(list, 0), []int{0})
	checkList(t, "LeavesOf", list, impl.LeavesOf(list), []int{3, 4, 6, 7})
	if impl.DelayTo(list, 0) != 1 || impl.DelayTo(list, 4) != 23 || impl.DelayTo(list, 7) != 14 {
		t.Error("DelayTo by hand")
	}
	line := withDelays(lineOf(12, 0, 500), 20)
	checkList(t, "PathTo the end of a line", line, impl.PathTo(line, 11), indices(12))
	checkList(t, "LeavesOf a line", line, impl.LeavesOf(line), []int{11})
	if impl.DelayTo(line, 11) != 240 {
		t.Errorf("the greatest delay is %d", impl.DelayTo(line, 11))
	}
	alone := []impl.Node{spring(0, 500)}
	checkList(t, "LeavesOf the spring alone", alone, impl.LeavesOf(alone), []int{0})
	checkList(t, "KidsOf the spring alone", alone, impl.KidsOf(alone, 0), nil)
}

// checkNoNode checks what is told of a number that is no index of a node, or of a channel that is not valid.
func checkNoNode(t *testing.T, list []impl.Node, at int) {
	t.Helper()
	if len(impl.KidsOf(list, at)) != 0 || len(impl.PathTo(list, at)) != 0 || impl.DelayTo(list, at) != -1 {
		t.Errorf("%v has a node %d", list, at)
	}
	for _, amount := range []int{0, 1, -1, 500, leastInt} {
		if need := impl.NeedFor(list, at, amount); need != -1 {
			t.Errorf("NeedFor(%v, %d, %d) = %d", list, at, amount, need)
		}
	}
	for _, weight := range []int{0, 1, 1000} {
		if len(impl.SetGate(list, at, weight)) != 0 {
			t.Errorf("SetGate(%v, %d, %d) is a channel", list, at, weight)
		}
	}
	if len(impl.ArriveAt(list, at, []int{1, 2, 500})) != 0 || len(impl.ArriveAt(list, at, nil)) != 0 {
		t.Errorf("ArriveAt(%v, %d) is a list", list, at)
	}
}

func TestOtherNodes(t *testing.T) {
	for _, list := range someChannels() {
		for _, at := range badNodes(list) {
			checkNoNode(t, list, at)
		}
	}
}

func TestOtherChannels(t *testing.T) {
	for _, list := range badChannels() {
		for _, at := range append(badNodes(list), 0, 1, 2) {
			checkNoNode(t, list, at)
		}
		if len(impl.LeavesOf(list)) != 0 {
			t.Errorf("LeavesOf(%v) = %v", list, impl.LeavesOf(list))
		}
		for _, flow := range []int{0, 1, 250, 500} {
			checkNoFlow(t, list, flow)
		}
	}
}

// checkNoFlow checks that there are no flows of a channel.
func checkNoFlow(t *testing.T, list []impl.Node, flow int) {
	t.Helper()
	if len(impl.FlowsOf(list, flow)) != 0 || len(impl.PassedOf(list, flow)) != 0 || impl.LostIn(list, flow) != -1 {
		t.Errorf("%v has flows of %d", list, flow)
	}
}

func TestOtherFlows(t *testing.T) {
	for _, list := range someChannels() {
		for _, flow := range badCounts() {
			checkNoFlow(t, list, flow)
		}
	}
}

func TestFlowsUnitByUnit(t *testing.T) {
	spills := 0
	for _, list := range someChannels() {
		for flow, c := range talliesOf(list) {
			checkList(t, "FlowsOf", list, impl.FlowsOf(list, flow), c.come)
			checkList(t, "PassedOf", list, impl.PassedOf(list, flow), c.pass)
			if lost := impl.LostIn(list, flow); lost != c.lost {
				t.Errorf("LostIn(%v, %d) = %d, not %d", list, flow, lost, c.lost)
			}
			if c.lost > 0 && c.lost < flow {
				spills++
			}
		}
	}
	if spills < 10000 {
		t.Errorf("only %d flows are lost in part", spills)
	}
}

func TestFlowsByRankings(t *testing.T) {
	for _, list := range someChannels() {
		for _, flow := range []int{0, 1, 2, 7, 13, 20} {
			come := impl.FlowsOf(list, flow)
			passed := impl.PassedOf(list, flow)
			for at := range list {
				weights := []int{}
				given := []int{}
				for _, kid := range kidsIn(list, at) {
					weights = append(weights, list[kid].Weight)
					given = append(given, come[kid])
				}
				if total(weights) > 0 {
					checkList(t, "the division of FlowsOf", list, given, averageSplit(passed[at], weights, 2))
				}
			}
		}
	}
}

// flowCase is a channel and a flow, with what comes to each node, what passes it, and what is lost in all.
type flowCase struct {
	list []impl.Node
	flow int
	come []int
	pass []int
	lost int
}

// checkFlow checks the flows of a case.
func checkFlow(t *testing.T, c flowCase) {
	t.Helper()
	checkList(t, "FlowsOf", c.list, impl.FlowsOf(c.list, c.flow), c.come)
	checkList(t, "PassedOf", c.list, impl.PassedOf(c.list, c.flow), c.pass)
	if lost := impl.LostIn(c.list, c.flow); lost != c.lost {
		t.Errorf("LostIn(%v, %d) = %d, not %d", c.list, c.flow, lost, c.lost)
	}
}

func TestFlowsByHand(t *testing.T) {
	cases := []flowCase{
		{[]impl.Node{spring(0, 500)}, 500, []int{500}, []int{500}, 0},
		{[]impl.Node{spring(0, 500)}, 0, []int{0}, []int{0}, 0},
		{starOf(3, 2, 1), 12, []int{12, 6, 4, 2}, []int{12, 6, 4, 2}, 0},
		// Of equal averages the first kid has the unit.
		{starOf(1, 1), 7, []int{7, 4, 3}, []int{7, 4, 3}, 0},
		{starOf(1, 3), 2, []int{2, 1, 1}, []int{2, 1, 1}, 0},
		{starOf(1, 4), 2, []int{2, 0, 2}, []int{2, 0, 2}, 0},
		{starOf(3, 1), 2, []int{2, 2, 0}, []int{2, 2, 0}, 0},
		// By the averages of SplitByHighest the first kid would have all three units.
		{starOf(9, 2), 3, []int{3, 2, 1}, []int{3, 2, 1}, 0},
		{valley(), 100, []int{100, 73, 24, 33, 0, 24, 17, 0}, []int{97, 50, 24, 20, 0, 20, 17, 0}, 63},
	}
	for _, c := range cases {
		checkFlow(t, c)
	}
}

func TestLossesGreaterThanTheFlow(t *testing.T) {
	for _, loss := range []int{0, 1, 2, 30, 499, 500} {
		list := []impl.Node{spring(loss, 500), gate(0, 1)}
		for flow := range 501 {
			passed := max(0, flow-loss)
			checkFlow(t, flowCase{list, flow, []int{flow, passed}, []int{passed, passed}, min(flow, loss)})
		}
	}
	checkFlow(t, flowCase{lineOf(3, 10, 500), 15, []int{15, 5, 0}, []int{5, 0, 0}, 15})
	checkFlow(t, flowCase{lineOf(3, 10, 500), 20, []int{20, 10, 0}, []int{10, 0, 0}, 20})
	checkFlow(t, flowCase{lineOf(3, 10, 500), 31, []int{31, 21, 11}, []int{21, 11, 1}, 30})
}

func TestRoomsThatSpill(t *testing.T) {
	for _, room := range []int{0, 1, 2, 30, 499, 500} {
		list := []impl.Node{spring(0, room), gate(0, 1)}
		for flow := range 501 {
			passed := min(flow, room)
			checkFlow(t, flowCase{list, flow, []int{flow, passed}, []int{passed, passed}, flow - passed})
		}
	}
	// What is lost comes before what spills: the room is for the rest alone.
	checkFlow(t, flowCase{[]impl.Node{spring(5, 10)}, 15, []int{15}, []int{10}, 5})
	checkFlow(t, flowCase{[]impl.Node{spring(5, 10)}, 14, []int{14}, []int{9}, 5})
	checkFlow(t, flowCase{[]impl.Node{spring(5, 10)}, 16, []int{16}, []int{10}, 6})
	// What spills at one kid does not go to another one.
	checkFlow(t, flowCase{[]impl.Node{spring(0, 500), place(0, 1, 0, 3), gate(0, 1)}, 20, []int{20, 10, 10}, []int{20, 3, 10}, 7})
	checkFlow(t, flowCase{[]impl.Node{spring(0, 500), place(0, 1, 0, 0), gate(0, 1), gate(1, 1)}, 20, []int{20, 10, 10, 0}, []int{20, 0, 10, 0}, 10})
}

func TestGatesThatAreShut(t *testing.T) {
	// What passes a node is lost if it has kids, and all are shut.
	checkFlow(t, flowCase{starOf(0), 30, []int{30, 0}, []int{30, 0}, 30})
	checkFlow(t, flowCase{starOf(0, 0, 0), 30, []int{30, 0, 0, 0}, []int{30, 0, 0, 0}, 30})
	checkFlow(t, flowCase{starOf(0, 1, 0), 30, []int{30, 0, 30, 0}, []int{30, 0, 30, 0}, 0})
	checkFlow(t, flowCase{starOf(1, 0), 30, []int{30, 30, 0}, []int{30, 30, 0}, 0})
	list := []impl.Node{spring(1, 500), place(0, 1, 2, 10), gate(0, 1), gate(1, 0), gate(1, 0), gate(3, 1)}
	checkFlow(t, flowCase{list, 31, []int{31, 15, 15, 0, 0, 0}, []int{30, 10, 15, 0, 0, 0}, 16})
	// The spring has no gate: its weight is not looked at.
	for _, weight := range []int{0, 1, 1000} {
		checkFlow(t, flowCase{withWeightAt(starOf(1, 2), 0, weight), 9, []int{9, 3, 6}, []int{9, 3, 6}, 0})
	}
	// What passes the parent of a gate that is shut is lost there, and nothing comes further down.
	checkFlow(t, flowCase{withWeightAt(lineOf(3, 0, 500), 2, 0), 9, []int{9, 9, 0}, []int{9, 9, 0}, 9})
	checkFlow(t, flowCase{withWeightAt(lineOf(3, 0, 500), 1, 0), 9, []int{9, 0, 0}, []int{9, 0, 0}, 9})
}

func TestNeedFor(t *testing.T) {
	reached := 0
	missed := 0
	for _, list := range someChannels() {
		tallies := talliesOf(list)
		for at := range list {
			passed := passedAt(tallies, at)
			for _, amount := range []int{leastInt, -500, -1, 0, 1, 2, 3, 7, 20, 100, 250, passed[500] - 1, passed[500], passed[500] + 1, 499, 500, 501, greatestInt} {
				want := firstWith(passed, amount)
				if need := impl.NeedFor(list, at, amount); need != want {
					t.Errorf("NeedFor(%v, %d, %d) = %d, not %d", list, at, amount, need, want)
				}
				if want > 0 {
					reached++
				} else if want == -1 {
					missed++
				}
			}
		}
	}
	if reached < 2000 || missed < 2000 {
		t.Errorf("only %d amounts can be reached, and %d cannot", reached, missed)
	}
}

func TestNeedForEachAmount(t *testing.T) {
	for _, list := range [][]impl.Node{valley(), {spring(0, 500)}, {spring(3, 490)}, lineOf(12, 40, 500), starOf(1, 3, 2), forkOf(12, 1, 2)} {
		tallies := talliesOf(list)
		for at := range list {
			passed := passedAt(tallies, at)
			for amount := -2; amount <= 502; amount++ {
				if need := impl.NeedFor(list, at, amount); need != firstWith(passed, amount) {
					t.Errorf("NeedFor(%v, %d, %d) = %d", list, at, amount, need)
				}
			}
		}
	}
}

func TestNeedsByHand(t *testing.T) {
	alone := []impl.Node{spring(0, 500)}
	if impl.NeedFor(alone, 0, 500) != 500 || impl.NeedFor(alone, 0, 501) != -1 || impl.NeedFor(alone, 0, 1) != 1 || impl.NeedFor(alone, 0, 0) != 0 || impl.NeedFor(alone, 0, leastInt) != 0 || impl.NeedFor(alone, 0, greatestInt) != -1 {
		t.Error("NeedFor of the spring alone")
	}
	if impl.NeedFor(starOf(0, 1), 1, 1) != -1 || impl.NeedFor(starOf(0, 1), 1, 0) != 0 || impl.NeedFor(starOf(0, 1), 2, 500) != 500 || impl.NeedFor(starOf(0, 0), 0, 500) != 500 {
		t.Error("NeedFor with gates that are shut")
	}
	if impl.NeedFor([]impl.Node{spring(499, 500)}, 0, 1) != 500 || impl.NeedFor([]impl.Node{spring(500, 500)}, 0, 1) != -1 || impl.NeedFor([]impl.Node{spring(5, 10)}, 0, 10) != 15 || impl.NeedFor([]impl.Node{spring(5, 10)}, 0, 11) != -1 {
		t.Error("NeedFor with losses and rooms")
	}
	// The third unit is the first one of the second kid.
	if impl.NeedFor(starOf(9, 2), 2, 1) != 3 || impl.NeedFor(starOf(9, 2), 1, 3) != 4 {
		t.Error("NeedFor of kids")
	}
}

func TestSetGate(t *testing.T) {
	for _, list := range someChannels() {
		for at := range list {
			for _, weight := range []int{0, 1, 2, 500, 501, 999, 1000} {
				changed := impl.SetGate(list, at, weight)
				if !sameNodes(changed, withWeightAt(list, at, weight)) {
					t.Errorf("SetGate(%v, %d, %d) = %v", list, at, weight, changed)
				}
			}
			for _, weight := range []int{-1, 1001, -1000, greatestInt, leastInt} {
				if changed := impl.SetGate(list, at, weight); len(changed) != 0 {
					t.Errorf("SetGate(%v, %d, %d) = %v", list, at, weight, changed)
				}
			}
		}
	}
}

// arrivals returns what ArriveAt should return, by what passes the node with each flow.
func arrivals(passed []int, delay int, flows []int) []int {
	list := append(make([]int, delay), make([]int, len(flows))...)
	for i, flow := range flows {
		list[i+delay] = passed[flow]
	}
	return list[:len(flows)]
}

func TestArriveAt(t *testing.T) {
	d := &dice{seed: 23}
	for _, list := range someChannels() {
		tallies := talliesOf(list)
		delays := delaysIn(list)
		for at := range list {
			passed := passedAt(tallies, at)
			for _, hours := range []int{0, 1, 2, delays[at], delays[at] + 1, 20, 50} {
				flows := someHours(d, min(hours, 200))
				checkList(t, "ArriveAt", list, impl.ArriveAt(list, at, flows), arrivals(passed, delays[at], flows))
			}
		}
		last := len(list) - 1
		flows := someHours(d, 200)
		checkList(t, "ArriveAt", list, impl.ArriveAt(list, last, flows), arrivals(passedAt(tallies, last), delays[last], flows))
	}
}

func TestArrivalsByHand(t *testing.T) {
	list := withDelays(starOf(2, 1), 1, 0, 3)
	checkList(t, "ArriveAt 0", list, impl.ArriveAt(list, 0, []int{3, 6, 9}), []int{0, 3, 6})
	checkList(t, "ArriveAt 1", list, impl.ArriveAt(list, 1, []int{3, 6, 9}), []int{0, 2, 4})
	checkList(t, "ArriveAt 2", list, impl.ArriveAt(list, 2, []int{3, 6, 9, 0, 0, 0, 0}), []int{0, 0, 0, 0, 1, 2, 3})
	checkList(t, "ArriveAt 2", list, impl.ArriveAt(list, 2, []int{3, 6, 9, 0}), []int{0, 0, 0, 0})
	checkList(t, "ArriveAt no hours", list, impl.ArriveAt(list, 2, nil), nil)
	alone := []impl.Node{spring(1, 4)}
	checkList(t, "ArriveAt", alone, impl.ArriveAt(alone, 0, []int{0, 1, 2, 5, 6, 500}), []int{0, 0, 1, 4, 4, 4})
}

func TestLimitsOfArriveAt(t *testing.T) {
	alone := []impl.Node{spring(0, 500)}
	flows := someHours(&dice{seed: 29}, 200)
	checkList(t, "ArriveAt of 200 hours", alone, impl.ArriveAt(alone, 0, flows), flows)
	for _, more := range [][]int{append(copyOf(flows), 0), append(copyOf(flows), 500), append(copyOf(flows), flows...), make([]int, 201), make([]int, 5000)} {
		if got := impl.ArriveAt(alone, 0, more); len(got) != 0 {
			t.Errorf("ArriveAt of %d hours = %v", len(more), got)
		}
	}
	// The delay of 240 hours is longer than all hours, and the one of 200 is as long.
	for nodes := 10; nodes <= 12; nodes++ {
		line := withDelays(lineOf(nodes, 0, 500), 20)
		checkList(t, "ArriveAt after all hours", line, impl.ArriveAt(line, nodes-1, flows), make([]int, 200))
	}
	line := withDelays(lineOf(10, 0, 500), 20)
	line[9].Delay = 19
	checkList(t, "ArriveAt in the last hour", line, impl.ArriveAt(line, 9, flows), append(make([]int, 199), flows[0]))
}

func TestOtherHours(t *testing.T) {
	lists := [][]impl.Node{{spring(0, 500)}, valley(), withDelays(starOf(1, 1), 20)}
	for _, list := range lists {
		for at := range list {
			for _, bad := range badCounts() {
				for _, flows := range [][]int{{bad}, {bad, 1}, {1, bad}, {1, 2, bad, 3}, append(make([]int, 199), bad), append([]int{bad}, make([]int, 199)...)} {
					if got := impl.ArriveAt(list, at, flows); len(got) != 0 {
						t.Errorf("ArriveAt(%v, %d, %v) = %v", list, at, flows, got)
					}
				}
			}
		}
	}
}

// spoilNodes writes over a channel, and into spare memory behind it.
func spoilNodes(list []impl.Node) {
	for i := range list {
		list[i] = place(-99, -99, -99, -99)
	}
	longer := append(list, place(-99, -99, -99, -99), place(-99, -99, -99, -99))
	longer[0] = place(-99, -99, -99, -99)
}

func TestChannelsAreNewMemory(t *testing.T) {
	for _, list := range fewChannels() {
		store := append(copyNodes(list), gate(77, 77), gate(78, 78))
		want := copyNodes(store)
		part := store[:len(list)]
		hours := []int{5, 500, 7, 77, 78}
		for at := range list {
			spoil(impl.KidsOf(part, at))
			spoil(impl.PathTo(part, at))
			spoilNodes(impl.SetGate(part, at, 5))
			spoilNodes(impl.SetGate(part, at, list[at].Weight))
			spoil(impl.ArriveAt(part, at, hours[:3]))
			impl.DelayTo(part, at)
			impl.NeedFor(part, at, 3)
		}
		spoil(impl.LeavesOf(part))
		spoil(impl.FlowsOf(part, 100))
		spoil(impl.PassedOf(part, 100))
		impl.LostIn(part, 100)
		if !sameNodes(store, want) || !isList(hours, 5, 500, 7, 77, 78) {
			t.Errorf("arguments were written to: %v, %v", store, hours)
		}
	}
}

func TestAnswersOfChannelsShareNothing(t *testing.T) {
	list := valley()
	kids := impl.KidsOf(list, 0)
	spoil(impl.KidsOf(list, 0))
	path := impl.PathTo(list, 7)
	spoil(impl.PathTo(list, 7))
	come := impl.FlowsOf(list, 100)
	passed := impl.PassedOf(list, 100)
	spoil(impl.FlowsOf(list, 100))
	spoil(impl.PassedOf(list, 100))
	checkList(t, "KidsOf", list, kids, []int{1, 2})
	checkList(t, "PathTo", list, path, []int{0, 2, 5, 7})
	checkList(t, "FlowsOf", list, come, []int{100, 73, 24, 33, 0, 24, 17, 0})
	checkList(t, "PassedOf", list, passed, []int{97, 50, 24, 20, 0, 20, 17, 0})
}
