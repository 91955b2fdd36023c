package tests

import (
	"testing"

	"loop.example/watershares/impl"
)

// spring returns the first node of a channel.
func spring(loss int, room int) impl.Node {
	return impl.Node{Parent: -1, Loss: loss, Room: room}
}

// gate returns a node below another one that loses nothing and has room for all.
func gate(parent int, weight int) impl.Node {
	return impl.Node{Parent: parent, Weight: weight, Room: 500}
}

// place returns a node below another one.
func place(parent int, weight int, loss int, room int) impl.Node {
	return impl.Node{Parent: parent, Weight: weight, Loss: loss, Room: room}
}

// sameNodes reports whether two channels have the same nodes.
func sameNodes(a []impl.Node, b []impl.Node) bool {
	if len(a) != len(b) {
		return false
	}
	for i := range a {
		if a[i] != b[i] {
			return false
		}
	}
	return true
}

// copyNodes returns a copy of a channel.
func copyNodes(list []impl.Node) []impl.Node {
	return append([]impl.Node{}, list...)
}

// withWeightAt returns a channel with another weight for one of its nodes.
func withWeightAt(list []impl.Node, at int, weight int) []impl.Node {
	changed := copyNodes(list)
	changed[at].Weight = weight
	return changed
}

// withDelays returns a channel in which the nodes have some delays in turn.
func withDelays(list []impl.Node, delays ...int) []impl.Node {
	changed := copyNodes(list)
	for i := range changed {
		changed[i].Delay = delays[i%len(delays)]
	}
	return changed
}

// starOf returns a channel in which all nodes are kids of the spring, with some weights.
func starOf(weights ...int) []impl.Node {
	list := []impl.Node{spring(0, 500)}
	for _, w := range weights {
		list = append(list, gate(0, w))
	}
	return list
}

// lineOf returns a channel of so many nodes, one below the other, each of which loses some units and has some room.
func lineOf(nodes int, loss int, room int) []impl.Node {
	list := []impl.Node{spring(loss, room)}
	for len(list) < nodes {
		list = append(list, place(len(list)-1, 1, loss, room))
	}
	return list
}

// forkOf returns a channel of so many nodes, in which each node has two kids as long as there are any, with some weights in turn.
func forkOf(nodes int, weights ...int) []impl.Node {
	list := []impl.Node{spring(0, 500)}
	for len(list) < nodes {
		list = append(list, gate((len(list)-1)/2, weights[len(list)%len(weights)]))
	}
	return list
}

// valley returns a channel with losses, a narrow node, delays and a gate that is shut.
func valley() []impl.Node {
	return []impl.Node{
		{Parent: -1, Weight: 9, Loss: 3, Room: 400, Delay: 1}, {Parent: 0, Weight: 3, Loss: 2, Room: 50, Delay: 2}, {Parent: 0, Weight: 1, Room: 500, Delay: 5},
		{Parent: 1, Weight: 2, Loss: 1, Room: 20}, {Parent: 1, Room: 500, Delay: 20}, {Parent: 2, Weight: 1, Loss: 4, Room: 60, Delay: 7}, {Parent: 1, Weight: 1, Room: 500, Delay: 3}, {Parent: 5, Room: 10, Delay: 1},
	}
}

// fewChannels returns valid channels made by hand, those at the limits among them.
func fewChannels() [][]impl.Node {
	return [][]impl.Node{
		{spring(0, 500)}, {spring(0, 0)}, {spring(500, 500)}, {spring(499, 500)}, {spring(7, 500)}, {spring(0, 7)}, {spring(7, 7)}, {spring(250, 250)}, {spring(500, 0)},
		starOf(1), starOf(0), starOf(1000), starOf(1, 1), starOf(2, 1), starOf(1, 2), starOf(0, 0), starOf(0, 1), starOf(1, 0), starOf(1000, 1), starOf(1, 1000), starOf(0, 5, 0, 5),
		starOf(1, 1, 1, 1, 1, 1, 1, 1, 1, 1, 1), starOf(1, 2, 3, 4, 5, 6, 7, 8, 9, 10, 11), starOf(1000, 1000, 1000, 1000, 1000, 1000, 1000, 1000, 1000, 1000, 1000),
		starOf(0, 0, 0, 0, 0, 0, 0, 0, 0, 0, 0), starOf(0, 0, 0, 0, 0, 0, 0, 0, 0, 0, 1), starOf(999, 1, 998, 2, 997, 3),
		lineOf(2, 0, 500), lineOf(12, 0, 500), lineOf(12, 1, 500), lineOf(12, 40, 500), lineOf(12, 45, 500), lineOf(12, 42, 499), lineOf(2, 250, 500), lineOf(2, 250, 249), lineOf(12, 0, 1), lineOf(12, 10, 0), lineOf(5, 3, 10),
		forkOf(3, 1), forkOf(12, 1), forkOf(12, 1, 2), forkOf(12, 5, 0), forkOf(11, 3, 0, 2, 7), forkOf(12, 0), forkOf(7, 0, 1, 1),
		withDelays(lineOf(12, 0, 500), 20), withDelays(lineOf(12, 1, 30), 19, 20), withDelays(lineOf(10, 0, 500), 20), withDelays(forkOf(12, 1, 3), 0, 1, 5, 20), withDelays(starOf(3, 2, 1), 7, 0, 20), withDelays(starOf(1, 1), 0),
		{spring(2, 500), place(0, 1, 500, 500), place(0, 1, 0, 0), place(0, 1, 10, 10), place(3, 1, 3, 4), place(1, 1, 0, 500), place(2, 1, 0, 500)},
		{spring(0, 100), place(0, 1, 0, 30), gate(1, 0), gate(1, 0), gate(2, 1), gate(0, 2)},
		valley(),
	}
}

// madeNode returns a node without a pattern; most of its losses are small, some rooms are, and many weights are equal or 0.
func madeNode(d *dice, parent int) impl.Node {
	made := impl.Node{Parent: parent, Weight: d.roll(4), Loss: d.roll(6), Room: 500, Delay: d.roll(3)}
	switch d.roll(8) {
	case 0:
		made.Weight = d.roll(1001)
	case 1:
		made.Weight = 0
	case 2:
		made.Loss = d.roll(100)
	case 3:
		made.Room = d.roll(501)
	case 4:
		made.Room = d.roll(40)
	case 5:
		made.Delay = d.roll(21)
	}
	return made
}

// madeChannel returns a channel without a pattern.
func madeChannel(d *dice, nodes int) []impl.Node {
	list := []impl.Node{madeNode(d, -1)}
	wide := d.roll(2) == 0
	for len(list) < nodes {
		parent := d.roll(len(list))
		if wide {
			parent = parent / 3
		}
		list = append(list, madeNode(d, parent))
	}
	return list
}

// someChannels returns valid channels of many kinds.
func someChannels() [][]impl.Node {
	lists := fewChannels()
	d := &dice{seed: 11}
	for nodes := 1; nodes <= 12; nodes++ {
		for range 5 {
			lists = append(lists, madeChannel(d, nodes))
		}
	}
	return lists
}

// badChannels returns channels that are not valid.
func badChannels() [][]impl.Node {
	return [][]impl.Node{
		nil, {}, {gate(0, 1)}, {gate(1, 1)}, {gate(-2, 1)}, {gate(greatestInt, 1)}, {gate(leastInt, 1)},
		{spring(0, 500), spring(0, 500)}, {spring(0, 500), gate(1, 1)}, {spring(0, 500), gate(2, 1), gate(0, 1)}, {spring(0, 500), gate(0, 1), gate(2, 1)}, {spring(0, 500), gate(0, 1), gate(-1, 1)},
		{spring(0, 500), gate(-2, 1)}, {spring(0, 500), gate(greatestInt, 1)}, {spring(0, 500), gate(leastInt, 1)}, {gate(1, 1), spring(0, 500)}, {gate(0, 1), gate(0, 1)},
		{spring(-1, 500)}, {spring(501, 500)}, {spring(0, -1)}, {spring(0, 501)}, {spring(greatestInt, 500)}, {spring(leastInt, 500)}, {spring(0, greatestInt)}, {spring(0, leastInt)},
		{spring(0, 500), gate(0, -1)}, {spring(0, 500), gate(0, 1001)}, {spring(0, 500), gate(0, greatestInt)}, {spring(0, 500), gate(0, leastInt)}, {{Parent: -1, Weight: 1001, Room: 500}}, {{Parent: -1, Weight: -1, Room: 500}},
		{spring(0, 500), place(0, 1, -1, 500)}, {spring(0, 500), place(0, 1, 501, 500)}, {spring(0, 500), place(0, 1, 0, -1)}, {spring(0, 500), place(0, 1, 0, 501)},
		{{Parent: -1, Room: 500, Delay: -1}}, {{Parent: -1, Room: 500, Delay: 21}}, {spring(0, 500), {Parent: 0, Room: 500, Delay: 21}}, {spring(0, 500), {Parent: 0, Room: 500, Delay: -1}}, {{Parent: -1, Delay: greatestInt}}, {{Parent: -1, Delay: leastInt}},
		lineOf(13, 0, 500), forkOf(13, 1), lineOf(100, 0, 500), starOf(1, 1, 1, 1, 1, 1, 1, 1, 1, 1, 1, 1), append(lineOf(11, 0, 500), gate(11, 1)), append(lineOf(11, 0, 500), gate(0, 1001)),
	}
}

// badNodes returns numbers that are no indices of nodes of a channel.
func badNodes(list []impl.Node) []int {
	return []int{-1, -2, len(list), len(list) + 1, 12, 500, greatestInt, leastInt}
}

// kidsIn returns the nodes of a channel whose parent is a node.
func kidsIn(list []impl.Node, at int) []int {
	kids := []int{}
	for i := 1; i < len(list); i++ {
		if list[i].Parent == at {
			kids = append(kids, i)
		}
	}
	return kids
}

// leavesIn returns the nodes of a channel that are no parents.
func leavesIn(list []impl.Node) []int {
	parents := []int{}
	for _, n := range list {
		parents = append(parents, n.Parent)
	}
	return numbersWithout(indices(len(list)), parents)
}

// pathsIn returns the path to each node, from the spring down.
func pathsIn(list []impl.Node) [][]int {
	paths := [][]int{{0}}
	for i := 1; i < len(list); i++ {
		paths = append(paths, append(copyOf(paths[list[i].Parent]), i))
	}
	return paths
}

// delaysIn returns the delay to each node, from the spring down.
func delaysIn(list []impl.Node) []int {
	delays := []int{list[0].Delay}
	for i := 1; i < len(list); i++ {
		delays = append(delays, delays[list[i].Parent]+list[i].Delay)
	}
	return delays
}

// tally tells what came to each node, what passed it, and what was lost in all.
type tally struct {
	come []int
	pass []int
	lost int
}

// next returns the kid to which the next unit goes that passes a node, -1 if there is none with a weight.
func (c tally) next(list []impl.Node, at int) int {
	best := -1
	for _, kid := range kidsIn(list, at) {
		if list[kid].Weight == 0 {
			continue
		}
		if best == -1 || (2*c.come[kid]+1)*list[best].Weight < (2*c.come[best]+1)*list[kid].Weight {
			best = kid
		}
	}
	return best
}

// stopsAt returns whether the unit that has just come to a node is lost there or spills.
func (c tally) stopsAt(n impl.Node, at int) bool {
	return c.come[at] <= n.Loss || c.pass[at] == n.Room
}

// afterUnit returns the tally after one unit more went down from the spring, node by node.
func (c tally) afterUnit(list []impl.Node) tally {
	after := tally{come: copyOf(c.come), pass: copyOf(c.pass), lost: c.lost}
	at := 0
	for {
		after.come[at]++
		if after.stopsAt(list[at], at) {
			after.lost++
			return after
		}
		after.pass[at]++
		if len(kidsIn(list, at)) == 0 {
			return after
		}
		at = after.next(list, at)
		if at == -1 {
			after.lost++
			return after
		}
	}
}

// talliesOf tells for all flows, from 0 to 500 units, where they go, unit by unit, instead of node by node.
func talliesOf(list []impl.Node) []tally {
	tallies := []tally{{come: make([]int, len(list)), pass: make([]int, len(list))}}
	for len(tallies) <= 500 {
		tallies = append(tallies, tallies[len(tallies)-1].afterUnit(list))
	}
	return tallies
}

// passedAt returns what passes a node with each flow.
func passedAt(tallies []tally, at int) []int {
	list := []int{}
	for _, c := range tallies {
		list = append(list, c.pass[at])
	}
	return list
}

// firstWith returns the index of the first number of at least amount, -1 if there is none.
func firstWith(list []int, amount int) int {
	for i, n := range list {
		if n >= amount {
			return i
		}
	}
	return -1
}

// someHours returns flows of so many hours, without a pattern, some of them 0 or 500.
func someHours(d *dice, hours int) []int {
	flows := []int{}
	for range hours {
		switch d.roll(6) {
		case 0:
			flows = append(flows, 0)
		case 1:
			flows = append(flows, 500)
		default:
			flows = append(flows, d.roll(501))
		}
	}
	return flows
}

// checkList checks a list of numbers against the one that is expected.
func checkList(t *testing.T, name string, list []impl.Node, got []int, want []int) {
	t.Helper()
	if !sameList(got, want) {
		t.Errorf("%s of %v = %v, not %v", name, list, got, want)
	}
}
