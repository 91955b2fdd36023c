package tests

import (
	"testing"

	"loop.example/watershares/impl"
)

func TestP50ChannelsCanBeShortened(t *testing.T) {
	for _, list := range someChannels() {
		for nodes := 1; nodes <= len(list); nodes++ {
			first := list[:nodes]
			if !impl.ValidNodes(first) {
				t.Fatalf("ValidNodes(%v) = false", first)
			}
			for at := range first {
				checkList(t, "PathTo", first, impl.PathTo(first, at), impl.PathTo(list, at))
			}
			checkNoNode(t, first, nodes)
		}
		if impl.ValidNodes(list[:0]) {
			t.Error("ValidNodes without nodes")
		}
	}
}

func TestP51EachNodeHasOneParent(t *testing.T) {
	for _, list := range someChannels() {
		times := make([]int, len(list))
		for at := range list {
			last := at
			for _, kid := range impl.KidsOf(list, at) {
				if kid <= last || kid >= len(list) || list[kid].Parent != at {
					t.Fatalf("KidsOf(%v, %d) = %v", list, at, impl.KidsOf(list, at))
				}
				times[kid]++
				last = kid
			}
		}
		want := make([]int, len(list))
		for i := 1; i < len(want); i++ {
			want[i] = 1
		}
		checkList(t, "how often each node is one of KidsOf", list, times, want)
	}
}

func TestP52PathsBeginAtTheSpring(t *testing.T) {
	for _, list := range someChannels() {
		for at := range list {
			path := impl.PathTo(list, at)
			if len(path) == 0 || path[0] != 0 || path[len(path)-1] != at {
				t.Fatalf("PathTo(%v, %d) = %v", list, at, path)
			}
			sum := list[0].Delay
			for i := 1; i < len(path); i++ {
				if !isOneOf(path[i], impl.KidsOf(list, path[i-1])) {
					t.Fatalf("PathTo(%v, %d) = %v", list, at, path)
				}
				sum += list[path[i]].Delay
			}
			if impl.DelayTo(list, at) != sum {
				t.Errorf("DelayTo(%v, %d) = %d, not %d", list, at, impl.DelayTo(list, at), sum)
			}
		}
	}
}

func TestP53WaterComesLaterFurtherDown(t *testing.T) {
	later := 0
	for _, list := range someChannels() {
		if impl.DelayTo(list, 0) != list[0].Delay {
			t.Errorf("DelayTo(%v, 0) = %d", list, impl.DelayTo(list, 0))
		}
		for at := 1; at < len(list); at++ {
			above := impl.DelayTo(list, list[at].Parent)
			delay := impl.DelayTo(list, at)
			if delay != above+list[at].Delay || delay < 0 {
				t.Errorf("DelayTo(%v, %d) = %d, and %d to its parent", list, at, delay, above)
			}
			if delay > above {
				later++
			}
		}
	}
	if later < 100 {
		t.Errorf("only %d nodes have a delay", later)
	}
}

func TestP54LeavesHaveNoKids(t *testing.T) {
	for _, list := range someChannels() {
		want := []int{}
		for at := range list {
			if len(impl.KidsOf(list, at)) == 0 {
				want = append(want, at)
			}
		}
		leaves := impl.LeavesOf(list)
		checkList(t, "LeavesOf", list, leaves, want)
		if !isOneOf(len(list)-1, leaves) {
			t.Errorf("LeavesOf(%v) = %v, without the last node", list, leaves)
		}
	}
}

// kidsGet returns the sum of what comes to the kids of a node, and the sum of their weights.
func kidsGet(list []impl.Node, at int, come []int) (int, int) {
	sum := 0
	weights := 0
	for _, kid := range kidsIn(list, at) {
		sum += come[kid]
		weights += list[kid].Weight
	}
	return sum, weights
}

func TestP55WaterIsDividedNotMade(t *testing.T) {
	shut := 0
	open := 0
	for _, list := range someChannels() {
		for _, flow := range someCounts() {
			come := impl.FlowsOf(list, flow)
			passed := impl.PassedOf(list, flow)
			if len(come) != len(list) || len(passed) != len(list) || come[0] != flow {
				t.Fatalf("FlowsOf(%v, %d) = %v", list, flow, come)
			}
			for at := range list {
				got, weights := kidsGet(list, at, come)
				if weights > 0 && got != passed[at] || weights == 0 && got != 0 {
					t.Errorf("FlowsOf(%v, %d) = %v, of which %d pass %d", list, flow, come, passed[at], at)
				}
				if weights > 0 && got > 0 {
					open++
				} else if passed[at] > 0 && len(kidsIn(list, at)) > 0 {
					shut++
				}
			}
		}
	}
	if shut < 200 || open < 3000 {
		t.Errorf("only %d times all gates are shut, and %d times water is divided", shut, open)
	}
}

// isStep reports whether no number is less than in another list, or greater by more than 1.
func isStep(more []int, list []int) bool {
	if len(more) != len(list) {
		return false
	}
	for i := range list {
		if more[i] < list[i] || more[i] > list[i]+1 {
			return false
		}
	}
	return true
}

func TestP56MoreWaterTakesNothingAway(t *testing.T) {
	for _, list := range someChannels() {
		come := impl.FlowsOf(list, 0)
		passed := impl.PassedOf(list, 0)
		checkList(t, "FlowsOf no units", list, come, make([]int, len(list)))
		checkList(t, "PassedOf no units", list, passed, make([]int, len(list)))
		for flow := 1; flow <= 500; flow++ {
			nextCome := impl.FlowsOf(list, flow)
			nextPassed := impl.PassedOf(list, flow)
			if !isStep(nextCome, come) || !isStep(nextPassed, passed) {
				t.Fatalf("FlowsOf(%v, %d) = %v after %v, and PassedOf %v after %v", list, flow, nextCome, come, nextPassed, passed)
			}
			come = nextCome
			passed = nextPassed
		}
	}
}

func TestP57AllWaterIsDeliveredOrLost(t *testing.T) {
	for _, list := range someChannels() {
		for flow := range 501 {
			passed := impl.PassedOf(list, flow)
			sum := impl.LostIn(list, flow)
			if sum < 0 {
				t.Fatalf("LostIn(%v, %d) = %d", list, flow, sum)
			}
			for _, leaf := range impl.LeavesOf(list) {
				sum += passed[leaf]
			}
			if sum != flow {
				t.Errorf("%d of %d units are delivered or lost in %v", sum, flow, list)
			}
		}
	}
}

func TestP58LossesComeFirst(t *testing.T) {
	all := 0
	spilled := 0
	for _, list := range someChannels() {
		for _, flow := range someCounts() {
			come := impl.FlowsOf(list, flow)
			passed := impl.PassedOf(list, flow)
			for at, n := range list {
				if passed[at] != min(n.Room, max(0, come[at]-n.Loss)) {
					t.Errorf("PassedOf(%v, %d) = %v, and %v come", list, flow, passed, come)
				}
				if come[at] > 0 && come[at] <= n.Loss {
					all++
				} else if come[at]-n.Loss > n.Room {
					spilled++
				}
			}
		}
	}
	if all < 500 || spilled < 300 {
		t.Errorf("only %d times all is lost, and %d times some spills", all, spilled)
	}
}

// askedAmounts returns amounts, those at the limits of what passes a node among them.
func askedAmounts(most int) []int {
	return []int{-5, 0, 1, 2, 5, 19, most / 2, most - 1, most, most + 1, 500, 501}
}

func TestP59TheLeastFlowIsEnough(t *testing.T) {
	enough := 0
	for _, list := range someChannels() {
		for at := range list {
			for _, amount := range askedAmounts(impl.PassedOf(list, 500)[at]) {
				need := impl.NeedFor(list, at, amount)
				if need == -1 {
					continue
				}
				if need < 0 || need > 500 || impl.PassedOf(list, need)[at] < amount {
					t.Fatalf("NeedFor(%v, %d, %d) = %d is not enough", list, at, amount, need)
				}
				if need > 0 && impl.PassedOf(list, need-1)[at] >= amount {
					t.Errorf("NeedFor(%v, %d, %d) = %d is not the least flow", list, at, amount, need)
				}
				for _, more := range []int{need + 1, need + 2, need + 50, 500} {
					if more <= 500 && impl.PassedOf(list, more)[at] < amount {
						t.Errorf("NeedFor(%v, %d, %d) = %d, but %d is not enough", list, at, amount, need, more)
					}
				}
				if need > 0 {
					enough++
				}
			}
		}
	}
	if enough < 2000 {
		t.Errorf("only %d amounts need water", enough)
	}
}

func TestP60WhatTheSpringCannotGiveIsNotNeeded(t *testing.T) {
	missed := 0
	for _, list := range someChannels() {
		for at := range list {
			most := impl.PassedOf(list, 500)[at]
			for _, amount := range append(askedAmounts(most), greatestInt, leastInt) {
				need := impl.NeedFor(list, at, amount)
				if (need == -1) != (most < amount) {
					t.Errorf("NeedFor(%v, %d, %d) = %d, and %d is most", list, at, amount, need, most)
				}
				if need == -1 {
					missed++
				}
			}
		}
	}
	if missed < 1000 {
		t.Errorf("only %d amounts cannot be reached", missed)
	}
}

// othersHaveWeight reports whether another kid of the parent of a node has a weight.
func othersHaveWeight(list []impl.Node, at int) bool {
	_, weights := kidsGet(list, list[at].Parent, make([]int, len(list)))
	return weights > list[at].Weight
}

func TestP61GatesAreSetAgain(t *testing.T) {
	for _, list := range someChannels() {
		for at, n := range list {
			if !sameNodes(impl.SetGate(list, at, n.Weight), list) {
				t.Errorf("SetGate(%v, %d, %d) is not the channel", list, at, n.Weight)
			}
			for _, weight := range []int{0, 1, 7, 1000} {
				changed := impl.SetGate(list, at, weight)
				if !impl.ValidNodes(changed) || changed[at].Weight != weight || !sameNodes(impl.SetGate(changed, at, n.Weight), list) {
					t.Errorf("SetGate(%v, %d, %d) = %v", list, at, weight, changed)
				}
			}
		}
	}
}

func TestP61ShutGatesLetNothingIn(t *testing.T) {
	less := 0
	for _, list := range someChannels() {
		for at := 1; at < len(list); at++ {
			if !othersHaveWeight(list, at) {
				continue
			}
			shut := impl.SetGate(list, at, 0)
			for _, flow := range someCounts() {
				if come := impl.FlowsOf(shut, flow); come[at] != 0 {
					t.Errorf("FlowsOf(%v, %d) = %v", shut, flow, come)
				}
				if impl.FlowsOf(list, flow)[at] > 0 {
					less++
				}
			}
		}
	}
	if less < 1000 {
		t.Errorf("only %d times a gate has let water in", less)
	}
}

func TestP62AGateThatIsShutLeavesMoreForOthers(t *testing.T) {
	more := 0
	for _, list := range someChannels() {
		for at := 1; at < len(list); at++ {
			if !othersHaveWeight(list, at) {
				continue
			}
			shut := impl.SetGate(list, at, 0)
			for _, flow := range someCounts() {
				before := impl.FlowsOf(list, flow)
				after := impl.FlowsOf(shut, flow)
				for _, kid := range kidsIn(list, list[at].Parent) {
					if kid != at && after[kid] < before[kid] {
						t.Errorf("FlowsOf(%v, %d) = %v, less than %v", shut, flow, after, before)
					}
					if after[kid] > before[kid] {
						more++
					}
				}
				got, _ := kidsGet(shut, list[at].Parent, after)
				if had, _ := kidsGet(list, list[at].Parent, before); got != had {
					t.Errorf("the kids of %d get %d, not %d, in %v", list[at].Parent, got, had, shut)
				}
			}
		}
	}
	if more < 1000 {
		t.Errorf("only %d times others get more", more)
	}
}

func TestP63WaterArrivesLater(t *testing.T) {
	d := &dice{seed: 31}
	late := 0
	for _, list := range someChannels() {
		for at := range list {
			delay := impl.DelayTo(list, at)
			flows := someHours(d, 30+d.roll(40))
			arrived := impl.ArriveAt(list, at, flows)
			if len(arrived) != len(flows) {
				t.Fatalf("ArriveAt(%v, %d, %v) = %v", list, at, flows, arrived)
			}
			for i, units := range arrived {
				want := 0
				if i >= delay {
					want = impl.PassedOf(list, flows[i-delay])[at]
				}
				if units != want {
					t.Errorf("ArriveAt(%v, %d, %v) = %v", list, at, flows, arrived)
				}
				if i > delay && delay > 0 && want > 0 {
					late++
				}
			}
		}
	}
	if late < 2000 {
		t.Errorf("only %d hours have water that is late", late)
	}
}

func TestP64FromTheSpringToTheLeaves(t *testing.T) {
	d := &dice{seed: 37}
	for _, delayed := range someChannels() {
		list := withDelays(delayed, 0)
		for _, hours := range []int{0, 1, 24, 60} {
			flows := someHours(d, hours)
			arrived := 0
			for _, leaf := range impl.LeavesOf(list) {
				arrived += total(impl.ArriveAt(list, leaf, flows))
			}
			lost := 0
			for _, flow := range flows {
				lost += impl.LostIn(list, flow)
			}
			if arrived != total(flows)-lost {
				t.Errorf("%d arrive of %v, of which %d are lost in %v", arrived, flows, lost, list)
			}
		}
	}
}
