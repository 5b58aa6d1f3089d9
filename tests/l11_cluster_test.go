package tests

import (
	"slices"
	"testing"

	"loop.example/g00203/impl"
)

// clusterFaults spoil a busy cluster, in the order in which their codes are
// asked. Each of them leaves what the others spoil in its place.
var clusterFaults = []struct {
	name  string
	code  int64
	spoil func(c *impl.Cluster)
}{
	{"21 contracts", impl.ErrMany, func(c *impl.Cluster) { c.Contracts = append(c.Contracts, contractsAt(100, 17)...) }},
	{"4 shards", impl.ErrMany, func(c *impl.Cluster) { c.Shards = append(c.Shards, impl.Shard{Index: 3}) }},
	{"6 acceptors", impl.ErrMany, func(c *impl.Cluster) { c.Acceptors = append(c.Acceptors, newAcceptors(3)...) }},
	{"3 leaders", impl.ErrMany, func(c *impl.Cluster) { c.Leaders = append(c.Leaders, impl.Leader{}) }},
	{"201 messages", impl.ErrMany, func(c *impl.Cluster) { c.Messages = append(c.Messages, manyMessages(193, 4, 0)...) }},
	{"legs of the first contract", impl.ErrTaken, func(c *impl.Cluster) { c.Contracts[0].Legs = append(c.Contracts[0].Legs, c.Contracts[0].Legs[0]) }},
	{"the second contract stays", impl.ErrForm, func(c *impl.Cluster) { c.Contracts[1].Id = 2 }},
	{"legs of the third contract", impl.ErrRange, func(c *impl.Cluster) { c.Contracts[2].Legs[0].Amount = farLow }},
	{"the last contract falls", impl.ErrForm, func(c *impl.Cluster) { c.Contracts[3].Id = 5 }},
	{"a balance of shard 0", impl.ErrRange, func(c *impl.Cluster) { c.Shards[0].Balances[0].Amount = 0 }},
	{"the index of shard 0", impl.ErrForm, func(c *impl.Cluster) { c.Shards[0].Index = 1 }},
	{"a vote of shard 0 on what was not submitted", impl.ErrForm, func(c *impl.Cluster) { c.Shards[0].Votes = append(c.Shards[0].Votes, mark(50, 2)) }},
	{"a vote's value of shard 1", impl.ErrRange, func(c *impl.Cluster) { c.Shards[1].Votes[0].Value = 3 }},
	{"an outcome of shard 1 without a leg there", impl.ErrForm, func(c *impl.Cluster) { c.Shards[1].Done = append(c.Shards[1].Done, mark(9, 2)) }},
	{"101 votes of shard 2", impl.ErrMany, func(c *impl.Cluster) { c.Shards[2].Votes = append(c.Shards[2].Votes, manyMarks(100, 50, 2)...) }},
	{"shard 2 holds another one", impl.ErrForm, func(c *impl.Cluster) { c.Shards[2].Held[0].Legs[0].Account = 5 }},
	{"a slot of acceptor 0", impl.ErrRange, func(c *impl.Cluster) { c.Acceptors[0].Slots[0].Promised = 2000 }},
	{"a slot of acceptor 0 of no part", impl.ErrNone, func(c *impl.Cluster) {
		c.Acceptors[0].Slots = append(c.Acceptors[0].Slots, elsewhere(castOf(ready(0)), 9, 0))
	}},
	{"slots of acceptor 1 that fall", impl.ErrForm, func(c *impl.Cluster) { slices.Reverse(c.Acceptors[1].Slots) }},
	{"a slot of acceptor 2 of no contract", impl.ErrNone, func(c *impl.Cluster) { c.Acceptors[2].Slots = slotsOf(elsewhere(castOf(ready(0)), 50, 0)) }},
	{"Count of leader 0", impl.ErrRange, func(c *impl.Cluster) { c.Leaders[0].Count = 401 }},
	{"61 tries of leader 0", impl.ErrMany, func(c *impl.Cluster) { c.Leaders[0].Tries = append(c.Leaders[0].Tries, make([]impl.Try, 59)...) }},
	{"Count of leader 1", impl.ErrRange, func(c *impl.Cluster) { c.Leaders[1].Count = -1 }},
	{"301 heard of leader 1", impl.ErrMany, func(c *impl.Cluster) { c.Leaders[1].Known = append(c.Leaders[1].Known, make([]impl.Heard, 298)...) }},
	{"a try of leader 0: contract", impl.ErrNone, func(c *impl.Cluster) { c.Leaders[0].Tries[0].Contract = 1 }},
	{"a try of leader 0: ballot", impl.ErrRange, func(c *impl.Cluster) { c.Leaders[0].Tries[0].Ballot = 0 }},
	{"a try of leader 0: one more of Olds", impl.ErrForm, func(c *impl.Cluster) {
		c.Leaders[0].Tries[0].Olds = append(c.Leaders[0].Tries[0].Olds, noVote())
	}},
	{"a try of leader 0: From", impl.ErrRange, func(c *impl.Cluster) { c.Leaders[0].Tries[0].From[0] = 3 }},
	{"a try of leader 0: two of From", impl.ErrTaken, func(c *impl.Cluster) { c.Leaders[0].Tries[0].From[1] = c.Leaders[0].Tries[0].From[0] }},
	{"the second try of leader 0: shard", impl.ErrNone, func(c *impl.Cluster) { c.Leaders[0].Tries[1].Shard = 0 }},
	{"the second try of leader 0: no Olds", impl.ErrForm, func(c *impl.Cluster) { c.Leaders[0].Tries[1].Olds = nil }},
	{"a try of leader 1: value", impl.ErrRange, func(c *impl.Cluster) { c.Leaders[1].Tries[0].Value = 3 }},
	{"the second try of leader 1: From without Olds", impl.ErrForm, func(c *impl.Cluster) { c.Leaders[1].Tries[1].From = places(0) }},
	{"heard of leader 0: shard", impl.ErrNone, func(c *impl.Cluster) { c.Leaders[0].Known[0].Shard = 2 }},
	{"heard of leader 0: From", impl.ErrRange, func(c *impl.Cluster) { c.Leaders[0].Known[0].From = 3 }},
	{"heard of leader 0: the second one stays", impl.ErrForm, func(c *impl.Cluster) { c.Leaders[0].Known[1] = c.Leaders[0].Known[0] }},
	{"heard of leader 0: contract of the last one", impl.ErrNone, func(c *impl.Cluster) { c.Leaders[0].Known[3].Contract = 99 }},
	{"heard of leader 1: value", impl.ErrRange, func(c *impl.Cluster) { c.Leaders[1].Known[0].Value = 0 }},
	{"heard of leader 1: the last one falls", impl.ErrForm, func(c *impl.Cluster) { c.Leaders[1].Known[2].Shard = 0 }},
	{"the kind of the first message", impl.ErrText, func(c *impl.Cluster) { c.Messages[0].Kind = 0 }},
	{"the contract of the second message", impl.ErrNone, func(c *impl.Cluster) { c.Messages[1].Contract = 99 }},
	{"the last message names From", impl.ErrForm, func(c *impl.Cluster) { c.Messages[7].From = 1 }},
}

// Each fault of a busy cluster by itself, and ahead of every later one.
func TestClusterFaultsInOrder(t *testing.T) {
	checkClusterRight(t, "a busy cluster", busyCluster())
	for i, first := range clusterFaults {
		c := busyCluster()
		first.spoil(&c)
		checkClusterFaulted(t, first.name, c, first.code)
		for _, later := range clusterFaults[i+1:] {
			c := busyCluster()
			first.spoil(&c)
			later.spoil(&c)
			checkClusterFaulted(t, first.name+", then "+later.name, c, first.code)
		}
	}
}

// How many there may be of everything.
func TestClusterSizes(t *testing.T) {
	cases := []struct {
		name string
		want int64
		set  func(c *impl.Cluster)
	}{
		{"no contracts", impl.OK, func(c *impl.Cluster) { *c = freshCluster(3) }},
		{"1 contract", impl.OK, func(c *impl.Cluster) { *c = freshCluster(3, pair(7)) }},
		{"20 contracts", impl.OK, func(c *impl.Cluster) { *c = freshCluster(3, contractsAt(1, 20)...) }},
		{"21 contracts", impl.ErrMany, func(c *impl.Cluster) { *c = freshCluster(3, contractsAt(1, 21)...) }},
		{"very many contracts", impl.ErrMany, func(c *impl.Cluster) { *c = freshCluster(3, contractsAt(1, 3000)...) }},
		{"no shards", impl.ErrMany, func(c *impl.Cluster) { *c = freshCluster(3); c.Shards = nil }},
		{"empty shards", impl.ErrMany, func(c *impl.Cluster) { *c = freshCluster(3); c.Shards = []impl.Shard{} }},
		{"1 shard", impl.OK, func(c *impl.Cluster) { *c = freshCluster(3); c.Shards = c.Shards[:1] }},
		{"2 shards", impl.OK, func(c *impl.Cluster) { *c = freshCluster(3); c.Shards = c.Shards[:2] }},
		{"4 shards", impl.ErrMany, func(c *impl.Cluster) { c.Shards = append(c.Shards, c.Shards[0]) }},
		{"no acceptors", impl.ErrMany, func(c *impl.Cluster) { *c = freshCluster(0) }},
		{"1 acceptor", impl.OK, func(c *impl.Cluster) { *c = freshCluster(1) }},
		{"5 acceptors", impl.OK, func(c *impl.Cluster) { c.Acceptors = append(c.Acceptors, newAcceptors(2)...) }},
		{"6 acceptors", impl.ErrMany, func(c *impl.Cluster) { *c = freshCluster(6) }},
		{"no leaders", impl.ErrMany, func(c *impl.Cluster) { *c = freshCluster(3); c.Leaders = nil }},
		{"1 leader", impl.ErrMany, func(c *impl.Cluster) { *c = freshCluster(3); c.Leaders = c.Leaders[:1] }},
		{"3 leaders", impl.ErrMany, func(c *impl.Cluster) { *c = freshCluster(3); c.Leaders = make([]impl.Leader, 3) }},
		{"no messages", impl.OK, func(c *impl.Cluster) { c.Messages = nil }},
		{"1 message", impl.OK, func(c *impl.Cluster) { c.Messages = c.Messages[:1] }},
		{"200 messages", impl.OK, func(c *impl.Cluster) { c.Messages = manyMessages(200, 2, 0) }},
		{"201 messages", impl.ErrMany, func(c *impl.Cluster) { c.Messages = manyMessages(201, 2, 0) }},
		{"no tries", impl.OK, func(c *impl.Cluster) { c.Leaders[0].Tries = nil }},
		{"1 try", impl.OK, func(c *impl.Cluster) { c.Leaders[0].Tries = c.Leaders[0].Tries[:1] }},
		{"61 tries", impl.ErrMany, func(c *impl.Cluster) { c.Leaders[1].Tries = make([]impl.Try, 61) }},
		{"nothing heard", impl.OK, func(c *impl.Cluster) { c.Leaders[0].Known = nil }},
		{"one heard", impl.OK, func(c *impl.Cluster) { c.Leaders[0].Known = c.Leaders[0].Known[:1] }},
		{"301 heard", impl.ErrMany, func(c *impl.Cluster) { c.Leaders[1].Known = make([]impl.Heard, 301) }},
		{"no room for anything", impl.OK, func(c *impl.Cluster) { *c = fullCluster() }},
		{"no room: a contract more", impl.ErrMany, func(c *impl.Cluster) { *c = fullCluster(); c.Contracts = append(c.Contracts, three(21)) }},
		{"no room: a message more", impl.ErrMany, func(c *impl.Cluster) { *c = fullCluster(); c.Messages = append(c.Messages, askOf(0, 1)) }},
		{"no room: a try more", impl.ErrMany, func(c *impl.Cluster) {
			*c = fullCluster()
			c.Leaders[0].Tries = append(c.Leaders[0].Tries, tryOf(21, 0, 1, 0))
		}},
		{"no room: heard once more", impl.ErrMany, func(c *impl.Cluster) {
			*c = fullCluster()
			c.Leaders[0].Known = append(c.Leaders[0].Known, heardOf(20, 2, not(2), 0)...)
		}},
		{"the zero value", impl.ErrMany, func(c *impl.Cluster) { *c = impl.Cluster{} }},
	}
	for _, x := range cases {
		c := busyCluster()
		x.set(&c)
		if x.want == impl.OK {
			checkClusterRight(t, x.name, c)
		} else {
			checkClusterFaulted(t, x.name, c, x.want)
		}
	}
	if c := fullCluster(); len(c.Contracts) != 20 || len(c.Acceptors[4].Slots) != 60 || len(c.Leaders[1].Tries) != 60 || len(c.Leaders[1].Known) != 300 || len(c.Messages) != 200 {
		t.Errorf("there is room: %+v", c)
	}
}

// Contracts that fall, have a fault, or a shard that is none: of each the
// fault first, and contract by contract.
func TestClusterContracts(t *testing.T) {
	fault, strange := contract(8, leg(0, 0, 0, 5), leg(1, 0, 0, -4)), contract(8, leg(0, 0, 0, 5), leg(2, 0, 0, -5))
	cases := []struct {
		name string
		list []impl.Contract
		want int64
	}{
		{"they rise", heldOf(pair(1), pair(2), pair(maxId)), impl.OK},
		{"they stay", heldOf(pair(2), pair(2)), impl.ErrForm},
		{"they fall", heldOf(pair(2), pair(1)), impl.ErrForm},
		{"the last one falls", heldOf(pair(2), pair(9), pair(8)), impl.ErrForm},
		{"contract 0", heldOf(pair(0)), impl.ErrRange},
		{"contract 10^9 and 1", heldOf(pair(maxId + 1)), impl.ErrRange},
		{"numbers far out", heldOf(contract(farHigh, leg(farLow, farHigh, farLow, farHigh))), impl.ErrRange},
		{"the zero value", make([]impl.Contract, 1), impl.ErrRange},
		{"no legs", heldOf(contract(8)), impl.ErrMany},
		{"not 0 together", heldOf(pair(1), fault), impl.ErrForm},
		{"a shard that is none", heldOf(strange), impl.ErrNone},
		{"a shard that is none, of one that falls", heldOf(pair(9), strange), impl.ErrNone},
		{"a shard that is no shard anywhere", heldOf(contract(8, leg(0, 0, 0, 5), leg(3, 0, 0, -5))), impl.ErrRange},
		{"a shard that is none, and a fault", heldOf(contract(8, leg(0, 0, 0, 5), leg(2, 0, 0, -4))), impl.ErrForm},
		{"one by one: a shard, then a fault", heldOf(strange, contract(9)), impl.ErrNone},
		{"one by one: it falls, then a shard", heldOf(pair(9), pair(1), strange), impl.ErrForm},
		{"one by one: a fault, then a shard", heldOf(contract(1), strange), impl.ErrMany},
	}
	for _, x := range cases {
		c := freshCluster(2, x.list...)
		c.Shards = c.Shards[:2]
		if x.want == impl.OK {
			checkClusterRight(t, x.name, c)
		} else {
			checkClusterFaulted(t, x.name, c, x.want)
		}
	}
	c := freshCluster(2, contract(3, leg(0, 0, 0, 5), leg(0, 1, 0, -5)))
	c.Shards = c.Shards[:1]
	checkClusterRight(t, "one shard", c)
	c.Contracts = append(c.Contracts, pair(4))
	checkClusterFaulted(t, "one shard", c, impl.ErrNone)
}

// What shards know of contracts that were submitted, and of others.
func TestClusterShards(t *testing.T) {
	turned := impl.Contract{Id: 7, Legs: []impl.Leg{pair(7).Legs[1], pair(7).Legs[0]}}
	held := func(x impl.Contract) func(c *impl.Cluster) {
		return func(c *impl.Cluster) { c.Shards[1].Votes, c.Shards[1].Held = marks(mark(x.Id, 1)), heldOf(x) }
	}
	cases := []struct {
		name string
		want int64
		set  func(c *impl.Cluster)
	}{
		{"nothing", impl.OK, func(c *impl.Cluster) {}},
		{"two shards of one index", impl.ErrForm, func(c *impl.Cluster) { c.Shards[1].Index = 0 }},
		{"shards that changed places", impl.ErrForm, func(c *impl.Cluster) { c.Shards[0], c.Shards[1] = c.Shards[1], c.Shards[0] }},
		{"all of index 2", impl.ErrForm, func(c *impl.Cluster) { c.Shards[0].Index, c.Shards[1].Index = 2, 2 }},
		{"index far out", impl.ErrRange, func(c *impl.Cluster) { c.Shards[2].Index = farHigh }},
		{"index 3", impl.ErrRange, func(c *impl.Cluster) { c.Shards[2].Index = 3 }},
		{"a vote against what was submitted", impl.OK, func(c *impl.Cluster) { c.Shards[1].Votes = marks(mark(7, 2)) }},
		{"a vote on what was not submitted", impl.ErrForm, func(c *impl.Cluster) { c.Shards[1].Votes = marks(mark(8, 2)) }},
		{"a vote without a leg there", impl.ErrForm, func(c *impl.Cluster) { c.Shards[2].Votes = marks(mark(7, 2)) }},
		{"a second vote without a leg there", impl.ErrForm, func(c *impl.Cluster) { c.Shards[2].Votes = marks(mark(5, 2), mark(7, 2)) }},
		{"an outcome of what was submitted", impl.OK, func(c *impl.Cluster) { c.Shards[1].Done = marks(mark(7, 2)) }},
		{"done, never voted on", impl.OK, func(c *impl.Cluster) { c.Shards[1].Done, c.Shards[1].Applied = marks(mark(7, 1)), []int64{7} }},
		{"an outcome of what was not submitted", impl.ErrForm, func(c *impl.Cluster) { c.Shards[1].Done = marks(mark(8, 2)) }},
		{"done, and was not submitted", impl.ErrForm, func(c *impl.Cluster) { c.Shards[1].Done, c.Shards[1].Applied = marks(mark(8, 1)), []int64{8} }},
		{"an outcome without a leg there", impl.ErrForm, func(c *impl.Cluster) { c.Shards[2].Done = marks(mark(7, 2)) }},
		{"held as submitted", impl.OK, held(pair(7))},
		{"held, not submitted", impl.ErrForm, held(pair(8))},
		{"held with other legs", impl.ErrForm, held(contract(7, leg(0, 0, 0, -6), leg(1, 0, 0, 6)))},
		{"held with other legs elsewhere", impl.ErrForm, held(contract(7, leg(0, 1, 0, -5), leg(1, 0, 0, 5)))},
		{"held with a leg more", impl.ErrForm, held(contract(7, leg(0, 0, 0, -5), leg(1, 0, 0, 3), leg(1, 1, 0, 2)))},
		{"held with legs in another order", impl.ErrForm, held(turned)},
		{"held without a vote", impl.ErrForm, func(c *impl.Cluster) { c.Shards[1].Held = heldOf(pair(7)) }},
		{"a fault of shard 2 behind the index of shard 0", impl.ErrForm, func(c *impl.Cluster) { c.Shards[0].Index, c.Shards[2].Index = 1, 3 }},
		{"a fault of shard 0 ahead of the index of shard 2", impl.ErrRange, func(c *impl.Cluster) { c.Shards[0].Index, c.Shards[2].Index = 3, 1 }},
	}
	for _, x := range cases {
		c := freshCluster(3, three(5), pair(7))
		x.set(&c)
		if x.want == impl.OK {
			checkClusterRight(t, x.name, c)
		} else {
			checkClusterFaulted(t, x.name, c, x.want)
		}
	}
}

// Slots, tries and what was heard of a contract and shard: that a submitted
// contract has, and that none has.
func TestClusterParts(t *testing.T) {
	cases := []struct {
		name            string
		contract, shard int64
		right           bool
	}{
		{"its first shard", 7, 0, true},
		{"its second shard", 7, 1, true},
		{"none of its shards", 7, 2, false},
		{"a shard of another contract", 5, 2, true},
		{"not submitted", 6, 0, false},
		{"not submitted, behind all", maxId, 0, false},
	}
	for _, x := range cases {
		for n := range 3 {
			c := freshCluster(2, three(5), pair(7))
			switch n {
			case 0:
				c.Acceptors[1].Slots = slotsOf(elsewhere(castOf(ready(3)), x.contract, x.shard))
			case 1:
				c.Leaders[1].Tries = tries(tryOf(x.contract, x.shard, 3, 0))
			case 2:
				c.Leaders[1].Known = heardOf(x.contract, x.shard, ready(3), 1)
			}
			if x.right {
				checkClusterRight(t, x.name, c)
			} else {
				checkClusterFaulted(t, x.name, c, impl.ErrNone)
			}
		}
	}
	for _, far := range []int64{farLow, -1, 0, maxId + 1, farHigh} {
		c := freshCluster(2, pair(7))
		c.Leaders[0].Tries = tries(tryOf(far, far, far, far))
		checkClusterFaulted(t, "a try far out", c, impl.ErrNone)
		c = freshCluster(2, pair(7))
		c.Leaders[0].Known = heardOf(far, far, vote(far, far), far)
		checkClusterFaulted(t, "heard far out", c, impl.ErrNone)
		c = freshCluster(2, pair(7))
		c.Acceptors[0].Slots = slotsOf(elsewhere(castOf(ready(3)), far, 0))
		checkClusterFaulted(t, "a slot far out", c, impl.ErrRange)
	}
}

// checkLeader asks a leader at both places of a cluster with 3 acceptors and
// the contracts 5 (of all shards) and 7 (of the shards 0 and 1).
func checkLeader(t *testing.T, what string, l impl.Leader, want int64) {
	t.Helper()
	for at := range 2 {
		c := freshCluster(3, three(5), pair(7))
		c.Leaders[at] = l
		if want == impl.OK {
			checkClusterRight(t, what, c)
		} else {
			checkClusterFaulted(t, what, c, want)
		}
	}
}

func TestLeaderCounts(t *testing.T) {
	for _, n := range []int64{0, 1, 399, 400} {
		checkLeader(t, "a right Count", impl.Leader{Count: n}, impl.OK)
	}
	for _, n := range []int64{farLow, -1, 401, farHigh} {
		checkLeader(t, "Count", impl.Leader{Count: n}, impl.ErrRange)
	}
}

func TestLeaderTries(t *testing.T) {
	one := tryOf(5, 1, 3, 0)
	cases := []struct {
		name string
		list []impl.Try
		want int64
	}{
		{"one", tries(one), impl.OK},
		{"one with all", tries(promisedBy(tryOf(5, 1, 3, 2), places(2, 0, 1), noVote(), ready(2), not(1000))), impl.OK},
		{"several", tries(tryOf(5, 0, 9, 0), tryOf(5, 2, 1, 1), tryOf(7, 0, 3, 0), tryOf(7, 1, 3, 2)), impl.OK},
		{"ballot far below", tries(tryOf(5, 1, farLow, 0)), impl.ErrRange},
		{"ballot -1", tries(tryOf(5, 1, -1, 0)), impl.ErrRange},
		{"ballot 0", tries(tryOf(5, 1, 0, 0)), impl.ErrRange},
		{"ballot 1", tries(tryOf(5, 1, 1, 0)), impl.OK},
		{"MaxBallot", tries(tryOf(5, 1, maxBallot, 0)), impl.OK},
		{"MaxBallot and 1", tries(tryOf(5, 1, maxBallot+1, 0)), impl.ErrRange},
		{"ballot far above", tries(tryOf(5, 1, farHigh, 0)), impl.ErrRange},
		{"value far below", tries(tryOf(5, 1, 3, farLow)), impl.ErrRange},
		{"value -1", tries(tryOf(5, 1, 3, -1)), impl.ErrRange},
		{"value 1", tries(tryOf(5, 1, 3, 1)), impl.OK},
		{"value 2", tries(tryOf(5, 1, 3, 2)), impl.OK},
		{"value 3", tries(tryOf(5, 1, 3, 3)), impl.ErrRange},
		{"value far above", tries(tryOf(5, 1, 3, farHigh)), impl.ErrRange},
		{"it stays", tries(one, one), impl.ErrForm},
		{"it stays with another ballot", tries(one, tryOf(5, 1, 4, 1)), impl.ErrForm},
		{"shards fall", tries(one, tryOf(5, 0, 3, 0)), impl.ErrForm},
		{"contracts fall", tries(tryOf(7, 0, 3, 0), one), impl.ErrForm},
		{"contracts fall, shards rise", tries(tryOf(7, 0, 3, 0), tryOf(5, 2, 3, 0)), impl.ErrForm},
		{"contracts rise, shards fall", tries(tryOf(5, 2, 3, 0), tryOf(7, 0, 3, 0)), impl.OK},
		{"fewer Olds", tries(promisedBy(one, places(0, 1), noVote())), impl.ErrForm},
		{"more Olds", tries(promisedBy(one, places(0), noVote(), noVote())), impl.ErrForm},
		{"Olds alone", tries(promisedBy(one, nil, noVote())), impl.ErrForm},
		{"From alone", tries(promisedBy(one, places(0))), impl.ErrForm},
		{"From far below", tries(promisedBy(one, places(farLow), noVote())), impl.ErrRange},
		{"From -1", tries(promisedBy(one, places(-1), noVote())), impl.ErrRange},
		{"From 2", tries(promisedBy(one, places(2), noVote())), impl.OK},
		{"From 3", tries(promisedBy(one, places(3), noVote())), impl.ErrRange},
		{"the second one of From", tries(promisedBy(one, places(0, 3), noVote(), noVote())), impl.ErrRange},
		{"From far above", tries(promisedBy(one, places(farHigh), noVote())), impl.ErrRange},
		{"an old that is neither", tries(promisedBy(one, places(0), impl.Vote{})), impl.ErrRange},
		{"an old without a ballot", tries(promisedBy(one, places(0), ready(-1))), impl.ErrRange},
		{"an old without a value", tries(promisedBy(one, places(0), vote(4, 0))), impl.ErrRange},
		{"an old above MaxBallot", tries(promisedBy(one, places(0), ready(maxBallot+1))), impl.ErrRange},
		{"an old far out", tries(promisedBy(one, places(0), vote(farLow, farHigh))), impl.ErrRange},
		{"the second old", tries(promisedBy(one, places(0, 1), noVote(), vote(4, 3))), impl.ErrRange},
		{"two of From", tries(promisedBy(one, places(1, 1), noVote(), noVote())), impl.ErrTaken},
		{"two of From apart", tries(promisedBy(one, places(1, 0, 1), noVote(), noVote(), noVote())), impl.ErrTaken},
		{"very many of From", tries(promisedBy(one, make([]int64, 3000), slices.Repeat(votes(noVote()), 3000)...)), impl.ErrTaken},
		{"ballot ahead of order", tries(one, tryOf(5, 1, 0, 0)), impl.ErrRange},
		{"order ahead of From", tries(one, promisedBy(one, places(9), noVote())), impl.ErrForm},
		{"lengths ahead of From", tries(promisedBy(one, places(9, 9), noVote())), impl.ErrForm},
		{"From ahead of two of it", tries(promisedBy(one, places(1, 1, 3), noVote(), noVote(), noVote())), impl.ErrRange},
		{"Olds ahead of two of From", tries(promisedBy(one, places(1, 1), noVote(), vote(4, 0))), impl.ErrRange},
		{"one by one: two of From, then a contract", tries(promisedBy(one, places(1, 1), noVote(), noVote()), tryOf(9, 0, 3, 0)), impl.ErrTaken},
		{"one by one: an old, then a ballot", tries(promisedBy(one, places(1), vote(0, 0)), tryOf(7, 0, 0, 0)), impl.ErrRange},
		{"one by one: order, then a contract", tries(one, one, tryOf(9, 0, 3, 0)), impl.ErrForm},
	}
	for _, x := range cases {
		checkLeader(t, x.name, impl.Leader{Tries: x.list}, x.want)
	}
}

func TestLeaderKnown(t *testing.T) {
	one := heardOf(5, 1, ready(3), 1)
	with := func(list ...[]impl.Heard) []impl.Heard { return slices.Concat(list...) }
	cases := []struct {
		name string
		list []impl.Heard
		want int64
	}{
		{"one", one, impl.OK},
		{"several", with(heardOf(5, 0, not(9), 2), heardOf(5, 1, ready(0), 0, 1, 2), heardOf(5, 1, ready(3), 0), heardOf(5, 1, not(3), 0), heardOf(7, 0, ready(0), 0)), impl.OK},
		{"ballot far below", heardOf(5, 1, ready(farLow), 1), impl.ErrRange},
		{"ballot -1", heardOf(5, 1, ready(-1), 1), impl.ErrRange},
		{"none", heardOf(5, 1, noVote(), 1), impl.ErrRange},
		{"ballot 0", heardOf(5, 1, ready(0), 1), impl.OK},
		{"MaxBallot", heardOf(5, 1, not(maxBallot), 1), impl.OK},
		{"MaxBallot and 1", heardOf(5, 1, ready(maxBallot+1), 1), impl.ErrRange},
		{"ballot far above", heardOf(5, 1, ready(farHigh), 1), impl.ErrRange},
		{"value far below", heardOf(5, 1, vote(3, farLow), 1), impl.ErrRange},
		{"value -1", heardOf(5, 1, vote(3, -1), 1), impl.ErrRange},
		{"value 0", heardOf(5, 1, vote(3, 0), 1), impl.ErrRange},
		{"value 3", heardOf(5, 1, vote(3, 3), 1), impl.ErrRange},
		{"value far above", heardOf(5, 1, vote(3, farHigh), 1), impl.ErrRange},
		{"From far below", heardOf(5, 1, ready(3), farLow), impl.ErrRange},
		{"From -1", heardOf(5, 1, ready(3), -1), impl.ErrRange},
		{"From 0", heardOf(5, 1, ready(3), 0), impl.OK},
		{"From 2", heardOf(5, 1, ready(3), 2), impl.OK},
		{"From 3", heardOf(5, 1, ready(3), 3), impl.ErrRange},
		{"From far above", heardOf(5, 1, ready(3), farHigh), impl.ErrRange},
		{"it stays", with(one, one), impl.ErrForm},
		{"From falls", heardOf(5, 1, ready(3), 1, 0), impl.ErrForm},
		{"values fall, From rises", with(heardOf(5, 1, not(3), 0), one), impl.ErrForm},
		{"values rise, From falls", with(one, heardOf(5, 1, not(3), 0)), impl.OK},
		{"ballots fall, values rise", with(one, heardOf(5, 1, not(2), 2)), impl.ErrForm},
		{"ballots rise, values fall", with(heardOf(5, 1, not(2), 2), one), impl.OK},
		{"shards fall, ballots rise", with(one, heardOf(5, 0, ready(4), 2)), impl.ErrForm},
		{"shards rise, ballots fall", with(one, heardOf(5, 2, ready(0), 0)), impl.OK},
		{"contracts fall, shards rise", with(heardOf(7, 0, ready(3), 0), one), impl.ErrForm},
		{"contracts rise, shards fall", with(one, heardOf(7, 0, ready(0), 0)), impl.OK},
		{"a value ahead of order", with(one, heardOf(5, 0, vote(3, 0), 1)), impl.ErrRange},
		{"one by one: order, then a contract", with(one, one, heardOf(9, 0, ready(0), 0)), impl.ErrForm},
		{"one by one: a contract, then order", with(heardOf(9, 0, ready(0), 0), one, one), impl.ErrNone},
		{"one by one: a value, then a contract", with(heardOf(5, 1, vote(3, 3), 1), heardOf(9, 0, ready(0), 0)), impl.ErrRange},
	}
	for _, x := range cases {
		checkLeader(t, x.name, impl.Leader{Known: x.list}, x.want)
	}
	wrong := heardOf(9, 0, ready(0), 0)
	checkLeader(t, "all tries ahead of what was heard", impl.Leader{Tries: tries(tryOf(5, 0, 3, 0), tryOf(5, 1, 0, 0)), Known: wrong}, impl.ErrRange)
}

// Counts of all leaders are asked ahead of tries, and these ahead of what was
// heard: "try by try" ends "leader by leader".
func TestLeadersInOrder(t *testing.T) {
	wrongTry, wrongHeard := tries(tryOf(9, 0, 3, 0)), heardOf(5, 1, vote(3, 3), 1)
	cases := []struct {
		name   string
		first  impl.Leader
		second impl.Leader
		want   int64
	}{
		{"a try, then Count", impl.Leader{Tries: wrongTry}, impl.Leader{Count: 401}, impl.ErrRange},
		{"a try, then 61 tries", impl.Leader{Tries: wrongTry}, impl.Leader{Tries: make([]impl.Try, 61)}, impl.ErrMany},
		{"heard, then 301", impl.Leader{Known: wrongHeard}, impl.Leader{Known: make([]impl.Heard, 301)}, impl.ErrMany},
		{"heard, then a try", impl.Leader{Known: wrongHeard}, impl.Leader{Tries: wrongTry}, impl.ErrNone},
		{"a try, then heard", impl.Leader{Tries: wrongTry}, impl.Leader{Known: wrongHeard}, impl.ErrNone},
		{"61 tries, then Count", impl.Leader{Tries: make([]impl.Try, 61)}, impl.Leader{Count: 401}, impl.ErrMany},
		{"Count, then 61 tries", impl.Leader{Count: 401}, impl.Leader{Tries: make([]impl.Try, 61)}, impl.ErrRange},
	}
	for _, x := range cases {
		c := freshCluster(3, three(5), pair(7))
		c.Leaders[0], c.Leaders[1] = x.first, x.second
		c.Messages = make([]impl.Message, 1)
		checkClusterFaulted(t, x.name, c, x.want)
	}
}

func TestNewCluster(t *testing.T) {
	ledgers := []struct {
		name string
		g    impl.Ledger
		want int64
	}{
		{"one shard", ledger(nil), impl.OK},
		{"three shards", ledger(fullShard(impl.MaxAmount), nil, bals(bal(5, 2, 1))), impl.OK},
		{"no shards", impl.Ledger{}, impl.ErrMany},
		{"four shards", ledger(nil, nil, nil, nil), impl.ErrMany},
		{"19 balances", ledger(nil, append(fullShard(1), bal(5, 2, 1))), impl.ErrMany},
		{"a balance of 0", ledger(nil, bals(bal(0, 0, 0))), impl.ErrRange},
		{"a balance far out", ledger(bals(bal(farLow, farHigh, farLow))), impl.ErrRange},
		{"balances that fall", ledger(nil, nil, bals(bal(1, 0, 1), bal(0, 0, 1))), impl.ErrForm},
	}
	for _, x := range ledgers {
		for _, n := range []int64{farLow, -1, 0, 1, 2, 3, 4, 5, 6, farHigh} {
			got := impl.NewCluster(x.g, n)
			checkClusterResult(t, x.name, got, wantNewCluster(x.g, n))
			switch {
			case x.want != impl.OK:
				checkClusterCode(t, x.name, got, x.want)
			case n < 1 || n > 5:
				checkClusterCode(t, x.name, got, impl.ErrRange)
			default:
				checkClusterRight(t, x.name, got.Cluster)
			}
		}
	}
	want := impl.Cluster{
		Shards:    []impl.Shard{{Index: 0, Balances: bals(bal(0, 0, 9))}, {Index: 1}},
		Acceptors: newAcceptors(3), Leaders: make([]impl.Leader, 2),
	}
	checkClusterTold(t, "two shards", impl.NewCluster(ledger(bals(bal(0, 0, 9)), nil), 3), want)
}

func TestSubmitContract(t *testing.T) {
	c := busyCluster()
	for id, place := range map[int64]int{1: 0, 3: 1, 5: 2, 8: 3, 10: 4, maxId: 4} {
		x := contract(id, leg(2, 0, 0, 2), leg(1, 5, 0, -1), leg(0, 0, 0, -2), leg(2, 3, 0, 1))
		want := busyCluster()
		want.Contracts = slices.Insert(want.Contracts, place, x)
		want.Messages = append(want.Messages, askOf(0, id), askOf(1, id), askOf(2, id))
		checkClusterTold(t, "a new one", impl.SubmitContract(c, x), want)
		checkClusterResult(t, "a new one, told once more", wantSubmitContract(c, x), impl.ClusterResult{Cluster: want})
	}
	want := freshCluster(1, contract(7, leg(2, 0, 0, 500), leg(2, 1, 0, -500)))
	want.Messages = messages(askOf(2, 7))
	checkClusterTold(t, "of one shard, which nobody could settle", impl.SubmitContract(freshCluster(1), want.Contracts[0]), want)
	for _, x := range c.Contracts {
		checkClusterTold(t, "there already", impl.SubmitContract(c, cloneContract(x)), c)
		other := cloneContract(x)
		slices.Reverse(other.Legs)
		checkClusterCode(t, "legs in another order", impl.SubmitContract(c, other), impl.ErrTaken)
		checkClusterCode(t, "other legs", impl.SubmitContract(c, contract(x.Id, leg(0, 5, 1, 1), leg(2, 5, 1, -1))), impl.ErrTaken)
	}
}

func TestSubmitContractCodes(t *testing.T) {
	two := freshCluster(2, pair(2))
	two.Shards = two.Shards[:2]
	crowd, last := freshCluster(2, contractsAt(1, 20)...), freshCluster(2, contractsAt(1, 19)...)
	crowd.Shards = crowd.Shards[:2]
	posted := func(c impl.Cluster, n int) impl.Cluster {
		c = cloneCluster(c)
		c.Messages = manyMessages(n, c.Contracts[0].Id, 0)
		return c
	}
	far := contract(30, leg(0, 0, 0, -5), leg(2, 0, 0, 5))
	cases := []struct {
		name string
		c    impl.Cluster
		x    impl.Contract
		want int64
	}{
		{"contract 0", two, pair(0), impl.ErrRange},
		{"contract 10^9 and 1", two, pair(maxId + 1), impl.ErrRange},
		{"contract 10^9", two, pair(maxId), impl.OK},
		{"contract 1", two, pair(1), impl.OK},
		{"the zero value", two, impl.Contract{}, impl.ErrRange},
		{"numbers far out", two, contract(farLow, leg(farHigh, farLow, farHigh, farLow)), impl.ErrRange},
		{"no legs", two, contract(3), impl.ErrMany},
		{"no legs of what is there", two, contract(2), impl.ErrMany},
		{"9 legs", two, chain(3, 9), impl.ErrMany},
		{"a leg of 0", two, contract(3, leg(0, 0, 0, 0), leg(1, 0, 0, 0)), impl.ErrForm},
		{"a leg twice", two, contract(3, leg(0, 0, 0, 5), leg(0, 0, 0, -5)), impl.ErrTaken},
		{"not 0 together", two, contract(3, leg(0, 0, 0, 5), leg(2, 0, 0, -4)), impl.ErrForm},
		{"a shard that is none", two, far, impl.ErrNone},
		{"a shard that is none, of what is there", two, contract(2, leg(0, 0, 0, -5), leg(2, 0, 0, 5)), impl.ErrNone},
		{"a shard that is none, 20 contracts, 200 messages", posted(crowd, 200), far, impl.ErrNone},
		{"20 contracts: a new one", crowd, pair(30), impl.ErrMany},
		{"20 contracts: there already", crowd, crowd.Contracts[5], impl.OK},
		{"20 contracts: other legs", crowd, contract(6, leg(0, 5, 1, 1), leg(1, 5, 1, -1)), impl.ErrTaken},
		{"19 contracts: a new one", last, pair(30), impl.OK},
		{"198 messages", posted(two, 198), pair(3), impl.OK},
		{"199 messages", posted(two, 199), pair(3), impl.ErrMany},
		{"199 messages, one shard", posted(two, 199), contract(3, leg(0, 0, 0, 5), leg(0, 1, 0, -5)), impl.OK},
		{"200 messages", posted(two, 200), pair(3), impl.ErrMany},
		{"200 messages: there already", posted(two, 200), pair(2), impl.OK},
		{"200 messages: other legs", posted(two, 200), contract(2, leg(0, 0, 0, 5), leg(0, 1, 0, -5)), impl.ErrTaken},
	}
	for _, x := range cases {
		got := impl.SubmitContract(x.c, x.x)
		checkCode(t, x.name, got.Code, x.want)
		checkClusterResult(t, x.name, got, wantSubmitContract(x.c, x.x))
	}
}

// placesOut are no places of a list of n.
func placesOut(n int) []int64 {
	return []int64{farLow, -1000, -1, int64(n), int64(n) + 1, 1000, farHigh}
}

func TestDropAndCopyMessage(t *testing.T) {
	c := busyCluster()
	for at, m := range c.Messages {
		want := busyCluster()
		want.Messages = append(want.Messages, m)
		checkClusterTold(t, "copied", impl.CopyMessage(c, int64(at)), want)
		want.Messages = slices.Concat(c.Messages[:at], c.Messages[at+1:])
		checkClusterTold(t, "dropped", impl.DropMessage(c, int64(at)), want)
	}
	one := freshCluster(2, pair(7))
	one.Messages = messages(askOf(1, 7))
	checkClusterTold(t, "the only one dropped", impl.DropMessage(one, 0), freshCluster(2, pair(7)))
	full := fullCluster()
	for _, at := range []int64{0, 100, 199} {
		checkClusterCode(t, "copied, 200 messages", impl.CopyMessage(full, at), impl.ErrMany)
		less := impl.DropMessage(full, at)
		checkCode(t, "dropped, 200 messages", less.Code, impl.OK)
		want := cloneCluster(less.Cluster)
		want.Messages = append(want.Messages, want.Messages[5])
		checkClusterTold(t, "copied, 199 messages", impl.CopyMessage(less.Cluster, 5), want)
	}
	for _, c := range []impl.Cluster{c, freshCluster(2), one, full} {
		for _, at := range placesOut(len(c.Messages)) {
			if at < 0 || at >= int64(len(c.Messages)) {
				checkClusterCode(t, "dropped, no place", impl.DropMessage(c, at), impl.ErrRange)
				checkClusterCode(t, "copied, no place", impl.CopyMessage(c, at), impl.ErrRange)
				checkClusterCode(t, "delivered, no place", impl.DeliverMessage(c, at), impl.ErrRange)
			}
		}
	}
}

func TestCrashLeader(t *testing.T) {
	for _, c := range []impl.Cluster{busyCluster(), fullCluster(), freshCluster(2)} {
		for leader := range int64(2) {
			want := cloneCluster(c)
			want.Leaders[leader] = impl.Leader{Count: c.Leaders[leader].Count}
			checkClusterTold(t, "crashed", impl.CrashLeader(c, leader), want)
			checkClusterTold(t, "crashed twice", impl.CrashLeader(impl.CrashLeader(c, leader).Cluster, leader), want)
		}
		for _, leader := range placesOut(2) {
			checkClusterCode(t, "no leader", impl.CrashLeader(c, leader), impl.ErrRange)
		}
	}
}

func TestResendShard(t *testing.T) {
	c := busyCluster()
	sent := [][]impl.Message{
		castsTo(3, 2, 0, ready(0)),
		slices.Concat(castsTo(3, 2, 1, ready(0)), castsTo(3, 4, 1, ready(0))),
		castsTo(3, 4, 2, ready(0)),
	}
	for shard, list := range sent {
		want := busyCluster()
		want.Messages = append(want.Messages, list...)
		checkClusterTold(t, "held", impl.ResendShard(c, int64(shard)), want)
	}
	idle := freshCluster(5, pair(7))
	idle.Shards[1].Votes = marks(mark(7, 2))
	full := cloneCluster(idle)
	full.Messages = manyMessages(200, 7, 0)
	for shard := range int64(3) {
		checkClusterTold(t, "nothing is held", impl.ResendShard(idle, shard), idle)
		checkClusterTold(t, "nothing is held, 200 messages", impl.ResendShard(full, shard), full)
	}
	for n, want := range map[int]int64{194: impl.OK, 195: impl.ErrMany, 200: impl.ErrMany} {
		c.Messages = manyMessages(n, 2, 0)
		got := impl.ResendShard(c, 1)
		checkCode(t, "two held, many messages", got.Code, want)
		checkClusterResult(t, "two held, many messages", got, wantResendShard(c, 1))
	}
	c = busyCluster()
	c.Shards[2] = impl.Shard{Index: 2, Balances: fullShard(10)}
	for _, shard := range placesOut(3) {
		checkClusterCode(t, "no shard", impl.ResendShard(c, shard), impl.ErrRange)
	}
	two := freshCluster(1)
	two.Shards = two.Shards[:2]
	checkClusterCode(t, "no shard here", impl.ResendShard(two, 2), impl.ErrRange)
}

// Many contracts that are held: of each a vote to each acceptor, in their
// order.
func TestResendShardOfMany(t *testing.T) {
	c := freshCluster(5, contractsAt(1, 18)...)
	c.Shards[1].Votes, c.Shards[1].Held = manyMarks(18, 1, 1), contractsAt(1, 18)
	want := cloneCluster(c)
	for id := int64(1); id <= 18; id++ {
		want.Messages = append(want.Messages, castsTo(5, id, 1, ready(0))...)
	}
	first := impl.ResendShard(c, 1)
	checkClusterTold(t, "18 held", first, want)
	want.Messages = append(want.Messages, want.Messages...)
	second := impl.ResendShard(first.Cluster, 1)
	checkClusterTold(t, "18 held once more", second, want)
	checkClusterCode(t, "18 held for the third time", impl.ResendShard(second.Cluster, 1), impl.ErrMany)
}
