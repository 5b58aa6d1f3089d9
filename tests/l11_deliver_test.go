package tests

import (
	"slices"
	"testing"

	"loop.example/g00203/impl"
)

// ticking has three acceptors and the contracts 5 (of all shards) and 7 (of
// the shards 0 and 1); the leader at that place heard so much.
func ticking(leader int, known ...[]impl.Heard) impl.Cluster {
	c := freshCluster(3, three(5), pair(7))
	c.Leaders[leader].Known = slices.Concat(known...)
	return c
}

// checkTick holds what is told of contract 5 against the shards that are
// opened, and the outcome that is told behind that (0: none).
func checkTick(t *testing.T, what string, c impl.Cluster, leader int64, opened []int64, outcome int64) {
	t.Helper()
	want := cloneCluster(c)
	l := &want.Leaders[leader]
	l.Count++
	ballot := 2*l.Count + leader - 1
	for _, shard := range opened {
		l.Tries = slices.DeleteFunc(l.Tries, func(t impl.Try) bool { return t.Contract == 5 && t.Shard == shard })
		at := 0
		for at < len(l.Tries) && (l.Tries[at].Contract < 5 || l.Tries[at].Contract == 5 && l.Tries[at].Shard < shard) {
			at++
		}
		l.Tries = slices.Insert(l.Tries, at, tryOf(5, shard, ballot, 0))
		want.Messages = append(want.Messages, opensTo(len(c.Acceptors), leader, 5, shard, ballot)...)
	}
	if outcome != impl.OutcomeNone {
		want.Messages = append(want.Messages, tellsTo(5, outcome, 0, 1, 2)...)
	}
	checkClusterTold(t, what, impl.TickLeader(c, leader, 5), want)
	checkClusterResult(t, what+", told once more", wantTickLeader(c, leader, 5), impl.ClusterResult{Cluster: want})
}

func TestTickLeader(t *testing.T) {
	yes, no := int64(impl.OutcomeDone), int64(impl.OutcomeNot)
	readyAt := func(shards ...int64) []impl.Heard {
		var list []impl.Heard
		for _, shard := range shards {
			list = append(list, heardOf(5, shard, ready(0), 0, 2)...)
		}
		return list
	}
	cases := []struct {
		name    string
		known   []impl.Heard
		opened  []int64
		outcome int64
	}{
		{"nothing heard", nil, places(0, 1, 2), 0},
		{"heard of another contract", heardOf(7, 0, not(0), 0, 1, 2), places(0, 1, 2), 0},
		{"heard from one fewer", slices.Concat(heardOf(5, 0, ready(0), 0), heardOf(5, 1, not(0), 1), heardOf(5, 2, ready(0), 2)), places(0, 1, 2), 0},
		{"one is ready", readyAt(0), places(1, 2), 0},
		{"the second one is ready", readyAt(1), places(0, 2), 0},
		{"two are ready", readyAt(0, 2), places(1), 0},
		{"all are ready", readyAt(0, 1, 2), nil, yes},
		{"all are ready, heard from all", slices.Concat(heardOf(5, 0, ready(0), 0, 1, 2), heardOf(5, 1, ready(3), 0, 1, 2), heardOf(5, 2, ready(1), 0, 1, 2)), nil, yes},
		{"one is not", heardOf(5, 0, not(0), 0, 1), places(1, 2), no},
		{"the last one is not", heardOf(5, 2, not(3), 1, 2), places(0, 1), no},
		{"one is not, two are ready", slices.Concat(readyAt(0), heardOf(5, 1, not(0), 0, 1), readyAt(2)), nil, no},
		{"one is not, one is ready", slices.Concat(readyAt(0), heardOf(5, 1, not(0), 0, 1)), places(2), no},
		{"none is", slices.Concat(heardOf(5, 0, not(0), 0, 1), heardOf(5, 1, not(0), 0, 1), heardOf(5, 2, not(0), 0, 1)), nil, no},
		{"a value in two ballots", slices.Concat(heardOf(5, 0, ready(0), 0), heardOf(5, 0, ready(1), 1), readyAt(1, 2)), places(0), 0},
		{"two values in a ballot", slices.Concat(heardOf(5, 0, ready(0), 0), heardOf(5, 0, not(0), 1), readyAt(1, 2)), places(0), 0},
		{"two values chosen, the least ballot is ready", slices.Concat(heardOf(5, 0, ready(2), 0, 1), heardOf(5, 0, not(4), 1, 2), readyAt(1, 2)), nil, yes},
		{"two values chosen, the least ballot is not", slices.Concat(heardOf(5, 0, not(2), 0, 1), heardOf(5, 0, ready(4), 0, 1, 2), readyAt(1, 2)), nil, no},
		{"two values chosen in one ballot", slices.Concat(heardOf(5, 0, ready(2), 0, 1), heardOf(5, 0, not(2), 0, 1, 2), readyAt(1, 2)), nil, yes},
		{"a lesser ballot from one, a greater one from most", slices.Concat(heardOf(5, 0, not(0), 0), heardOf(5, 0, ready(9), 0, 1), readyAt(1, 2)), nil, yes},
	}
	for _, x := range cases {
		for leader := range 2 {
			for _, count := range []int64{0, 1, 17, 399} {
				c := ticking(leader, x.known)
				c.Leaders[leader].Count = count
				checkTick(t, x.name, c, int64(leader), x.opened, x.outcome)
			}
			checkTick(t, x.name+", by the other one", ticking(leader, x.known), int64(1-leader), places(0, 1, 2), 0)
		}
	}
}

// The ballots of both leaders, up to the last.
func TestTickLeaderBallots(t *testing.T) {
	for count, want := range map[int64][2]int64{0: {1, 2}, 1: {3, 4}, 2: {5, 6}, 100: {201, 202}, 399: {799, 800}} {
		for leader := range int64(2) {
			c := freshCluster(1, pair(7))
			c.Leaders[leader].Count = count
			r := impl.TickLeader(c, leader, 7)
			if r.Code != impl.OK || r.Cluster.Leaders[leader].Count != count+1 || len(r.Cluster.Messages) != 2 {
				t.Fatalf("%+v", r)
			}
			for shard, m := range r.Cluster.Messages {
				if m != openTo(0, leader, 7, int64(shard), want[leader]) || r.Cluster.Leaders[leader].Tries[shard].Ballot != want[leader] {
					t.Errorf("leader %d, count %d: %+v", leader, count, m)
				}
			}
		}
	}
	c := freshCluster(1, pair(7))
	for range 400 {
		c = impl.TickLeader(c, 1, 7).Cluster
		c.Messages = nil
	}
	checkClusterRight(t, "400 ticks", c)
	checkClusterCode(t, "the 401st", impl.TickLeader(c, 1, 7), impl.ErrMany)
	checkCode(t, "of the other leader", impl.TickLeader(c, 0, 7).Code, impl.OK)
}

// A try that is there becomes another ballot, and nothing of it stays; others
// stay as they are.
func TestTickLeaderBesideTries(t *testing.T) {
	all := tries(
		promisedBy(tryOf(5, 0, 3, 2), places(0, 2), not(0), noVote()), promisedBy(tryOf(5, 1, 3, 0), places(1), ready(0)),
		promisedBy(tryOf(7, 0, 5, 0), places(1), noVote()), tryOf(7, 1, 5, 1),
	)
	for choice := range uint(16) {
		c := ticking(0)
		c.Leaders[0].Count = 4
		for _, at := range placesIn(choice) {
			c.Leaders[0].Tries = append(c.Leaders[0].Tries, cloneTry(all[at]))
		}
		checkTick(t, "beside tries", c, 0, places(0, 1, 2), 0)
		c.Leaders[0].Known = heardOf(5, 0, ready(0), 0, 1)
		checkTick(t, "beside tries, one is chosen", c, 0, places(1, 2), 0)
		c.Leaders[0].Known = slices.Concat(heardOf(5, 0, ready(0), 0, 1), heardOf(5, 1, not(0), 0, 1), heardOf(5, 2, ready(0), 0, 1))
		checkTick(t, "beside tries, all are chosen", c, 0, nil, impl.OutcomeNot)
	}
}

func TestTickLeaderOfOtherSizes(t *testing.T) {
	for n := 1; n <= 5; n++ {
		c := freshCluster(n, three(5))
		checkTick(t, "nothing heard", c, 1, places(0, 1, 2), 0)
		for said := 1; said <= n; said++ {
			c := freshCluster(n, three(5))
			c.Leaders[1].Known = heardOf(5, 1, not(0), placesIn(1<<said-1)...)
			if 2*said > n {
				checkTick(t, "heard from enough", c, 1, places(0, 2), impl.OutcomeNot)
			} else {
				checkTick(t, "heard from too few", c, 1, places(0, 1, 2), 0)
			}
		}
	}
	want := freshCluster(2, contract(7, leg(2, 0, 0, 1), leg(2, 1, 0, -1)))
	c := cloneCluster(want)
	want.Leaders[0] = impl.Leader{Count: 1, Tries: tries(tryOf(7, 2, 1, 0))}
	want.Messages = opensTo(2, 0, 7, 2, 1)
	checkClusterTold(t, "of one shard", impl.TickLeader(c, 0, 7), want)
}

func TestTickLeaderCodes(t *testing.T) {
	c := ticking(0)
	spent := ticking(0)
	spent.Leaders[0].Count, spent.Leaders[1].Count = 400, 400
	posted := func(c impl.Cluster, n int) impl.Cluster {
		c = cloneCluster(c)
		c.Messages = manyMessages(n, 5, 0)
		return c
	}
	told := ticking(0, heardOf(5, 0, not(0), 0, 1))
	settled := ticking(0, heardOf(5, 0, not(0), 0, 1), heardOf(5, 1, not(0), 0, 1), heardOf(5, 2, not(0), 0, 1))
	full := fullCluster()
	open := fullCluster()
	open.Messages, open.Leaders[0].Known = nil, nil
	cases := []struct {
		name             string
		c                impl.Cluster
		leader, contract int64
		want             int64
	}{
		{"leader far below", c, farLow, 5, impl.ErrRange},
		{"leader -1", c, -1, 5, impl.ErrRange},
		{"leader 2", c, 2, 5, impl.ErrRange},
		{"leader far above", c, farHigh, 5, impl.ErrRange},
		{"no leader, no contract, 200 messages", posted(spent, 200), 2, 6, impl.ErrRange},
		{"contract far below", c, 0, farLow, impl.ErrNone},
		{"contract -1", c, 0, -1, impl.ErrNone},
		{"contract 0", c, 0, 0, impl.ErrNone},
		{"contract 6", c, 1, 6, impl.ErrNone},
		{"contract far above", c, 1, farHigh, impl.ErrNone},
		{"no contract, Count 400, 200 messages", posted(spent, 200), 0, 6, impl.ErrNone},
		{"Count 400", spent, 0, 5, impl.ErrMany},
		{"Count 400 of the other leader", spent, 1, 7, impl.ErrMany},
		{"191 messages, 9 are sent", posted(c, 191), 0, 5, impl.OK},
		{"192 messages, 9 are sent", posted(c, 192), 0, 5, impl.ErrMany},
		{"194 messages, 6 are sent", posted(c, 194), 1, 7, impl.OK},
		{"195 messages, 6 are sent", posted(c, 195), 1, 7, impl.ErrMany},
		{"191 messages, 6 and 3 are sent", posted(told, 191), 0, 5, impl.OK},
		{"192 messages, 6 and 3 are sent", posted(told, 192), 0, 5, impl.ErrMany},
		{"194 messages, 6 and 3 are sent", posted(told, 194), 0, 5, impl.ErrMany},
		{"197 messages, 3 are sent", posted(settled, 197), 0, 5, impl.OK},
		{"198 messages, 3 are sent", posted(settled, 198), 0, 5, impl.ErrMany},
		{"200 messages", posted(settled, 200), 0, 5, impl.ErrMany},
		{"no room for anything", full, 0, 5, impl.ErrMany},
		{"60 tries", open, 0, 5, impl.OK},
		{"60 tries, Count 400", open, 1, 5, impl.ErrMany},
	}
	for _, x := range cases {
		got := impl.TickLeader(x.c, x.leader, x.contract)
		checkCode(t, x.name, got.Code, x.want)
		checkClusterResult(t, x.name, got, wantTickLeader(x.c, x.leader, x.contract))
	}
	open.Leaders[0].Tries = slices.Delete(open.Leaders[0].Tries, 13, 14)
	checkTick(t, "59 tries", open, 0, places(0, 1, 2), 0)
}

// checkDelivery delivers a message that stands among others, at each place of
// them: it is gone, and what is sent stands behind all others. With too many
// of these nothing is told but ErrMany.
func checkDelivery(t *testing.T, what string, before impl.Cluster, m impl.Message, after impl.Cluster, sent ...impl.Message) {
	t.Helper()
	others := messages(openTo(0, 1, 5, 2, 9), askOf(2, 5))
	for at := range len(others) + 1 {
		c, want := cloneCluster(before), cloneCluster(after)
		c.Messages = slices.Insert(slices.Clone(others), at, m)
		want.Messages = slices.Concat(others, sent)
		checkClusterTold(t, what, impl.DeliverMessage(c, int64(at)), want)
		checkClusterResult(t, what+", told once more", wantDeliverMessage(c, int64(at)), impl.ClusterResult{Cluster: want})
	}
	for n := 197; n <= 200; n++ {
		c, want := cloneCluster(before), cloneCluster(after)
		c.Messages = append(manyMessages(n-1, 5, 0), m)
		want.Messages = append(manyMessages(n-1, 5, 0), sent...)
		if len(want.Messages) > 200 {
			checkClusterCode(t, what+", no room", impl.DeliverMessage(c, int64(n)-1), impl.ErrMany)
		} else {
			checkClusterTold(t, what+", room", impl.DeliverMessage(c, int64(n)-1), want)
		}
	}
}

// checkTwice delivers the same message twice: what lasts is there once.
func checkTwice(t *testing.T, what string, before impl.Cluster, m impl.Message) {
	t.Helper()
	c := cloneCluster(before)
	c.Messages = messages(m, m)
	first := impl.DeliverMessage(c, 0)
	second := impl.DeliverMessage(first.Cluster, 0)
	if first.Code != impl.OK || second.Code != impl.OK || !sameLasting(first.Cluster, second.Cluster) {
		t.Errorf("%s twice:\nfirst  %+v\nsecond %+v", what, first, second)
	}
}

func TestDeliverAsk(t *testing.T) {
	for n := 1; n <= 5; n++ {
		c := freshCluster(n, three(5), pair(7), contract(8, leg(0, 0, 0, -11), leg(1, 0, 0, 11)))
		after := cloneCluster(c)
		after.Shards[0].Votes, after.Shards[0].Held = marks(mark(7, 1)), heldOf(pair(7))
		checkDelivery(t, "it is ready", c, askOf(0, 7), after, castsTo(n, 7, 0, ready(0))...)
		checkTwice(t, "it is ready", c, askOf(0, 7))
		checkDelivery(t, "it is asked again", after, askOf(0, 7), after, castsTo(n, 7, 0, ready(0))...)
		after.Shards[0].Votes, after.Shards[0].Held = marks(mark(8, 2)), nil
		checkDelivery(t, "it is short", c, askOf(0, 8), after, castsTo(n, 8, 0, not(0))...)
		checkTwice(t, "it is short", c, askOf(0, 8))
		after = cloneCluster(c)
		after.Shards[1].Votes, after.Shards[1].Held = marks(mark(8, 1)), heldOf(c.Contracts[2])
		checkDelivery(t, "the other shard is ready", c, askOf(1, 8), after, castsTo(n, 8, 1, ready(0))...)
		before := cloneCluster(after)
		after.Shards[1].Votes = marks(mark(7, 2), mark(8, 1))
		checkDelivery(t, "another one is held", before, askOf(1, 7), after, castsTo(n, 7, 1, not(0))...)
		before = cloneCluster(c)
		before.Shards[1].Done = marks(mark(7, 2))
		after = cloneCluster(before)
		after.Shards[1].Votes = marks(mark(7, 2))
		checkDelivery(t, "its outcome came first", before, askOf(1, 7), after, castsTo(n, 7, 1, not(0))...)
	}
}

// casting has two acceptors; the slot of the first one of contract 7 and shard
// 1 is that.
func casting(s impl.Slot) impl.Cluster {
	c := freshCluster(2, three(5), pair(7))
	c.Acceptors[0].Slots = slotsOf(s)
	return c
}

func TestDeliverCast(t *testing.T) {
	bare := freshCluster(2, three(5), pair(7))
	full := castOf(manyVotes(60, 1, 1)...)
	cases := []struct {
		name   string
		before impl.Cluster
		v      impl.Vote
		after  impl.Cluster
		said   bool
	}{
		{"the first vote", bare, ready(0), casting(castOf(ready(0))), true},
		{"the first vote, later", bare, not(7), casting(castOf(not(7))), true},
		{"the last ballot", bare, not(maxBallot), casting(castOf(not(maxBallot))), true},
		{"the ballot that was promised", casting(slotOf(3)), not(3), casting(castOf(not(3))), true},
		{"a greater ballot", casting(castOf(ready(0))), not(3), casting(castOf(ready(0), not(3))), true},
		{"the same once more", casting(castOf(ready(3))), ready(3), casting(castOf(ready(3))), true},
		{"a lesser ballot", casting(slotOf(3)), ready(2), casting(slotOf(3)), false},
		{"a lesser ballot than was cast", casting(castOf(ready(3))), ready(0), casting(castOf(ready(3))), false},
		{"another value", casting(castOf(ready(3))), not(3), casting(castOf(ready(3))), false},
		{"60 votes", casting(full), ready(61), casting(full), false},
		{"60 votes, the same once more", casting(full), ready(60), casting(full), true},
	}
	for _, x := range cases {
		var sent []impl.Message
		if x.said {
			sent = messages(saidTo(0, 0, 7, 1, x.v), saidTo(1, 0, 7, 1, x.v))
		}
		checkDelivery(t, x.name, x.before, castTo(0, 7, 1, x.v), x.after, sent...)
		checkTwice(t, x.name, x.before, castTo(0, 7, 1, x.v))
	}
	after := casting(slotOf(3, ready(0)))
	after.Acceptors[1].Slots = slotsOf(castOf(ready(1)))
	checkDelivery(t, "the other acceptor", casting(slotOf(3, ready(0))), castTo(1, 7, 1, ready(1)), after, saidTo(0, 1, 7, 1, ready(1)), saidTo(1, 1, 7, 1, ready(1)))
	after = casting(castOf(ready(3)))
	after.Acceptors[0].Slots = slotsOf(elsewhere(castOf(not(0)), 7, 0), castOf(ready(3)))
	checkDelivery(t, "the other shard", casting(castOf(ready(3))), castTo(0, 7, 0, not(0)), after, saidTo(0, 0, 7, 0, not(0)), saidTo(1, 0, 7, 0, not(0)))
}

func TestDeliverOpen(t *testing.T) {
	bare := freshCluster(2, three(5), pair(7))
	cases := []struct {
		name   string
		before impl.Cluster
		ballot int64
		after  impl.Cluster
		opened bool
		old    impl.Vote
	}{
		{"nothing was promised", bare, 5, casting(slotOf(5)), true, noVote()},
		{"ballot 0", bare, 0, casting(slotOf(0)), true, noVote()},
		{"the last ballot", bare, maxBallot, casting(slotOf(maxBallot)), true, noVote()},
		{"less was promised", casting(slotOf(4)), 5, casting(slotOf(5)), true, noVote()},
		{"it was promised", casting(slotOf(5)), 5, casting(slotOf(5)), true, noVote()},
		{"more was promised", casting(slotOf(6)), 5, casting(slotOf(6)), false, noVote()},
		{"a vote was cast", casting(castOf(ready(0))), 5, casting(slotOf(5, ready(0))), true, ready(0)},
		{"votes were cast", casting(castOf(ready(0), not(4))), 5, casting(slotOf(5, ready(0), not(4))), true, not(4)},
		{"a vote was cast in this ballot", casting(castOf(not(5))), 5, casting(castOf(not(5))), true, not(5)},
		{"a vote was cast in a greater one", casting(castOf(not(6))), 5, casting(castOf(not(6))), false, noVote()},
		{"60 votes", casting(castOf(manyVotes(60, 1, 1)...)), 99, casting(slotOf(99, manyVotes(60, 1, 1)...)), true, ready(60)},
	}
	for _, x := range cases {
		for leader := range int64(2) {
			var sent []impl.Message
			if x.opened {
				sent = messages(openedTo(leader, 0, 7, 1, x.ballot, x.old))
			}
			checkDelivery(t, x.name, x.before, openTo(0, leader, 7, 1, x.ballot), x.after, sent...)
			checkTwice(t, x.name, x.before, openTo(0, leader, 7, 1, x.ballot))
		}
	}
	after := casting(slotOf(3, ready(0)))
	after.Acceptors[1].Slots = slotsOf(slotOf(2))
	checkDelivery(t, "the other acceptor", casting(slotOf(3, ready(0))), openTo(1, 1, 7, 1, 2), after, openedTo(1, 1, 7, 1, 2, noVote()))
}

func TestDeliverTell(t *testing.T) {
	telling := func(s impl.Shard) impl.Cluster {
		c := freshCluster(2, three(5), pair(7))
		s.Index = 1
		if s.Balances == nil {
			s.Balances = fullShard(10)
		}
		c.Shards[1] = s
		return c
	}
	rich := fullShard(10)
	rich[0].Amount = 15
	voted, held := marks(mark(7, 1)), heldOf(pair(7))
	cases := []struct {
		name    string
		before  impl.Shard
		outcome int64
		after   impl.Shard
	}{
		{"held, done", impl.Shard{Votes: voted, Held: held}, 1, impl.Shard{Balances: rich, Votes: voted, Done: marks(mark(7, 1)), Applied: []int64{7}}},
		{"held, not done", impl.Shard{Votes: voted, Held: held}, 2, impl.Shard{Votes: voted, Done: marks(mark(7, 2))}},
		{"voted against, not done", impl.Shard{Votes: marks(mark(7, 2))}, 2, impl.Shard{Votes: marks(mark(7, 2)), Done: marks(mark(7, 2))}},
		{"voted against, done", impl.Shard{Votes: marks(mark(7, 2))}, 1, impl.Shard{Votes: marks(mark(7, 2))}},
		{"never voted on, not done", impl.Shard{}, 2, impl.Shard{Done: marks(mark(7, 2))}},
		{"never voted on, done", impl.Shard{}, 1, impl.Shard{}},
		{"told already", impl.Shard{Done: marks(mark(7, 2))}, 2, impl.Shard{Done: marks(mark(7, 2))}},
		{"told otherwise", impl.Shard{Done: marks(mark(7, 2))}, 1, impl.Shard{Done: marks(mark(7, 2))}},
		{"done already, told otherwise", impl.Shard{Votes: voted, Done: marks(mark(7, 1)), Applied: []int64{7}}, 2, impl.Shard{Votes: voted, Done: marks(mark(7, 1)), Applied: []int64{7}}},
	}
	for _, x := range cases {
		checkDelivery(t, x.name, telling(x.before), tellTo(1, 7, x.outcome), telling(x.after))
		checkTwice(t, x.name, telling(x.before), tellTo(1, 7, x.outcome))
	}
}

// opening has n acceptors; the leader 1 has a try of contract 7 and shard 1,
// and others beside it.
func opening(n int, t impl.Try) impl.Cluster {
	c := freshCluster(n, three(5), pair(7))
	c.Leaders[1] = impl.Leader{Count: 9, Tries: tries(tryOf(5, 1, 8, 0), promisedBy(tryOf(7, 0, 4, 0), places(0), noVote()), t)}
	return c
}

func TestDeliverOpened(t *testing.T) {
	one := tryOf(7, 1, 4, 0)
	picked := func(value int64) impl.Try { return tryOf(7, 1, 4, value) }
	half := promisedBy(one, places(2), noVote())
	cases := []struct {
		name   string
		n      int
		before impl.Try
		from   int64
		old    impl.Vote
		after  impl.Try
		value  int64
	}{
		{"the first of three", 3, one, 1, noVote(), promisedBy(one, places(1), noVote()), 0},
		{"the first of three, with a vote", 3, one, 1, ready(3), promisedBy(one, places(1), ready(3)), 0},
		{"the second of three", 3, half, 0, noVote(), promisedBy(picked(2), places(2, 0), noVote(), noVote()), 2},
		{"the second of three, ready", 3, half, 0, ready(0), promisedBy(picked(1), places(2, 0), noVote(), ready(0)), 1},
		{"the second of three, not", 3, half, 0, not(3), promisedBy(picked(2), places(2, 0), noVote(), not(3)), 2},
		{"the first was ready, the second not later", 3, promisedBy(one, places(2), ready(0)), 1, not(2), promisedBy(picked(2), places(2, 1), ready(0), not(2)), 2},
		{"the first was ready, the second not earlier", 3, promisedBy(one, places(2), ready(2)), 1, not(0), promisedBy(picked(1), places(2, 1), ready(2), not(0)), 1},
		{"the first was not, the second ready in one ballot", 3, promisedBy(one, places(2), not(2)), 1, ready(2), promisedBy(picked(2), places(2, 1), not(2), ready(2)), 2},
		{"the first was ready, the second had none", 3, promisedBy(one, places(2), ready(0)), 1, noVote(), promisedBy(picked(1), places(2, 1), ready(0), noVote()), 1},
		{"the only one", 1, one, 0, noVote(), promisedBy(picked(2), places(0), noVote()), 2},
		{"the only one was ready", 1, one, 0, ready(3), promisedBy(picked(1), places(0), ready(3)), 1},
		{"the first of two", 2, one, 1, ready(0), promisedBy(one, places(1), ready(0)), 0},
		{"the second of two", 2, promisedBy(one, places(1), ready(0)), 0, noVote(), promisedBy(picked(1), places(1, 0), ready(0), noVote()), 1},
		{"the second of four", 4, half, 3, ready(0), promisedBy(one, places(2, 3), noVote(), ready(0)), 0},
		{"the third of four", 4, promisedBy(one, places(2, 0), noVote(), ready(0)), 3, noVote(), promisedBy(picked(1), places(2, 0, 3), noVote(), ready(0), noVote()), 1},
		{"the second of five", 5, half, 4, noVote(), promisedBy(one, places(2, 4), noVote(), noVote()), 0},
		{"the third of five", 5, promisedBy(one, places(4, 0), noVote(), noVote()), 1, ready(1), promisedBy(picked(1), places(4, 0, 1), noVote(), noVote(), ready(1)), 1},
		{"more than enough, and none picked", 5, promisedBy(one, places(4, 0, 2), noVote(), noVote(), ready(0)), 1, not(1), promisedBy(picked(2), places(4, 0, 2, 1), noVote(), noVote(), ready(0), not(1)), 2},
		{"it comes twice", 3, half, 2, noVote(), half, 0},
		{"it comes twice with another vote", 3, half, 2, ready(3), half, 0},
		{"a value is picked", 3, promisedBy(picked(1), places(0, 2), ready(0), noVote()), 1, not(3), promisedBy(picked(1), places(0, 2), ready(0), noVote()), 0},
		{"a value is picked, from nobody", 3, picked(2), 1, ready(3), picked(2), 0},
		{"of a lesser ballot than the try's", 3, tryOf(7, 1, 6, 0), 1, ready(3), tryOf(7, 1, 6, 0), 0},
		{"of a greater ballot than the try's", 3, tryOf(7, 1, 2, 0), 1, ready(3), tryOf(7, 1, 2, 0), 0},
	}
	for _, x := range cases {
		var sent []impl.Message
		if x.value != impl.ValueNone {
			sent = castsTo(x.n, 7, 1, vote(4, x.value))
		}
		m := openedTo(1, x.from, 7, 1, 4, x.old)
		checkDelivery(t, x.name, opening(x.n, x.before), m, opening(x.n, x.after), sent...)
		checkTwice(t, x.name, opening(x.n, x.before), m)
	}
}

// Promises of what no try asks for any more.
func TestDeliverOpenedWithoutATry(t *testing.T) {
	c := opening(3, promisedBy(tryOf(7, 1, 4, 0), places(0), noVote()))
	for _, m := range messages(
		openedTo(0, 1, 7, 1, 4, ready(0)), openedTo(1, 1, 5, 0, 4, ready(0)), openedTo(1, 1, 5, 2, 4, noVote()), openedTo(1, 1, 5, 1, 4, noVote()),
		openedTo(1, 1, 7, 1, 0, noVote()), openedTo(1, 1, 7, 1, maxBallot, noVote()),
	) {
		checkDelivery(t, "no such try", c, m, c)
	}
	bare := freshCluster(3, three(5), pair(7))
	checkDelivery(t, "no tries", bare, openedTo(0, 0, 7, 1, 4, ready(0)), bare)
	crashed := impl.CrashLeader(c, 1).Cluster
	checkDelivery(t, "it was forgotten", crashed, openedTo(1, 1, 7, 1, 4, noVote()), crashed)
	after := opening(3, promisedBy(tryOf(7, 1, 4, 0), places(0), noVote()))
	after.Leaders[1].Tries[0] = promisedBy(tryOf(5, 1, 8, 0), places(2), not(7))
	checkDelivery(t, "another try", c, openedTo(1, 2, 5, 1, 8, not(7)), after)
}

// hearing has n acceptors; the leader 1 knows so much.
func hearing(n int, known ...[]impl.Heard) impl.Cluster {
	c := freshCluster(n, three(5), pair(7))
	c.Leaders[1].Known = slices.Concat(known...)
	return c
}

func TestDeliverSaid(t *testing.T) {
	with := func(list ...[]impl.Heard) []impl.Heard { return slices.Concat(list...) }
	one := func(v impl.Vote, from ...int64) []impl.Heard { return heardOf(7, 1, v, from...) }
	other := func(v impl.Vote, from ...int64) []impl.Heard { return heardOf(7, 0, v, from...) }
	both := with(other(ready(0), 0, 1), one(ready(0), 0, 1))
	cases := []struct {
		name    string
		n       int
		before  []impl.Heard
		v       impl.Vote
		from    int64
		after   []impl.Heard
		outcome int64
	}{
		{"the first one", 3, nil, ready(0), 1, one(ready(0), 1), 0},
		{"the first one, not", 3, nil, not(5), 2, one(not(5), 2), 0},
		{"it comes twice", 3, one(ready(0), 1), ready(0), 1, one(ready(0), 1), 0},
		{"ahead of another", 3, one(ready(0), 1), ready(0), 0, one(ready(0), 0, 1), 0},
		{"of a greater ballot", 3, one(ready(0), 1), ready(2), 0, with(one(ready(0), 1), one(ready(2), 0)), 0},
		{"of a lesser ballot", 3, one(ready(2), 0), not(0), 1, with(one(not(0), 1), one(ready(2), 0)), 0},
		{"of another value", 3, one(not(2), 0), ready(2), 1, with(one(ready(2), 1), one(not(2), 0)), 0},
		{"beside others", 3, with(heardOf(5, 0, not(0), 0, 1), other(ready(0), 1)), ready(0), 0, with(heardOf(5, 0, not(0), 0, 1), other(ready(0), 1), one(ready(0), 0)), 0},
		{"a value is chosen, not yet for all", 3, one(ready(0), 0), ready(0), 2, one(ready(0), 0, 2), 0},
		{"a value is chosen, for all now", 3, with(other(ready(0), 0, 1), one(ready(0), 0)), ready(0), 2, with(other(ready(0), 0, 1), one(ready(0), 0, 2)), 1},
		{"for all, in other ballots", 3, with(other(ready(3), 0, 1), one(ready(0), 0), one(ready(8), 1)), ready(8), 2, with(other(ready(3), 0, 1), one(ready(0), 0), one(ready(8), 1, 2)), 1},
		{"not is chosen", 3, one(not(0), 0), not(0), 2, one(not(0), 0, 2), 2},
		{"not is chosen, the other is ready", 3, with(other(ready(0), 0, 1), one(not(0), 0)), not(0), 1, with(other(ready(0), 0, 1), one(not(0), 0, 1)), 2},
		{"clear already: ready once more", 3, both, ready(0), 2, with(other(ready(0), 0, 1), one(ready(0), 0, 1, 2)), 0},
		{"clear already: the same once more", 3, both, ready(0), 1, both, 0},
		{"clear already: in another ballot", 3, both, ready(4), 1, with(both, one(ready(4), 1)), 0},
		{"clear already: not, and ready is chosen here", 3, with(other(not(0), 0, 1), one(ready(0), 0)), ready(0), 1, with(other(not(0), 0, 1), one(ready(0), 0, 1)), 0},
		{"clear already: not is chosen here too", 3, with(other(not(0), 0, 1), one(not(0), 0)), not(0), 1, with(other(not(0), 0, 1), one(not(0), 0, 1)), 0},
		{"ready was chosen, not is chosen later", 3, with(other(ready(0), 0, 1), one(ready(0), 0, 1), one(not(4), 0)), not(4), 1, with(other(ready(0), 0, 1), one(ready(0), 0, 1), one(not(4), 0, 1)), 0},
		{"ready is chosen in a later ballot than not", 3, with(one(not(4), 0, 1)), ready(5), 1, with(one(not(4), 0, 1), one(ready(5), 1)), 0},
		{"the only acceptor: not", 1, nil, not(0), 0, one(not(0), 0), 2},
		{"the only acceptor: ready for one", 1, nil, ready(0), 0, one(ready(0), 0), 0},
		{"the only acceptor: ready for all", 1, other(ready(2), 0), ready(0), 0, with(other(ready(2), 0), one(ready(0), 0)), 1},
		{"two of four", 4, one(not(0), 3), not(0), 2, one(not(0), 2, 3), 0},
		{"three of four", 4, one(not(0), 2, 3), not(0), 0, one(not(0), 0, 2, 3), 2},
		{"two of five", 5, one(not(0), 4), not(0), 0, one(not(0), 0, 4), 0},
		{"three of five", 5, one(not(0), 0, 4), not(0), 2, one(not(0), 0, 2, 4), 2},
		{"four of five", 5, one(not(0), 0, 2, 4), not(0), 3, one(not(0), 0, 2, 3, 4), 0},
	}
	for _, x := range cases {
		var sent []impl.Message
		if x.outcome != impl.OutcomeNone {
			sent = tellsTo(7, x.outcome, 0, 1)
		}
		m := saidTo(1, x.from, 7, 1, x.v)
		checkDelivery(t, x.name, hearing(x.n, x.before), m, hearing(x.n, x.after), sent...)
		checkTwice(t, x.name, hearing(x.n, x.before), m)
	}
}

// Each leader hears for itself, and of a contract of three shards all three
// are told.
func TestDeliverSaidToOne(t *testing.T) {
	before := hearing(3, heardOf(5, 2, not(0), 0))
	after := hearing(3, heardOf(5, 2, not(0), 0, 1))
	checkDelivery(t, "leader 1", before, saidTo(1, 1, 5, 2, not(0)), after, tellsTo(5, 2, 0, 1, 2)...)
	after = hearing(3, heardOf(5, 2, not(0), 0))
	after.Leaders[0].Known = heardOf(5, 2, not(0), 1)
	checkDelivery(t, "leader 0", before, saidTo(0, 1, 5, 2, not(0)), after)
	all := slices.Concat(heardOf(5, 0, ready(0), 0, 1), heardOf(5, 1, ready(0), 0, 1))
	before = hearing(3, all, heardOf(5, 2, ready(6), 1))
	after = hearing(3, all, heardOf(5, 2, ready(6), 1, 2))
	checkDelivery(t, "all of three shards", before, saidTo(1, 2, 5, 2, ready(6)), after, tellsTo(5, 1, 0, 1, 2)...)
	one := freshCluster(2, three(5), contract(7, leg(2, 0, 0, 1), leg(2, 1, 0, -1)))
	one.Leaders[0].Known = heardOf(7, 2, ready(0), 1)
	after = cloneCluster(one)
	after.Leaders[0].Known = heardOf(7, 2, ready(0), 0, 1)
	checkDelivery(t, "a contract of one shard", one, saidTo(0, 0, 7, 2, ready(0)), after, tellTo(2, 7, 1))
}

// With Known full only what is there already is heard.
func TestDeliverSaidWithKnownFull(t *testing.T) {
	c := fullCluster()
	for _, x := range []struct {
		name string
		m    impl.Message
		want int64
	}{
		{"there already", saidTo(0, 3, 9, 1, ready(2)), impl.OK},
		{"there already, the last one", saidTo(1, 4, 20, 2, ready(2)), impl.OK},
		{"another value", saidTo(0, 3, 9, 1, not(2)), impl.ErrMany},
		{"another ballot", saidTo(0, 3, 9, 1, ready(0)), impl.ErrMany},
		{"behind all", saidTo(1, 0, 20, 2, not(maxBallot)), impl.ErrMany},
		{"ahead of all", saidTo(1, 0, 1, 0, ready(0)), impl.ErrMany},
	} {
		c.Messages = messages(askOf(0, 1), x.m)
		got := impl.DeliverMessage(c, 1)
		checkCode(t, x.name, got.Code, x.want)
		checkClusterResult(t, x.name, got, wantDeliverMessage(c, 1))
		c.Leaders[x.m.To].Known = slices.Delete(c.Leaders[x.m.To].Known, 0, 1)
		got = impl.DeliverMessage(c, 1)
		checkCode(t, x.name+", 299 heard", got.Code, impl.OK)
		checkClusterResult(t, x.name+", 299 heard", got, wantDeliverMessage(c, 1))
		c = fullCluster()
	}
}

// Slots have room for all that can be submitted: no message finds none.
func TestDeliverToFullAcceptors(t *testing.T) {
	c := fullCluster()
	after := fullCluster()
	after.Acceptors[2].Slots[10] = elsewhere(slotOf(5, ready(3), not(5)), 4, 1)
	c.Messages = messages(castTo(2, 4, 1, not(5)), openTo(2, 1, 4, 1, 6))
	after.Messages = messages(openTo(2, 1, 4, 1, 6), saidTo(0, 2, 4, 1, not(5)), saidTo(1, 2, 4, 1, not(5)))
	r := impl.DeliverMessage(c, 0)
	checkClusterTold(t, "60 slots", r, after)
	after.Acceptors[2].Slots[10].Promised = 6
	after.Messages = append(after.Messages[1:], openedTo(1, 2, 4, 1, 6, not(5)))
	checkClusterTold(t, "60 slots", impl.DeliverMessage(r.Cluster, 0), after)
}

// A contract from its first message to its last, by hand.
func TestOneContractIsDone(t *testing.T) {
	c := impl.NewCluster(ledger(bals(bal(0, 0, 9)), nil), 1).Cluster
	step := func(r impl.ClusterResult, want ...impl.Message) {
		t.Helper()
		if r.Code != impl.OK || !slices.Equal(r.Cluster.Messages, want) {
			t.Fatalf("%+v, want messages %+v", r, want)
		}
		checkClusterRight(t, "a step", r.Cluster)
		c = r.Cluster
	}
	a, b := ready(0), ready(0)
	step(impl.SubmitContract(c, pair(1)), askOf(0, 1), askOf(1, 1))
	step(impl.DeliverMessage(c, 0), askOf(1, 1), castTo(0, 1, 0, a))
	step(impl.DeliverMessage(c, 0), castTo(0, 1, 0, a), castTo(0, 1, 1, b))
	step(impl.DeliverMessage(c, 0), castTo(0, 1, 1, b), saidTo(0, 0, 1, 0, a), saidTo(1, 0, 1, 0, a))
	step(impl.DeliverMessage(c, 0), saidTo(0, 0, 1, 0, a), saidTo(1, 0, 1, 0, a), saidTo(0, 0, 1, 1, b), saidTo(1, 0, 1, 1, b))
	step(impl.DeliverMessage(c, 0), saidTo(1, 0, 1, 0, a), saidTo(0, 0, 1, 1, b), saidTo(1, 0, 1, 1, b))
	step(impl.DeliverMessage(c, 0), saidTo(0, 0, 1, 1, b), saidTo(1, 0, 1, 1, b))
	step(impl.DeliverMessage(c, 0), saidTo(1, 0, 1, 1, b), tellTo(0, 1, 1), tellTo(1, 1, 1))
	step(impl.DeliverMessage(c, 0), tellTo(0, 1, 1), tellTo(1, 1, 1), tellTo(0, 1, 1), tellTo(1, 1, 1))
	for n := 3; n >= 0; n-- {
		step(impl.DeliverMessage(c, 0), messages(tellTo(1, 1, 1), tellTo(0, 1, 1), tellTo(1, 1, 1))[3-n:]...)
	}
	if !slices.Equal(c.Shards[0].Balances, bals(bal(0, 0, 4))) || !slices.Equal(c.Shards[1].Balances, bals(bal(0, 0, 5))) {
		t.Errorf("balances %v, %v", c.Shards[0].Balances, c.Shards[1].Balances)
	}
}

// Votes that are lost: a leader opens a ballot, finds no vote of shard 1, and
// the contract is not done; what comes late changes nothing.
func TestOneContractIsNotDone(t *testing.T) {
	c := impl.NewCluster(ledger(bals(bal(0, 0, 9)), nil), 1).Cluster
	c = impl.SubmitContract(c, pair(1)).Cluster
	c = impl.DeliverMessage(c, 0).Cluster // shard 0 is ready
	c = impl.DeliverMessage(c, 1).Cluster // and its vote is cast
	c = impl.DropMessage(c, 2).Cluster    // of which leader 1 does not hear
	c = impl.DeliverMessage(c, 1).Cluster // and leader 0 does
	r := impl.TickLeader(c, 0, 1)
	if want := messages(askOf(1, 1), openTo(0, 0, 1, 1, 1)); !slices.Equal(r.Cluster.Messages, want) {
		t.Fatalf("%+v, want %+v", r.Cluster.Messages, want)
	}
	r = impl.DeliverMessage(r.Cluster, 1)
	r = impl.DeliverMessage(r.Cluster, 1)
	if want := messages(askOf(1, 1), castTo(0, 1, 1, not(1))); !slices.Equal(r.Cluster.Messages, want) {
		t.Fatalf("%+v, want %+v", r.Cluster.Messages, want)
	}
	r = impl.DeliverMessage(r.Cluster, 1)
	r = impl.DeliverMessage(r.Cluster, 1)
	if want := messages(askOf(1, 1), saidTo(1, 0, 1, 1, not(1)), tellTo(0, 1, 2), tellTo(1, 1, 2)); !slices.Equal(r.Cluster.Messages, want) {
		t.Fatalf("%+v, want %+v", r.Cluster.Messages, want)
	}
	for len(r.Cluster.Messages) > 0 {
		r = impl.DeliverMessage(r.Cluster, int64(len(r.Cluster.Messages))-1)
	}
	for at, s := range r.Cluster.Shards {
		if toldIn(s.Done, 1) != impl.OutcomeNot || len(s.Applied)+len(s.Held) > 0 || at == 1 && toldIn(s.Votes, 1) != impl.ValueNot {
			t.Errorf("shard %+v", s)
		}
	}
	checkClusterRight(t, "not done", r.Cluster)
}
