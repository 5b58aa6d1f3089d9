package tests

import (
	"slices"
	"testing"

	"loop.example/g00203/impl"
)

// checkRound asks for a round and for a draining of one round, which are
// alike.
func checkRound(t *testing.T, what string, before, after impl.Cluster) {
	t.Helper()
	checkClusterRight(t, what, before)
	checkClusterTold(t, what, impl.RoundCluster(before), after)
	checkClusterTold(t, what+": DrainCluster", impl.DrainCluster(before, 1), after)
	checkClusterTold(t, what+", told once more", wantRoundCluster(before), after)
}

func checkRoundCode(t *testing.T, what string, before impl.Cluster, code int64) {
	t.Helper()
	checkClusterRight(t, what, before)
	checkClusterCode(t, what, impl.RoundCluster(before), code)
	checkClusterCode(t, what+", told once more", wantRoundCluster(before), code)
	for _, n := range []int64{1, 2, 200} {
		checkClusterCode(t, what+": DrainCluster", impl.DrainCluster(before, n), code)
	}
	checkClusterTold(t, what+": no rounds", impl.DrainCluster(before, 0), before)
}

// tickedFor is what the first tick of leader 0 for a contract leaves, of which
// it heard nothing.
func tickedFor(c impl.Cluster, x impl.Contract) impl.Cluster {
	c = cloneCluster(c)
	c.Leaders[0].Count = 1
	for _, shard := range shardsIn(x) {
		c.Leaders[0].Tries = append(c.Leaders[0].Tries, tryOf(x.Id, shard, 1, 0))
		c.Messages = append(c.Messages, opensTo(len(c.Acceptors), 0, x.Id, shard, 1)...)
	}
	return c
}

func TestRoundWithoutMessages(t *testing.T) {
	checkRound(t, "none is submitted", freshCluster(3), freshCluster(3))
	settled := settledFor(freshCluster(3, pair(7)), 7, 0, 1)
	checkRound(t, "none is open", settled, settled)
	crowd := settledFor(freshCluster(5, three(5), pair(7)), 7, 0, 1)
	crowd.Leaders[0].Count, crowd.Leaders[1].Count = 400, 400
	crowd = settledFor(crowd, 5, 0, 1, 2)
	checkRound(t, "none is open, and no ballots are left", crowd, crowd)
	one := freshCluster(3, pair(7))
	checkRound(t, "one is open", one, tickedFor(one, pair(7)))
	checkRound(t, "told at one shard, it is open", settledFor(one, 7, 0), tickedFor(settledFor(one, 7, 0), pair(7)))
	several := freshCluster(2, pair(2), three(4), pair(7))
	checkRound(t, "three are open", several, tickedFor(several, pair(2)))
	several = settledFor(several, 2, 0, 1)
	checkRound(t, "the last two are open", several, tickedFor(several, three(4)))
	several = settledFor(several, 4, 0, 1, 2)
	checkRound(t, "the last one is open", several, tickedFor(several, pair(7)))
	between := settledFor(freshCluster(2, pair(2), three(4), pair(7)), 4, 0, 1, 2)
	checkRound(t, "the first and the last one are open", between, tickedFor(between, pair(2)))
	for _, n := range []int{1, 5} {
		c := freshCluster(n, three(4))
		checkRound(t, "other acceptors", c, tickedFor(c, three(4)))
	}
}

// Leader 0 goes on from what it began and heard; leader 1 does nothing.
func TestRoundTicksLeader0(t *testing.T) {
	c := freshCluster(3, three(5), pair(7))
	c.Leaders[0] = impl.Leader{Count: 4, Tries: tries(promisedBy(tryOf(5, 0, 7, 0), places(1), noVote())), Known: heardOf(5, 1, ready(0), 0, 2)}
	c.Leaders[1] = impl.Leader{Count: 400, Known: slices.Concat(heardOf(5, 0, not(0), 0, 1, 2), heardOf(7, 0, not(0), 0, 1, 2))}
	after := cloneCluster(c)
	after.Leaders[0].Count = 5
	after.Leaders[0].Tries = tries(tryOf(5, 0, 9, 0), tryOf(5, 2, 9, 0))
	after.Messages = slices.Concat(opensTo(3, 0, 5, 0, 9), opensTo(3, 0, 5, 2, 9))
	checkRound(t, "a shard was heard of", c, after)
	c.Leaders[0].Known = slices.Concat(heardOf(5, 0, ready(0), 0, 1), heardOf(5, 1, ready(0), 0, 2), heardOf(5, 2, ready(3), 1, 2))
	after.Leaders[0] = cloneLeader(c.Leaders[0])
	after.Leaders[0].Count = 5
	after.Messages = tellsTo(5, impl.OutcomeDone, 0, 1, 2)
	checkRound(t, "all were heard of", c, after)
}

// What is sent during a round stays for the next one, and nobody ticks.
func TestRoundDeliversWhatWasThere(t *testing.T) {
	c := freshCluster(3, three(5), pair(7))
	c.Messages = messages(askOf(1, 7), askOf(0, 7))
	after := cloneCluster(c)
	for at := range 2 {
		after.Shards[at].Votes, after.Shards[at].Held = marks(mark(7, 1)), heldOf(pair(7))
	}
	after.Messages = slices.Concat(castsTo(3, 7, 1, ready(0)), castsTo(3, 7, 0, ready(0)))
	checkRound(t, "votes are sent", c, after)

	c = after
	c.Messages = messages(castTo(2, 7, 0, ready(0)), tellTo(0, 5, 2), castTo(1, 7, 1, ready(0)))
	after = cloneCluster(c)
	after.Acceptors[2].Slots = slotsOf(elsewhere(castOf(ready(0)), 7, 0))
	after.Acceptors[1].Slots = slotsOf(elsewhere(castOf(ready(0)), 7, 1))
	after.Shards[0].Done = marks(mark(5, 2))
	after.Messages = messages(saidTo(0, 2, 7, 0, ready(0)), saidTo(1, 2, 7, 0, ready(0)), saidTo(0, 1, 7, 1, ready(0)), saidTo(1, 1, 7, 1, ready(0)))
	checkRound(t, "some send and some do not", c, after)

	c = after
	c.Messages = messages(saidTo(1, 2, 7, 0, ready(0)), openTo(1, 1, 7, 0, 2), saidTo(1, 1, 7, 0, ready(0)))
	after = cloneCluster(c)
	after.Leaders[1].Known = heardOf(7, 0, ready(0), 1, 2)
	after.Acceptors[1].Slots = slotsOf(elsewhere(slotOf(2), 7, 0), elsewhere(castOf(ready(0)), 7, 1))
	after.Messages = messages(openedTo(1, 1, 7, 0, 2, noVote()))
	checkRound(t, "one message is left, two are open", c, after)
}

// Messages of one round that bear on each other: they come in their order.
func TestRoundKeepsTheOrder(t *testing.T) {
	c := freshCluster(1, pair(7))
	c.Messages = messages(openTo(0, 1, 7, 0, 4), castTo(0, 7, 0, ready(0)), openTo(0, 0, 7, 0, 3))
	after := cloneCluster(c)
	after.Acceptors[0].Slots = slotsOf(elsewhere(slotOf(4), 7, 0))
	after.Messages = messages(openedTo(1, 0, 7, 0, 4, noVote()))
	checkRound(t, "a promise ahead of what is less", c, after)
	slices.Reverse(c.Messages)
	after.Messages = messages(openedTo(0, 0, 7, 0, 3, noVote()), openedTo(1, 0, 7, 0, 4, noVote()))
	checkRound(t, "the other way round", c, after)
	c.Messages = messages(castTo(0, 7, 0, ready(0)), openTo(0, 1, 7, 0, 4))
	after.Acceptors[0].Slots = slotsOf(elsewhere(slotOf(4, ready(0)), 7, 0))
	after.Messages = messages(saidTo(0, 0, 7, 0, ready(0)), saidTo(1, 0, 7, 0, ready(0)), openedTo(1, 0, 7, 0, 4, ready(0)))
	checkRound(t, "a vote ahead of a promise", c, after)
}

// A round at whose end there is no message any more.
func TestRoundThatEndsWithoutMessages(t *testing.T) {
	c := deafTo(freshCluster(3, pair(2), pair(7)))
	c.Messages = messages(castTo(0, 2, 0, ready(0)), castTo(1, 7, 1, not(3)), openTo(2, 1, 7, 0, 8))
	checkRound(t, "nothing is sent, two are open", c, tickedFor(withMessages(c), pair(2)))

	c = withMessages(settledFor(freshCluster(3, pair(7)), 7, 0), tellTo(1, 7, 2))
	checkRound(t, "the last shard is told", c, settledFor(freshCluster(3, pair(7)), 7, 0, 1))
	c = withMessages(freshCluster(3, pair(7)), tellTo(1, 7, 2))
	checkRound(t, "one of two shards is told", c, tickedFor(settledFor(freshCluster(3, pair(7)), 7, 1), pair(7)))
	c = withMessages(settledFor(freshCluster(3, pair(2), three(4)), 2, 0), tellTo(1, 2, 2))
	told := settledFor(freshCluster(3, pair(2), three(4)), 2, 0, 1)
	checkRound(t, "the least one is settled by the round", c, tickedFor(told, three(4)))
	done := settledFor(freshCluster(3, pair(7)), 7, 0, 1)
	checkRound(t, "told once more", withMessages(done, tellTo(0, 7, 2), tellTo(1, 7, 1)), done)

	late := withMessages(done, askOf(0, 7))
	after := withMessages(done, castsTo(3, 7, 0, not(0))...)
	after.Shards[0].Votes = marks(mark(7, 2))
	checkRound(t, "none is open, but a message is left", late, after)
}

func TestRoundCodesOfMessages(t *testing.T) {
	full := func(first ...impl.Message) impl.Cluster {
		c := freshCluster(5, pair(2), three(4))
		c.Messages = append(first, manyMessages(200-len(first), 4, 2)...)
		return c
	}
	checkRoundCode(t, "5 votes are sent beside 199", full(askOf(0, 2)), impl.ErrMany)
	room := full(askOf(0, 2))
	room.Messages = room.Messages[:196]
	room = deafTo(room)
	if r := impl.RoundCluster(room); r.Code != impl.OK || len(r.Cluster.Messages) != 5 {
		t.Errorf("5 votes beside 195: %+v", r)
	}
	checkRoundCode(t, "the last one of 200", deafTo(withMessages(full(), append(manyMessages(3, 4, 2), full(askOf(0, 2)).Messages...)[:200]...)), impl.ErrMany)
	said := full(castTo(0, 2, 0, ready(0)))
	checkRoundCode(t, "2 who hear of it beside 199", said, impl.ErrMany)

	heard := fullCluster()
	heard.Messages = messages(saidTo(1, 0, 1, 0, ready(2)), saidTo(0, 0, 1, 0, not(2)))
	checkRoundCode(t, "300 were heard already", heard, impl.ErrMany)
	heard.Messages = messages(saidTo(1, 0, 1, 0, ready(2)), saidTo(0, 0, 1, 0, ready(2)), askOf(0, 4))
	if r := impl.RoundCluster(heard); r.Code != impl.OK || len(r.Cluster.Messages) != 5 {
		t.Errorf("what was heard already: %+v", r)
	}
	heard.Leaders[0].Count = 400
	heard.Messages = messages(saidTo(0, 0, 1, 0, not(2)))
	checkRoundCode(t, "300 were heard, and no ballots are left", heard, impl.ErrMany)
}

func TestRoundCodesOfTicks(t *testing.T) {
	c := freshCluster(3, pair(2), pair(7))
	c.Leaders[0].Count = 400
	checkRoundCode(t, "no ballots are left", c, impl.ErrMany)
	checkRoundCode(t, "no ballots are left for what is clear", func() impl.Cluster {
		told := cloneCluster(c)
		told.Leaders[0].Known = heardOf(2, 0, not(0), 0, 1)
		return told
	}(), impl.ErrMany)
	checkRoundCode(t, "behind a message that sends nothing", withMessages(deafTo(c), castTo(1, 7, 0, ready(0))), impl.ErrMany)
	checkRoundCode(t, "the last message settles one of two", withMessages(settledFor(c, 7, 0), tellTo(1, 7, 2)), impl.ErrMany)
	sends := withMessages(c, askOf(0, 2))
	after := withMessages(c, castsTo(3, 2, 0, ready(0))...)
	after.Shards[0].Votes, after.Shards[0].Held = marks(mark(2, 1)), heldOf(pair(2))
	checkRound(t, "a message is left: nobody ticks", sends, after)
	last := withMessages(settledFor(settledFor(c, 7, 0), 2, 0, 1), tellTo(1, 7, 2))
	checkRound(t, "none is open: nobody ticks", last, withMessages(settledFor(last, 7, 1)))
	c.Leaders[0].Count, c.Leaders[1].Count = 399, 400
	r := impl.RoundCluster(c)
	if r.Code != impl.OK || r.Cluster.Leaders[0].Count != 400 || r.Cluster.Messages[0].Ballot != 799 {
		t.Errorf("the last ballot: %+v", r)
	}
}

func TestDrainNumbers(t *testing.T) {
	for _, c := range []impl.Cluster{freshCluster(3), freshCluster(3, pair(7)), busyCluster(), settledFor(freshCluster(1, pair(7)), 7, 0, 1)} {
		for _, n := range []int64{farLow, -201, -200, -1, 201, 202, 400, maxId, farHigh} {
			checkClusterCode(t, "not 0 to MaxRounds", impl.DrainCluster(c, n), impl.ErrRange)
		}
		checkClusterTold(t, "no rounds", impl.DrainCluster(c, 0), c)
		for _, n := range []int64{1, 2, 199, 200} {
			if r := impl.DrainCluster(c, n); r.Code != impl.OK {
				t.Errorf("%d rounds: %+v", n, r)
			}
		}
	}
	if impl.MaxRounds != 200 {
		t.Errorf("MaxRounds %d", impl.MaxRounds)
	}
}

// drainedBy are the clusters behind each round, the one ahead first, as long
// as there is something to do.
func drainedBy(t *testing.T, c impl.Cluster) []impl.Cluster {
	t.Helper()
	list := []impl.Cluster{c}
	for len(c.Messages)+len(wantOpenOf(c).List) > 0 {
		r := impl.RoundCluster(c)
		if r.Code != impl.OK || len(list) > impl.MaxRounds {
			t.Fatalf("%d rounds, code %d of %+v", len(list), r.Code, c)
		}
		c = r.Cluster
		list = append(list, c)
	}
	return list
}

// checkDrained holds drainings of every number of rounds against the rounds
// one by one, of which there are so many.
func checkDrained(t *testing.T, what string, c impl.Cluster, rounds int) impl.Cluster {
	t.Helper()
	list := drainedBy(t, c)
	if len(list)-1 != rounds {
		t.Errorf("%s: %d rounds, want %d", what, len(list)-1, rounds)
	}
	for n, want := range list {
		checkClusterTold(t, what, impl.DrainCluster(c, int64(n)), want)
	}
	end := list[len(list)-1]
	for _, n := range []int64{int64(len(list)), 199, 200} {
		checkClusterTold(t, what+": more rounds", impl.DrainCluster(c, n), end)
	}
	checkClusterTold(t, what+": drained already", impl.DrainCluster(end, 200), end)
	checkClusterTold(t, what+": one round more", impl.RoundCluster(end), end)
	checkOpen(t, what, end)
	if len(end.Messages) > 0 {
		t.Errorf("%s: messages %+v", what, end.Messages)
	}
	return end
}

func TestDrainRoundByRound(t *testing.T) {
	g := ledger(bals(bal(0, 0, 9)), nil)
	fresh := impl.NewCluster(g, 3).Cluster
	checkDrained(t, "nothing to do", fresh, 0)
	c := impl.SubmitContract(fresh, pair(1)).Cluster
	end := checkDrained(t, "asked, cast, said and told", c, 4)
	checkLedgerResult(t, "done", impl.LedgerOf(end), impl.LedgerResult{Ledger: ledger(bals(bal(0, 0, 4)), bals(bal(0, 0, 5)))})
	checkNumber(t, "done", impl.OutcomeAt(end, 1), impl.IntResult{Value: impl.OutcomeDone})
	if end.Leaders[0].Count != 0 || end.Leaders[1].Count != 0 {
		t.Errorf("somebody ticked: %+v", end.Leaders)
	}

	lost := impl.DropMessage(c, 1).Cluster
	end = checkDrained(t, "shard 1 was not asked", lost, 8)
	checkLedgerResult(t, "not done", impl.LedgerOf(end), impl.LedgerResult{Ledger: g})
	checkNumber(t, "not done", impl.OutcomeAt(end, 1), impl.IntResult{Value: impl.OutcomeNot})
	lost = impl.DropMessage(lost, 0).Cluster
	end = checkDrained(t, "nobody was asked", lost, 6)
	checkNumber(t, "not done", impl.OutcomeAt(end, 1), impl.IntResult{Value: impl.OutcomeNot})

	two := impl.SubmitContract(c, contract(2, leg(0, 0, 0, -4), leg(1, 1, 0, 4))).Cluster
	end = checkDrained(t, "two that meet at one account", two, 4)
	checkNumber(t, "the first one", impl.OutcomeAt(end, 1), impl.IntResult{Value: impl.OutcomeDone})
	checkNumber(t, "the second one", impl.OutcomeAt(end, 2), impl.IntResult{Value: impl.OutcomeNot})
	for len(two.Messages) > 0 {
		two = impl.DropMessage(two, 0).Cluster
	}
	end = checkDrained(t, "of two nobody was asked", two, 11)
	if end.Leaders[0].Count != 2 || end.Leaders[1].Count != 0 {
		t.Errorf("%+v", end.Leaders)
	}
}

// What is settled is drained, too, as long as there are messages.
func TestDrainGoesOnBehindTheLastOutcome(t *testing.T) {
	c := settledFor(freshCluster(1, pair(7)), 7, 0, 1)
	c.Messages = messages(askOf(0, 7))
	end := checkDrained(t, "asked late", c, 4)
	if !slices.Equal(end.Shards[0].Votes, marks(mark(7, 2))) || len(end.Leaders[1].Known) != 1 || len(end.Acceptors[0].Slots) != 1 {
		t.Errorf("%+v", end)
	}
}

// A code of a later round: with fewer rounds it is not met.
func TestDrainCodesOfLaterRounds(t *testing.T) {
	c := freshCluster(3, pair(2), three(4))
	c.Leaders[0].Count = 400
	c = deafTo(withMessages(c, askOf(0, 2)))
	first := impl.RoundCluster(c)
	checkClusterTold(t, "votes are sent", impl.DrainCluster(c, 1), first.Cluster)
	checkRoundCode(t, "no ballots are left", first.Cluster, impl.ErrMany)
	for _, n := range []int64{2, 3, 200} {
		checkClusterCode(t, "no ballots are left, later", impl.DrainCluster(c, n), impl.ErrMany)
	}

	full := fullCluster()
	full.Messages = messages(castTo(0, 1, 0, not(7)))
	checkClusterTold(t, "the vote is said", impl.DrainCluster(full, 1), impl.RoundCluster(full).Cluster)
	for _, n := range []int64{2, 3, 200} {
		checkClusterCode(t, "300 were heard already, later", impl.DrainCluster(full, n), impl.ErrMany)
	}

	many := freshCluster(5, contractsAt(1, 20)...)
	for _, x := range many.Contracts {
		many.Messages = append(many.Messages, askOf(0, x.Id))
	}
	told := impl.DrainCluster(many, 1)
	if told.Code != impl.OK || len(told.Cluster.Messages) != 100 {
		t.Errorf("20 votes: %+v", told)
	}
	told = impl.DrainCluster(many, 2)
	if told.Code != impl.OK || len(told.Cluster.Messages) != 200 {
		t.Errorf("100 who hear of 20: %+v", told)
	}
	many.Messages = append(many.Messages, askOf(1, 1))
	checkClusterTold(t, "21 votes", impl.DrainCluster(many, 1), impl.RoundCluster(many).Cluster)
	checkClusterCode(t, "105 who hear of 21", impl.DrainCluster(many, 2), impl.ErrMany)
	checkClusterCode(t, "105 who hear of 21", impl.DrainCluster(many, 200), impl.ErrMany)
}
