package tests

import (
	"fmt"
	"slices"
	"testing"

	"loop.example/g00203/impl"
)

// Each fault of a cluster at each function, beside right and wrong numbers;
// and with a later fault behind it.
func TestDriveFaults(t *testing.T) {
	for i, f := range clusterFaults {
		c := busyCluster()
		f.spoil(&c)
		checkDriveFaulted(t, f.name, c, f.code)
		if i+1 < len(clusterFaults) {
			later := clusterFaults[len(clusterFaults)-1]
			later.spoil(&c)
			checkDriveFaulted(t, f.name+", then "+later.name, c, f.code)
		}
	}
	checkDriveFaulted(t, "the zero value", impl.Cluster{}, impl.ErrMany)
	far := impl.Cluster{Contracts: heldOf(contract(farLow, leg(farHigh, farLow, farHigh, farLow))), Shards: []impl.Shard{{Index: farHigh}}, Acceptors: newAcceptors(1), Leaders: []impl.Leader{{Count: farLow}, {Count: farHigh}}}
	checkDriveFaulted(t, "numbers far out", far, impl.ErrRange)
	for _, at := range []int{0, 1} {
		for _, n := range []int64{farLow, -1, 401, farHigh} {
			c := freshCluster(3)
			c.Leaders[at].Count = n
			checkDriveFaulted(t, fmt.Sprint("Count ", n), c, impl.ErrRange)
		}
	}
	// All its shards know an outcome, but it could never have been known.
	strange := settledFor(freshCluster(3, pair(7)), 7, 0, 1, 2)
	checkDriveFaulted(t, "an outcome where there is no leg", strange, impl.ErrForm)
}

func TestSettledAt(t *testing.T) {
	held := freshCluster(3, pair(2), three(4))
	for at := range 2 {
		held.Shards[at].Votes, held.Shards[at].Held = marks(mark(2, 1)), heldOf(pair(2))
	}
	done := cloneCluster(held)
	for at := range 2 {
		done.Shards[at].Held, done.Shards[at].Done, done.Shards[at].Applied = nil, marks(mark(2, 1)), places(2)
	}
	cases := []struct {
		name string
		c    impl.Cluster
		id   int64
		want bool
	}{
		{"none is submitted", freshCluster(1), 2, false},
		{"another one is submitted", settledFor(freshCluster(1, pair(2)), 2, 0, 1), 4, false},
		{"number 0", settledFor(freshCluster(1, pair(2)), 2, 0, 1), 0, false},
		{"far low", settledFor(freshCluster(1, pair(2)), 2, 0, 1), farLow, false},
		{"far high", settledFor(freshCluster(1, pair(2)), 2, 0, 1), farHigh, false},
		{"no shard was told", held, 2, false},
		{"a vote against it is no outcome", func() impl.Cluster {
			c := freshCluster(3, pair(2))
			c.Shards[0].Votes, c.Shards[1].Votes = marks(mark(2, 2)), marks(mark(2, 2))
			return c
		}(), 2, false},
		{"the first shard was told", settledFor(freshCluster(3, pair(2)), 2, 0), 2, false},
		{"the last shard was told", settledFor(freshCluster(3, pair(2)), 2, 1), 2, false},
		{"both shards were told: not done", settledFor(freshCluster(3, pair(2)), 2, 0, 1), 2, true},
		{"both shards were told: done", done, 2, true},
		{"another one is open beside it", done, 4, false},
		{"two of three were told", settledFor(freshCluster(3, three(4)), 4, 0, 2), 4, false},
		{"two others of three were told", settledFor(freshCluster(3, three(4)), 4, 1, 2), 4, false},
		{"the first two of three were told", settledFor(freshCluster(3, three(4)), 4, 0, 1), 4, false},
		{"three of three were told", settledFor(freshCluster(3, three(4)), 4, 0, 1, 2), 4, true},
		{"one shard, and it was told", settledFor(freshCluster(3, contract(9, leg(2, 3, 2, -1), leg(2, 4, 2, 1))), 9, 2), 9, true},
		{"one shard, and it was not told", freshCluster(3, contract(9, leg(2, 3, 2, -1), leg(2, 4, 2, 1))), 9, false},
		{"a fault elsewhere", func() impl.Cluster {
			c := cloneCluster(done)
			c.Leaders[1].Count = 401
			return c
		}(), 2, false},
		{"messages that go on", withMessages(done, askOf(0, 2), tellTo(1, 2, 1)), 2, true},
	}
	for _, x := range cases {
		checkSettled(t, x.name, x.c, x.id, x.want)
		if wantSettledAt(x.c, x.id) != x.want {
			t.Errorf("%s, told once more", x.name)
		}
	}
	// Two shards may be told two outcomes without a fault: it is settled.
	done.Shards[1] = settledFor(freshCluster(3, pair(2)), 2, 1).Shards[1]
	checkSettled(t, "two outcomes", done, 2, true)
}

func TestOpenOf(t *testing.T) {
	checkOpen(t, "none is submitted", freshCluster(3))
	checkOpen(t, "a busy cluster", busyCluster(), 2, 4, 9)
	all := freshCluster(3, pair(2), three(4), pair(7), contract(9, leg(2, 3, 2, -1), leg(2, 4, 2, 1)), pair(maxId))
	checkOpen(t, "all are open", all, 2, 4, 7, 9, maxId)
	c := settledFor(all, 4, 0, 1)
	checkOpen(t, "one shard more to be told", c, 2, 4, 7, 9, maxId)
	c = settledFor(c, 4, 2)
	checkOpen(t, "one in the middle is settled", c, 2, 7, 9, maxId)
	c = settledFor(c, 2, 0, 1)
	checkOpen(t, "the first one too", c, 7, 9, maxId)
	c = settledFor(c, maxId, 0, 1)
	checkOpen(t, "the last one too", c, 7, 9)
	c = settledFor(settledFor(c, 7, 0, 1), 9, 2)
	checkOpen(t, "all are settled", c)
	checkOpen(t, "messages are open for nobody", withMessages(c, askOf(0, 2), openTo(1, 0, 9, 2, 3)))
	full := fullCluster()
	checkOpen(t, "20 contracts", full, numbersFrom(1, 20)...)
	for id := range int64(20) {
		full = settledFor(full, id+1, 0, 1, 2)
		checkOpen(t, "fewer and fewer", full, numbersFrom(id+2, int(19-id))...)
	}
}

func TestLedgerOf(t *testing.T) {
	tell := func(what string, c impl.Cluster, want impl.Ledger) {
		t.Helper()
		checkClusterRight(t, what, c)
		checkLedgerResult(t, what, impl.LedgerOf(c), impl.LedgerResult{Ledger: want})
		checkCode(t, what+": LedgerFault", impl.LedgerFault(impl.LedgerOf(c).Ledger), impl.OK)
	}
	for _, g := range []impl.Ledger{
		ledger(nil), ledger(bals(bal(0, 0, 9))), ledger(fullShard(impl.MaxAmount)), ledger(nil, nil), ledger(bals(bal(1, 2, 3)), nil),
		ledger(nil, bals(bal(1, 2, 3))), ledger(bals(bal(0, 0, 1)), nil, bals(bal(5, 2, 7), bal(5, 2, 8))[:1]), ledger(fullShard(1), fullShard(2), fullShard(3)),
	} {
		tell("as it began", impl.NewCluster(g, 2).Cluster, g)
	}
	c := impl.NewCluster(ledger(bals(bal(0, 0, 5), bal(1, 0, 2)), bals(bal(2, 1, 1))), 1).Cluster
	c = impl.SubmitContract(c, pair(1)).Cluster
	tell("submitted", c, ledger(bals(bal(0, 0, 5), bal(1, 0, 2)), bals(bal(2, 1, 1))))
	c = impl.DrainCluster(c, 1).Cluster
	if !holds(c.Shards[0], 1) || !holds(c.Shards[1], 1) {
		t.Fatalf("nothing is held: %+v", c)
	}
	tell("what is held is there still", c, ledger(bals(bal(0, 0, 5), bal(1, 0, 2)), bals(bal(2, 1, 1))))
	c = impl.DrainCluster(c, 2).Cluster
	c = impl.DeliverMessage(c, 1).Cluster
	tell("applied at shard 1 alone", c, ledger(bals(bal(0, 0, 5), bal(1, 0, 2)), bals(bal(0, 0, 5), bal(2, 1, 1))))
	c = impl.DeliverMessage(c, 0).Cluster
	tell("applied at both", c, ledger(bals(bal(1, 0, 2)), bals(bal(0, 0, 5), bal(2, 1, 1))))
	tell("a busy cluster", busyCluster(), ledger(fullShard(10), fullShard(10), fullShard(10)))
}

// slotsAt gives acceptors, each from the first on, a slot of a part.
func slotsAt(c impl.Cluster, contract, shard int64, list ...impl.Slot) impl.Cluster {
	c = cloneCluster(c)
	for at, s := range list {
		slots := append(c.Acceptors[at].Slots, elsewhere(s, contract, shard))
		slices.SortFunc(slots, func(a, b impl.Slot) int { return int(3*(a.Contract-b.Contract) + a.Shard - b.Shard) })
		c.Acceptors[at].Slots = slots
	}
	return c
}

func TestOutcomeAt(t *testing.T) {
	c := freshCluster(3, pair(2), three(4))
	is := func(what string, c impl.Cluster, id, want int64) {
		t.Helper()
		checkClusterRight(t, what, c)
		checkNumber(t, what, impl.OutcomeAt(c, id), impl.IntResult{Value: want})
		checkNumber(t, what+", told once more", wantOutcomeAt(c, id), impl.IntResult{Value: want})
	}
	is("nothing was cast", c, 2, impl.OutcomeNone)
	one := slotsAt(c, 2, 0, castOf(ready(0)), castOf(ready(0)))
	is("one of two shards is ready", one, 2, impl.OutcomeNone)
	is("the other contract", one, 4, impl.OutcomeNone)
	is("no quorum of the second shard", slotsAt(one, 2, 1, castOf(ready(0))), 2, impl.OutcomeNone)
	is("two ballots of the second shard", slotsAt(one, 2, 1, castOf(ready(0)), castOf(ready(2))), 2, impl.OutcomeNone)
	both := slotsAt(one, 2, 1, castOf(ready(0)), castOf(ready(0)))
	is("both shards are ready", both, 2, impl.OutcomeDone)
	is("the second shard is not", slotsAt(one, 2, 1, castOf(not(3)), castOf(not(3))), 2, impl.OutcomeNot)
	is("one shard is not, of the others nothing is known", slotsAt(c, 4, 2, castOf(not(0)), castOf(not(0))), 4, impl.OutcomeNot)
	is("one shard is not, no quorum", slotsAt(c, 4, 2, castOf(not(0))), 4, impl.OutcomeNone)
	heard := cloneCluster(c)
	heard.Leaders[0].Known = slices.Concat(heardOf(2, 0, ready(0), 0, 1, 2), heardOf(2, 1, ready(0), 0, 1, 2))
	is("what leaders heard does not count", heard, 2, impl.OutcomeNone)
	is("what shards were told does not count", settledFor(c, 2, 0, 1), 2, impl.OutcomeNone)
	is("nor messages", withMessages(c, tellsTo(2, impl.OutcomeDone, 0, 1)...), 2, impl.OutcomeNone)
	is("a busy cluster", busyCluster(), 2, impl.OutcomeNone)
	for _, id := range []int64{farLow, -1, 0, 1, 3, 5, maxId, maxId + 1, farHigh} {
		checkNumber(t, "not submitted", impl.OutcomeAt(both, id), impl.IntResult{Code: impl.ErrNone})
		checkNumber(t, "none is submitted", impl.OutcomeAt(freshCluster(3), id), impl.IntResult{Code: impl.ErrNone})
	}
}

func TestRoundsFor(t *testing.T) {
	all := freshCluster(3, pair(2), three(4), pair(7))
	none := settledFor(settledFor(settledFor(all, 2, 0, 1), 4, 0, 1, 2), 7, 0, 1)
	cases := []struct {
		name          string
		c             impl.Cluster
		first, second int64
		want          int64
	}{
		{"none is submitted", freshCluster(3), 0, 0, 12},
		{"none is open", none, 0, 0, 12},
		{"none is open, ballots were begun", none, 3, 5, 32},
		{"one is open", freshCluster(3, pair(7)), 0, 0, 24},
		{"three are open", all, 0, 0, 48},
		{"two of three are open", settledFor(all, 2, 0, 1), 0, 0, 36},
		{"the first leader began more", all, 7, 2, 76},
		{"the second leader began more", all, 2, 7, 76},
		{"the first leader alone", all, 1, 0, 52},
		{"the second leader alone", all, 0, 1, 52},
		{"both began as many", all, 9, 9, 84},
		{"just MaxRounds", freshCluster(3, pair(7)), 0, 44, 200},
		{"more than MaxRounds", freshCluster(3, pair(7)), 45, 0, 204},
		{"Count 400 of the first", all, 400, 0, 1648},
		{"Count 400 of the second", all, 399, 400, 1648},
		{"messages change nothing", withMessages(all, askOf(0, 2), askOf(1, 2)), 0, 0, 48},
	}
	for _, x := range cases {
		c := cloneCluster(x.c)
		c.Leaders[0].Count, c.Leaders[1].Count = x.first, x.second
		checkNumber(t, x.name, impl.RoundsFor(c), impl.IntResult{Value: x.want})
		checkNumber(t, x.name+", told once more", wantRoundsFor(c), impl.IntResult{Value: x.want})
	}
	checkNumber(t, "a full cluster", impl.RoundsFor(fullCluster()), impl.IntResult{Value: 240 + 12 + 1600})
	checkNumber(t, "a busy cluster", impl.RoundsFor(busyCluster()), impl.IntResult{Value: 36 + 12 + 12})
}
