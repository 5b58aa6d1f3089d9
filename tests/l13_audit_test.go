package tests

import (
	"fmt"
	"slices"
	"testing"

	"loop.example/g00203/impl"
)

// Each fault of a cluster at each function, beside right and wrong assets and
// ledgers; and with a later fault behind it.
func TestAuditFaults(t *testing.T) {
	for i, f := range clusterFaults {
		c := busyCluster()
		f.spoil(&c)
		checkAuditFaulted(t, f.name, c, f.code)
		if i+1 < len(clusterFaults) {
			later := clusterFaults[len(clusterFaults)-1]
			later.spoil(&c)
			checkAuditFaulted(t, f.name+", then "+later.name, c, f.code)
		}
	}
	checkAuditFaulted(t, "the zero value", impl.Cluster{}, impl.ErrMany)
	far := impl.Cluster{Contracts: heldOf(contract(farLow, leg(farHigh, farLow, farHigh, farLow))), Shards: []impl.Shard{{Index: farHigh, Applied: places(farLow, farHigh)}}, Acceptors: newAcceptors(1), Leaders: []impl.Leader{{Count: farLow}, {Count: farHigh}}}
	checkAuditFaulted(t, "numbers far out", far, impl.ErrRange)
	for _, n := range []int64{farLow, -1, 0, 3, maxId + 1, farHigh} {
		c := appliedAt(freshCluster(3, pair(2)), 0, 2)
		c.Shards[0].Applied[0] = n
		checkAuditFaulted(t, fmt.Sprint("Applied ", n), c, impl.ErrForm)
		c = heldAt(freshCluster(3, pair(2)), 0, pair(2))
		c.Shards[0].Held[0].Legs[0].Amount = n
		checkAuditFaulted(t, fmt.Sprint("an amount ", n), c, impl.ContractFault(c.Shards[0].Held[0]))
	}
	// Orders that go round in a ring are told behind the cluster's fault.
	c := ring()
	c.Leaders[1].Count = 401
	checkAuditFaulted(t, "a ring, and a fault", c, impl.ErrRange)
}

// pairTold is a cluster of contract 7 with what acceptors cast for its two
// shards, what these said and what they were told (0: nothing).
func pairTold(slots, others []impl.Slot, said, told [2]int64) impl.Cluster {
	c := slotsAt(slotsAt(freshCluster(3, pair(7)), 7, 0, slots...), 7, 1, others...)
	for at := range int64(2) {
		if said[at] != impl.ValueNone {
			c = votedAt(c, at, 7, said[at])
		}
		switch {
		case told[at] == impl.OutcomeDone:
			c = appliedAt(c, at, 7)
		case told[at] == impl.OutcomeNot:
			c = settledFor(c, 7, at)
		case said[at] == impl.ValueReady:
			c.Shards[at].Held = heldOf(pair(7))
		}
	}
	return c
}

const none, isReady, isNot = impl.ValueNone, impl.ValueReady, impl.ValueNot

func TestSafeCluster(t *testing.T) {
	all := func(v impl.Vote) []impl.Slot { return slotsOf(castOf(v), castOf(v), castOf(v)) }
	most := func(v impl.Vote) []impl.Slot { return slotsOf(castOf(v), castOf(v)) }
	one := func(v impl.Vote) []impl.Slot { return slotsOf(castOf(v)) }
	split := slotsOf(castOf(ready(0), not(3)), castOf(ready(0), not(3)))
	torn := slotsOf(castOf(ready(0)), castOf(not(3)), castOf(ready(4)))
	type two = [2]int64
	cases := []struct {
		name          string
		slots, others []impl.Slot
		said, told    two
		want          bool
	}{
		{"nothing was said", nil, nil, two{}, two{}, true},
		{"both are ready, nothing was cast", nil, nil, two{isReady, isReady}, two{}, true},
		{"both are ready and were told", all(ready(0)), most(ready(0)), two{isReady, isReady}, two{1, 1}, true},
		{"one was told yet", all(ready(0)), most(ready(0)), two{isReady, isReady}, two{1, 0}, true},
		{"the other was told yet", all(ready(0)), most(ready(0)), two{isReady, isReady}, two{0, 1}, true},
		{"none was told yet", all(ready(0)), most(ready(0)), two{isReady, isReady}, two{}, true},
		{"a ballot later on", slotsOf(castOf(ready(0), ready(5)), castOf(ready(5))), most(ready(0)), two{isReady, isReady}, two{1, 1}, true},

		{"the slots of the first do not agree", split, nil, two{isReady, none}, two{}, false},
		{"the slots of the second do not agree", most(ready(0)), split, two{isReady, isReady}, two{}, false},
		{"they do not agree, and it was told by the first vote", most(ready(0)), split, two{isReady, isReady}, two{1, 1}, false},
		{"they differ, but no two values are chosen", torn, most(ready(0)), two{isReady, isReady}, two{}, true},
		{"they differ, and none knows the outcome", torn, most(ready(0)), two{isReady, isReady}, two{0, 1}, false},

		{"done, and the outcome is not", most(ready(0)), most(not(0)), two{isReady, isNot}, two{1, 0}, false},
		{"done at the second, and the outcome is not", most(not(1)), most(ready(0)), two{isReady, isReady}, two{0, 1}, false},
		{"done, and the outcome is not clear", most(ready(0)), one(ready(0)), two{isReady, isReady}, two{1, 0}, false},
		{"done, and nothing was cast", nil, nil, two{isReady, isReady}, two{0, 1}, false},
		{"not, and the outcome is done", all(ready(0)), all(ready(0)), two{isReady, isReady}, two{2, 0}, false},
		{"not at the second, and the outcome is done", all(ready(0)), all(ready(0)), two{isReady, isReady}, two{1, 2}, false},
		{"not, and the outcome is not clear", most(ready(0)), one(not(0)), two{isReady, isNot}, two{0, 2}, false},
		{"not, and nothing was cast", nil, nil, two{}, two{2, 0}, false},
		{"not, and the outcome is not", most(ready(0)), most(not(0)), two{isReady, isNot}, two{2, 2}, true},
		{"not by the first shard alone", most(not(1)), nil, two{}, two{2, 2}, true},
		{"not by the second shard alone", nil, all(not(1)), two{}, two{2, 0}, true},

		{"ready is chosen, it said so", most(ready(0)), nil, two{isReady, none}, two{}, true},
		{"ready is chosen, it said not", most(ready(0)), nil, two{isNot, none}, two{}, false},
		{"ready is chosen, it said nothing", most(ready(0)), nil, two{}, two{}, false},
		{"ready is chosen of the second, it said so", nil, most(ready(3)), two{none, isReady}, two{}, true},
		{"ready is chosen of the second, it said not", nil, most(ready(3)), two{none, isNot}, two{}, false},
		{"ready is chosen of the second, it said nothing", nil, most(ready(3)), two{isReady, none}, two{}, false},
		{"ready was cast by one, it said nothing", one(ready(0)), nil, two{}, two{}, true},
		{"ready was cast by one, it said not", one(ready(0)), nil, two{isNot, none}, two{}, true},
		{"not is chosen, it said ready", most(not(1)), nil, two{isReady, none}, two{}, true},
		{"not is chosen, it said not", most(not(0)), nil, two{isNot, none}, two{}, true},
		{"not is chosen, it said nothing", most(not(1)), nil, two{}, two{}, true},
		{"told not, and ready is chosen of it, which it did not say", most(ready(0)), most(not(0)), two{none, isNot}, two{2, 2}, false},
	}
	for _, x := range cases {
		c := pairTold(x.slots, x.others, x.said, x.told)
		checkClusterRight(t, x.name, c)
		checkSafe(t, x.name, c, x.want)
		c = beside(c)
		checkClusterRight(t, x.name+", beside others", c)
		checkSafe(t, x.name+", beside others", c, x.want)
		c.Leaders[1].Count = -1
		checkSafe(t, x.name+", with a fault", c, false)
	}
}

// beside puts a contract ahead of the others, and one behind them, of which
// nothing is known, and messages that tell anything.
func beside(c impl.Cluster) impl.Cluster {
	c = cloneCluster(c)
	c.Contracts = slices.Concat(heldOf(pair(2)), c.Contracts, heldOf(three(9)))
	c.Messages = messages(tellTo(0, 2, 1), tellTo(1, 7, 2), castTo(1, 7, 0, not(5)), openedTo(0, 2, 7, 1, 9, ready(8)))
	c.Leaders[0].Known = slices.Concat(heardOf(2, 0, ready(0), 0, 1, 2), heardOf(7, 0, not(0), 0, 1, 2), heardOf(7, 0, ready(1), 0, 1, 2))
	c.Leaders[1].Tries = tries(tryOf(2, 1, 4, impl.ValueReady))
	return c
}

func TestSafeClusterOfOthers(t *testing.T) {
	for n := 1; n <= impl.MaxAcceptors; n++ {
		checkSafe(t, "no contract", freshCluster(n), true)
		checkSafe(t, "nothing was asked", freshCluster(n, pair(2), three(4)), true)
	}
	for _, n := range []int{0, 6} {
		checkSafe(t, "no right number of acceptors", freshCluster(n), false)
	}
	// Slots of the first, a middle and the last contract that do not agree.
	split := slotsOf(castOf(ready(0), not(3)), castOf(ready(0), not(3)))
	for _, id := range []int64{2, 4, 9} {
		for _, shard := range []int64{0, 1, 2} {
			c := votedAt(freshCluster(3, three(2), three(4), three(9)), shard, id, impl.ValueReady)
			c.Shards[shard].Held = heldOf(three(id))
			checkSafe(t, "ready", slotsAt(c, id, shard, castOf(ready(0)), castOf(ready(0))), true)
			checkSafe(t, "no quorum for two", slotsAt(c, id, shard, split[0], castOf(ready(0)), castOf(ready(0))), true)
			checkSafe(t, "two values", slotsAt(c, id, shard, split...), false)
		}
	}
	// What is most of one, two, four and five acceptors.
	for n, most := range []int{0, 1, 2, 2, 3, 3} {
		for cast := range n + 1 {
			c := slotsAt(freshCluster(n, pair(7)), 7, 1, slices.Repeat(slotsOf(castOf(ready(0))), cast)...)
			if n > 0 {
				checkSafe(t, fmt.Sprintf("%d of %d are ready", cast, n), c, cast < most)
			}
		}
	}
	checkSafe(t, "a busy cluster, done without an outcome", busyCluster(), false)
}

func TestBooksBalanceOfNothing(t *testing.T) {
	for _, g := range []impl.Ledger{ledger(nil), ledger(bals(bal(0, 0, 9))), ledger(nil, nil), ledger(nil, fullShard(impl.MaxAmount), bals(bal(5, 2, 1)))} {
		c := impl.NewCluster(g, 3).Cluster
		checkBooks(t, "a new cluster", g, c, true)
		fewer, more := cloneLedger(g), cloneLedger(g)
		more.Shards = append(more.Shards, nil)
		fewer.Shards = fewer.Shards[:len(fewer.Shards)-1]
		checkBooks(t, "a shard more", more, c, false)
		checkBooks(t, "a shard less", fewer, c, false)
		for at, list := range g.Shards {
			for i := range list {
				checkBooks(t, "1 more", changedBy(g, at, i, 1), c, false)
				checkBooks(t, "1 less", changedBy(g, at, i, -1), c, false)
				gone := cloneLedger(g)
				gone.Shards[at] = slices.Delete(gone.Shards[at], i, i+1)
				checkBooks(t, "a balance too many", gone, c, false)
				if wide := impl.NewCluster(gone, 3); len(list) > 1 {
					checkBooks(t, "a balance too few", g, wide.Cluster, false)
				}
			}
		}
		for _, wrong := range wrongLedgers() {
			checkBooks(t, "a wrong start", wrong, c, false)
		}
	}
	two := ledger(bals(bal(0, 0, 1)), bals(bal(0, 0, 2)))
	turned := ledger(two.Shards[1], two.Shards[0])
	checkBooks(t, "the other shard's", two, impl.NewCluster(turned, 1).Cluster, false)
	checkBooks(t, "another asset", ledger(bals(bal(0, 1, 1))), impl.NewCluster(ledger(bals(bal(0, 0, 1))), 1).Cluster, false)
	checkBooks(t, "another account", ledger(bals(bal(1, 0, 1))), impl.NewCluster(ledger(bals(bal(0, 0, 1))), 1).Cluster, false)
}

// changedBy is a ledger with an amount that is so much more.
func changedBy(g impl.Ledger, shard, at int, amount int64) impl.Ledger {
	g = cloneLedger(g)
	g.Shards[shard][at].Amount += amount
	return g
}

// booksOf is a cluster of contracts that has these balances.
func booksOf(g impl.Ledger, list ...impl.Contract) impl.Cluster {
	c := impl.NewCluster(g, 3).Cluster
	c.Contracts = list
	return c
}

func TestBooksBalanceOfWhatWasApplied(t *testing.T) {
	start := ledger(bals(bal(0, 0, 9), bal(1, 1, 6)), bals(bal(2, 0, 1)), nil)
	back := contract(9, leg(1, 0, 0, -2), leg(0, 0, 0, 2))
	list := heldOf(pair(2), three(4), back)
	cases := []struct {
		name    string
		applied [3][]int64
		has     impl.Ledger
	}{
		{"nothing", [3][]int64{}, start},
		{"one at one shard", [3][]int64{{2}}, ledger(bals(bal(0, 0, 4), bal(1, 1, 6)), bals(bal(2, 0, 1)), nil)},
		{"one at its other shard", [3][]int64{1: {2}}, ledger(start.Shards[0], bals(bal(0, 0, 5), bal(2, 0, 1)), nil)},
		{"one at both", [3][]int64{{2}, {2}}, ledger(bals(bal(0, 0, 4), bal(1, 1, 6)), bals(bal(0, 0, 5), bal(2, 0, 1)), nil)},
		{"a balance that is gone", [3][]int64{{4}}, ledger(bals(bal(0, 0, 9)), bals(bal(2, 0, 1)), nil)},
		{"one at three", [3][]int64{{4}, {4}, {4}}, ledger(bals(bal(0, 0, 9)), bals(bal(1, 1, 4), bal(2, 0, 1)), bals(bal(1, 1, 2)))},
		{"several", [3][]int64{{4, 2}, {2, 9, 4}, {4}}, ledger(bals(bal(0, 0, 4)), bals(bal(0, 0, 3), bal(1, 1, 4), bal(2, 0, 1)), bals(bal(1, 1, 2)))},
		{"all everywhere", [3][]int64{{9, 4, 2}, {2, 9, 4}, {4}}, ledger(bals(bal(0, 0, 6)), bals(bal(0, 0, 3), bal(1, 1, 4), bal(2, 0, 1)), bals(bal(1, 1, 2)))},
	}
	for _, x := range cases {
		c := booksOf(x.has, list...)
		for at, ids := range x.applied {
			c = appliedAt(c, int64(at), ids...)
		}
		checkClusterRight(t, x.name, c)
		checkBooks(t, x.name, start, c, true)
		checkBooksOtherwise(t, x.name, start, c)
	}
}

// checkBooksOtherwise asks that nothing else balances: each amount of the
// cluster 1 more and 1 less, and a balance too many or too few.
func checkBooksOtherwise(t *testing.T, what string, start impl.Ledger, c impl.Cluster) {
	t.Helper()
	for at := range c.Shards {
		for i, b := range c.Shards[at].Balances {
			for _, by := range []int64{-1, 1} {
				other := cloneCluster(c)
				if other.Shards[at].Balances[i].Amount += by; b.Amount+by > 0 && b.Amount+by <= impl.MaxAmount {
					checkClusterRight(t, what+": 1 more or less", other)
				}
				checkBooks(t, what+": 1 more or less", start, other, false)
			}
			other := cloneCluster(c)
			other.Shards[at].Balances = slices.Delete(other.Shards[at].Balances, i, i+1)
			checkClusterRight(t, what+": a balance too few", other)
			checkBooks(t, what+": a balance too few", start, other, false)
		}
		other := cloneCluster(c)
		other.Shards[at].Balances = append(other.Shards[at].Balances, bal(5, 2, 1))
		checkClusterRight(t, what+": a balance too many", other)
		checkBooks(t, what+": a balance too many", start, other, false)
		for i, id := range c.Shards[at].Applied {
			forgot := cloneCluster(c)
			forgot.Shards[at].Applied = slices.Delete(forgot.Shards[at].Applied, i, i+1)
			forgot.Shards[at].Done = slices.DeleteFunc(forgot.Shards[at].Done, func(m impl.Mark) bool { return m.Contract == id })
			checkClusterRight(t, what+": one was not applied", forgot)
			checkBooks(t, what+": one was not applied", start, forgot, false)
		}
	}
}

// A start with a fault balances nothing, even where its numbers would.
func TestBooksBalanceOfWrongStarts(t *testing.T) {
	c := appliedAt(booksOf(ledger(nil, bals(bal(0, 0, 5))), pair(2)), 1, 2)
	checkBooks(t, "right", ledger(nil, nil), c, true)
	checkBooks(t, "a balance of 0", ledger(nil, bals(bal(0, 0, 0))), c, false)
	checkBooks(t, "a balance of 0 elsewhere", ledger(bals(bal(3, 1, 0)), nil), c, false)
	low := appliedAt(booksOf(ledger(nil, bals(bal(0, 0, 2))), pair(2)), 1, 2)
	checkBooks(t, "below 0", ledger(nil, bals(bal(0, 0, -3))), low, false)
	const most = impl.MaxAmount
	high := appliedAt(booksOf(ledger(bals(bal(0, 0, most)), nil), pair(2)), 0, 2)
	checkBooks(t, "above MaxAmount", ledger(bals(bal(0, 0, most+5)), nil), high, false)
	mixed := booksOf(ledger(bals(bal(0, 0, 1), bal(1, 0, 2))))
	checkBooks(t, "not in order", ledger(bals(bal(1, 0, 2), bal(0, 0, 1))), mixed, false)
	checkBooks(t, "one twice", ledger(bals(bal(0, 0, 1), bal(1, 0, 2), bal(1, 0, 2))), mixed, false)
	checkBooks(t, "one in two parts", ledger(bals(bal(0, 0, 1), bal(1, 0, 1), bal(1, 0, 1))), mixed, false)
	for _, n := range []int64{farLow, farHigh} {
		for at := range 3 {
			b := [3]impl.Balance{bal(n, 0, 1), bal(0, n, 1), bal(0, 0, n)}[at]
			checkBooks(t, "far out", ledger(nil, bals(b)), c, false)
		}
	}
}

// Only what is there at the end is asked: in between there may be less than
// nothing, or too much.
func TestBooksBalanceAtTheEnd(t *testing.T) {
	const most = impl.MaxAmount
	give, take := contract(2, leg(0, 0, 0, most), leg(1, 0, 0, -most)), contract(4, leg(0, 0, 0, -most), leg(1, 0, 0, most))
	start := ledger(bals(bal(0, 0, 7)), bals(bal(0, 0, most)))
	for _, order := range [][]int64{{2, 4}, {4, 2}} {
		c := appliedAt(booksOf(start, give, take), 0, order...)
		checkBooks(t, "given and taken", start, c, true)
		checkBooks(t, "given and taken at both", start, appliedAt(c, 1, order...), true)
		checkBooksOtherwise(t, "given and taken", start, c)
	}
	checkBooks(t, "taken from nothing", start, appliedAt(booksOf(ledger(nil, bals(bal(0, 0, most))), give, take), 0, 4), false)
	checkBooks(t, "given too much", start, appliedAt(booksOf(ledger(bals(bal(0, 0, most)), bals(bal(0, 0, most))), give, take), 0, 2), false)
	var list []impl.Contract
	for id := range int64(20) {
		list = append(list, contract(id+1, leg(0, 5, 2, -most), leg(0, 4, 2, most)))
	}
	deep := appliedAt(booksOf(ledger(nil), list...), 0, numbersFrom(1, 20)...)
	checkBooks(t, "20 times as much as there may be", ledger(bals(bal(5, 2, most))), deep, false)
	for i := range list {
		list[i] = contract(int64(i)+1, leg(0, 5, 2, most-2*most*int64(i%2)), leg(0, 4, 2, 2*most*int64(i%2)-most))
	}
	even := appliedAt(booksOf(ledger(bals(bal(5, 2, most))), list...), 0, numbersFrom(1, 20)...)
	checkBooks(t, "10 times to and fro", ledger(bals(bal(5, 2, most))), even, true)
}

// What is held, said and sent changes no books.
func TestBooksBalanceOfNothingElse(t *testing.T) {
	start := ledger(fullShard(10), fullShard(10), fullShard(10))
	c := heldAt(heldAt(freshCluster(3, pair(2), three(4)), 0, pair(2)), 1, pair(2))
	checkBooks(t, "held", start, c, true)
	checkBooks(t, "told not", start, settledFor(c, 4, 0, 1, 2), true)
	checkBooks(t, "messages", start, withMessages(c, tellTo(0, 2, 1), tellTo(1, 2, 1)), true)
	checkBooks(t, "chosen", start, slotsAt(c, 2, 0, castOf(ready(0)), castOf(ready(0))), true)
	checkBooks(t, "a busy cluster, applied without its legs", start, busyCluster(), false)
	busy := busyCluster()
	busy.Shards[0].Balances = withLegs(busy.Shards[0], three(4))
	checkBooks(t, "a busy cluster, applied with its legs", start, busy, true)
}

func TestDoneOf(t *testing.T) {
	done := func(what string, c impl.Cluster, want ...int64) {
		t.Helper()
		checkClusterRight(t, what, c)
		checkNumbers(t, what, impl.DoneOf(c), impl.IntsResult{List: want})
		checkNumbers(t, what+", told once more", wantDoneOf(c), impl.IntsResult{List: want})
	}
	done("no contract", freshCluster(3))
	c := freshCluster(3, pair(2), three(4), pair(7), contract(9, leg(2, 3, 2, -1), leg(2, 4, 2, 1)), pair(maxId))
	done("none was applied", c)
	done("held", heldAt(heldAt(c, 0, pair(2)), 1, pair(2)))
	done("told not", settledFor(c, 4, 0, 1, 2))
	done("chosen", slotsAt(slotsAt(c, 2, 0, castOf(ready(0)), castOf(ready(0))), 2, 1, castOf(ready(0)), castOf(ready(0))))
	done("one of its shards", appliedAt(c, 0, 4), 4)
	done("the last of its shards", appliedAt(c, 2, 4), 4)
	done("two of its shards", appliedAt(appliedAt(c, 0, 4), 2, 4), 4)
	done("all of its shards", appliedAt(appliedAt(appliedAt(c, 0, 4), 1, 4), 2, 4), 4)
	done("its one shard", appliedAt(c, 2, 9), 9)
	done("here done, there not", settledFor(appliedAt(c, 0, 2), 2, 1), 2)
	done("falling", appliedAt(c, 0, maxId, 7, 4, 2), 2, 4, 7, maxId)
	done("at several shards", appliedAt(appliedAt(appliedAt(c, 1, 7, 2), 0, 7), 2, 9, 4), 2, 4, 7, 9)
	done("others at each", appliedAt(appliedAt(appliedAt(c, 1, 7), 0, maxId), 2, 9), 7, 9, maxId)
	full := fullCluster()
	for at := range int64(3) {
		for id := range int64(20) {
			full = appliedAt(full, at, 20-id)
		}
	}
	done("20 contracts at three shards", full, numbersFrom(1, 20)...)
	done("a busy cluster", busyCluster(), 4)
}

// checkHeld is of a cluster without a fault: so much is held of each asset.
func checkHeld(t *testing.T, what string, c impl.Cluster, want ...int64) {
	t.Helper()
	checkClusterRight(t, what, c)
	for asset, total := range want {
		checkNumber(t, what, impl.HeldTotal(c, int64(asset)), impl.IntResult{Value: total})
		checkNumber(t, what+", told once more", wantHeldTotal(c, int64(asset)), impl.IntResult{Value: total})
	}
	for _, asset := range []int64{farLow, -4, -1, impl.MaxAssets, impl.MaxAssets + 1, farHigh} {
		checkNumber(t, what+": no such asset", impl.HeldTotal(c, asset), impl.IntResult{Code: impl.ErrRange})
	}
}

func TestHeldTotal(t *testing.T) {
	c := freshCluster(3, pair(2), three(4))
	checkHeld(t, "no contract", freshCluster(1), 0, 0, 0)
	checkHeld(t, "nothing is held", c, 0, 0, 0)
	checkHeld(t, "said not", votedAt(c, 0, 2, impl.ValueNot), 0, 0, 0)
	checkHeld(t, "done", appliedAt(appliedAt(c, 0, 2), 1, 2), 0, 0, 0)
	checkHeld(t, "told not", settledFor(c, 2, 0, 1), 0, 0, 0)
	checkHeld(t, "messages", withMessages(c, castTo(0, 2, 0, ready(0))), 0, 0, 0)
	checkHeld(t, "held where it takes", heldAt(c, 0, pair(2)), 5, 0, 0)
	checkHeld(t, "held where it gives", heldAt(c, 1, pair(2)), 0, 0, 0)
	checkHeld(t, "held at both", heldAt(heldAt(c, 0, pair(2)), 1, pair(2)), 5, 0, 0)
	checkHeld(t, "held here, applied there", appliedAt(heldAt(c, 0, pair(2)), 1, 2), 5, 0, 0)
	checkHeld(t, "applied here, held there", appliedAt(heldAt(c, 1, pair(2)), 0, 2), 0, 0, 0)
	checkHeld(t, "two of two assets", heldAt(heldAt(c, 0, pair(2)), 0, three(4)), 5, 6, 0)
	checkHeld(t, "a busy cluster", busyCluster(), 5, 0, 0)

	wide := contract(3, leg(0, 0, 0, -5), leg(0, 1, 0, -2), leg(0, 2, 0, 1), leg(1, 0, 0, -3), leg(2, 0, 0, 9), leg(1, 3, 2, -7), leg(0, 3, 2, 7), leg(2, 5, 2, -1))
	wide.Legs[6].Amount = 8
	c = freshCluster(2, wide, contract(6, leg(1, 3, 0, -4), leg(1, 4, 0, 4)))
	checkHeld(t, "two legs that take at one shard", heldAt(c, 0, wide), 7, 0, 0)
	checkHeld(t, "of two assets at one shard", heldAt(c, 1, wide), 3, 0, 7)
	checkHeld(t, "the third shard", heldAt(c, 2, wide), 0, 0, 1)
	checkHeld(t, "two of three shards", heldAt(heldAt(c, 0, wide), 1, wide), 10, 0, 7)
	all := heldAt(heldAt(heldAt(c, 0, wide), 1, wide), 2, wide)
	checkHeld(t, "all shards", all, 10, 0, 8)
	checkHeld(t, "two contracts", heldAt(all, 1, c.Contracts[1]), 14, 0, 8)

	const most = impl.MaxAmount
	rich := impl.NewCluster(ledger(fullShard(most), fullShard(most), nil), 1).Cluster
	for account := range int64(6) {
		for asset := range int64(3) {
			x := contract(3*account+asset+1, leg(0, account, asset, -most), leg(2, account, asset, most))
			rich.Contracts = append(rich.Contracts, x)
			rich = heldAt(heldAt(rich, 0, x), 2, x)
		}
	}
	checkHeld(t, "all that there is at one shard", rich, 6*most, 6*most, 6*most)
}

func TestStatusText(t *testing.T) {
	says := func(what string, c impl.Cluster, want string) {
		t.Helper()
		checkClusterRight(t, what, c)
		checkText(t, what, impl.StatusText(c), impl.TextResult{Text: want})
		checkText(t, what+", told once more", wantStatusText(c), impl.TextResult{Text: want})
	}
	says("no contract", freshCluster(3), "messages 0\n")
	c := freshCluster(3, pair(2), three(4))
	says("open", c, "contract 2 open\ncontract 4 open\nmessages 0\n")
	says("held", heldAt(heldAt(c, 0, pair(2)), 1, pair(2)), "contract 2 open\ncontract 4 open\nmessages 0\n")
	says("only its first shard knows", appliedAt(c, 0, 2), "contract 2 open\ncontract 4 open\nmessages 0\n")
	says("only its last shard knows", appliedAt(c, 1, 2), "contract 2 open\ncontract 4 open\nmessages 0\n")
	says("only its first shard was told not", settledFor(c, 4, 0), "contract 2 open\ncontract 4 open\nmessages 0\n")
	says("two of three were told not", settledFor(c, 4, 0, 2), "contract 2 open\ncontract 4 open\nmessages 0\n")
	says("done", appliedAt(appliedAt(c, 0, 2), 1, 2), "contract 2 done\ncontract 4 open\nmessages 0\n")
	says("not", settledFor(c, 2, 0, 1), "contract 2 not\ncontract 4 open\nmessages 0\n")
	says("done and not", settledFor(appliedAt(appliedAt(c, 0, 2), 1, 2), 4, 0, 1, 2), "contract 2 done\ncontract 4 not\nmessages 0\n")
	says("not and done", settledFor(appliedAt(appliedAt(appliedAt(c, 2, 4), 0, 4), 1, 4), 2, 0, 1), "contract 2 not\ncontract 4 done\nmessages 0\n")
	says("done by the first shard", settledFor(appliedAt(c, 0, 2), 2, 1), "contract 2 done\ncontract 4 open\nmessages 0\n")
	says("not by the first shard", settledFor(appliedAt(c, 1, 2), 2, 0), "contract 2 not\ncontract 4 open\nmessages 0\n")
	turned := freshCluster(3, contract(8, leg(2, 0, 0, -1), leg(1, 0, 0, 1)))
	says("the first shard has the last leg", settledFor(appliedAt(turned, 1, 8), 8, 2), "contract 8 done\nmessages 0\n")
	says("the last shard has the first leg", settledFor(appliedAt(turned, 2, 8), 8, 1), "contract 8 not\nmessages 0\n")
	says("a message", withMessages(c, askOf(0, 2)), "contract 2 open\ncontract 4 open\nmessages 1\n")
	says("several messages", withMessages(freshCluster(3, pair(maxId)), askOf(0, maxId), askOf(1, maxId)), "contract 1000000000 open\nmessages 2\n")
	says("what was chosen is not told", slotsAt(freshCluster(3, pair(7)), 7, 1, castOf(not(0)), castOf(not(0))), "contract 7 open\nmessages 0\n")
	says("a busy cluster", busyCluster(), "contract 2 open\ncontract 4 open\ncontract 7 not\ncontract 9 open\nmessages 8\n")
	text := ""
	for id := range 20 {
		text += fmt.Sprintf("contract %d open\n", id+1)
	}
	says("a full cluster", fullCluster(), text+"messages 200\n")
}
