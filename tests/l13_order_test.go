package tests

import (
	"fmt"
	"slices"
	"testing"

	"loop.example/g00203/impl"
)

// touching is a contract that gives to account 0 at each of the shards. Two
// such meet just at the shards that both have.
func touching(id int64, shards ...int64) impl.Contract {
	x := contract(id, leg(shards[0], 1, 0, -int64(len(shards))))
	for _, shard := range shards {
		x.Legs = append(x.Legs, leg(shard, 0, 0, 1))
	}
	return x
}

// ordered is a cluster of contracts that were applied so at its shards.
func ordered(list []impl.Contract, applied ...[]int64) impl.Cluster {
	c := freshCluster(3, list...)
	for at, ids := range applied {
		c = appliedAt(c, int64(at), ids...)
	}
	return c
}

// ring has two contracts that were applied in two orders where they meet.
func ring() impl.Cluster {
	return ordered(heldOf(pair(2), pair(7)), places(2, 7), places(7, 2))
}

func checkOrder(t *testing.T, what string, c impl.Cluster, want ...int64) {
	t.Helper()
	checkClusterRight(t, what, c)
	checkOrderResult(t, what, impl.OrderOf(c), impl.OrderResult{Order: want})
	checkOrderResult(t, what+", told once more", wantOrderOf(c), impl.OrderResult{Order: want})
}

func checkNoOrder(t *testing.T, what string, c impl.Cluster) {
	t.Helper()
	checkClusterRight(t, what, c)
	checkOrderResult(t, what, impl.OrderOf(c), impl.OrderResult{Code: impl.ErrForm})
	checkOrderResult(t, what+", told once more", wantOrderOf(c), impl.OrderResult{Code: impl.ErrForm})
	for _, g := range append(wrongLedgers(), ledger(nil), ledger(fullShard(10), fullShard(10), fullShard(10))) {
		checkOutcomes(t, what, impl.ReplayOrder(g, c), impl.OutcomesResult{Code: impl.ErrForm})
	}
}

func TestOrderOfWhatDoesNotMeet(t *testing.T) {
	checkOrder(t, "no contract", freshCluster(3))
	checkOrder(t, "none was applied", freshCluster(3, pair(2), three(4)))
	checkOrder(t, "told not", settledFor(freshCluster(3, pair(2)), 2, 0, 1))
	checkOrder(t, "held", heldAt(freshCluster(3, pair(2)), 0, pair(2)))
	checkOrder(t, "one", ordered(heldOf(pair(2)), places(2), places(2)), 2)
	checkOrder(t, "one, here and not there", ordered(heldOf(pair(2)), nil, places(2)), 2)
	apart := heldOf(moves(2, 0, 0, 1), moves(4, 1, 0, 1), moves(7, 0, 1, 1))
	checkOrder(t, "the least first", ordered(apart, places(7, 4, 2), places(7, 4, 2)), 2, 4, 7)
	checkOrder(t, "in several orders", ordered(apart, places(4, 7, 2), places(2, 7, 4)), 2, 4, 7)
	checkOrder(t, "each at one shard", ordered(apart, places(7), places(4, 2)), 2, 4, 7)
	others := heldOf(contract(2, leg(0, 0, 0, -1), leg(0, 1, 0, 1)), contract(4, leg(1, 0, 0, -1), leg(1, 1, 0, 1)), contract(7, leg(2, 0, 0, -1), leg(2, 1, 0, 1)))
	checkOrder(t, "one account and asset of several shards", ordered(others, places(2), places(4), places(7)), 2, 4, 7)
	busy := ordered(append(apart, three(9)), places(9, 7), places(4), places(9))
	checkOrder(t, "beside one of three shards", busy, 4, 7, 9)
	checkOrder(t, "a busy cluster", busyCluster(), 4)
}

func TestOrderOfWhatMeets(t *testing.T) {
	two := heldOf(touching(2, 0), touching(4, 0))
	checkOrder(t, "at one shard, as their numbers", ordered(two, places(2, 4)), 2, 4)
	checkOrder(t, "at one shard, against their numbers", ordered(two, places(4, 2)), 4, 2)
	last := heldOf(touching(2, 2, 0), touching(4, 2, 1))
	checkOrder(t, "at the last shard, as their numbers", ordered(last, places(2), places(4), places(2, 4)), 2, 4)
	checkOrder(t, "at the last shard, against their numbers", ordered(last, places(2), places(4), places(4, 2)), 4, 2)
	wide := heldOf(touching(2, 0, 1, 2), touching(4, 0, 1, 2))
	checkOrder(t, "at several shards, as their numbers", ordered(wide, places(2, 4), places(2, 4), places(2, 4)), 2, 4)
	checkOrder(t, "at several shards, against their numbers", ordered(wide, places(4, 2), places(4, 2), places(4, 2)), 4, 2)
	// At shard 0 they do not meet, so that order counts nowhere.
	here := heldOf(contract(2, leg(0, 1, 0, -1), leg(1, 0, 0, 1)), contract(4, leg(0, 2, 0, -1), leg(1, 0, 0, 1)))
	checkOrder(t, "elsewhere in another order", ordered(here, places(2, 4), places(4, 2)), 4, 2)
	checkOrder(t, "elsewhere in another order, the least first", ordered(here, places(4, 2), places(2, 4)), 2, 4)
	// They have an account and an asset in common, but not both together.
	cross := heldOf(contract(2, leg(0, 0, 0, -1), leg(0, 1, 0, 1), leg(0, 0, 1, 1), leg(0, 2, 1, -1)), contract(4, leg(0, 0, 2, -1), leg(0, 1, 2, 1), leg(0, 3, 0, 1), leg(0, 4, 0, -1)))
	checkOrder(t, "accounts and assets apart", ordered(cross, places(4, 2)), 2, 4)
	third := contract(4, leg(0, 5, 0, 2), leg(0, 4, 0, -2), leg(0, 2, 1, -1), leg(0, 4, 1, 1))
	checkOrder(t, "by their last legs", ordered(heldOf(cross[0], third), places(4, 2)), 4, 2)
	// Legs may give or take.
	turned := heldOf(pair(2), contract(4, leg(1, 0, 0, -5), leg(0, 0, 0, 5)))
	checkOrder(t, "there and back", ordered(turned, places(4, 2), places(4, 2)), 4, 2)
}

func TestOrderOfSeveral(t *testing.T) {
	three := heldOf(touching(2, 0), touching(4, 0), touching(7, 0))
	for _, order := range permutations(places(2, 4, 7)) {
		checkOrder(t, "all meet", ordered(three, order), order...)
	}
	// 7 and 4 meet at shard 0, 4 and 2 at shard 1.
	chained := heldOf(touching(2, 1), touching(4, 0, 1), touching(7, 0))
	checkOrder(t, "a chain that falls", ordered(chained, places(7, 4), places(4, 2)), 7, 4, 2)
	checkOrder(t, "a chain that rises", ordered(chained, places(4, 7), places(2, 4)), 2, 4, 7)
	checkOrder(t, "the middle one first", ordered(chained, places(4, 7), places(4, 2)), 4, 2, 7)
	checkOrder(t, "the middle one last", ordered(chained, places(7, 4), places(2, 4)), 2, 7, 4)
	// Behind each one the least is taken, not the least of those that wait.
	late := heldOf(touching(1, 0), touching(5, 1), touching(6, 1), touching(9, 0))
	checkOrder(t, "the least one as soon as it can be", ordered(late, places(9, 1), places(6, 5)), 6, 5, 9, 1)
	checkOrder(t, "the least ones first", ordered(late, places(1, 9), places(6, 5)), 1, 6, 5, 9)
	var list []impl.Contract
	for id := range int64(20) {
		list = append(list, pair(id+1))
	}
	falling := numbersFrom(1, 20)
	slices.Reverse(falling)
	checkOrder(t, "20 that meet, against their numbers", ordered(list, falling, falling), falling...)
	checkOrder(t, "20 that meet", ordered(list, numbersFrom(1, 20), numbersFrom(1, 20)), numbersFrom(1, 20)...)
	checkOrder(t, "20 that meet, 10 not there yet", ordered(list, falling, falling[:10]), falling...)
}

// permutations are all orders of the numbers.
func permutations(list []int64) [][]int64 {
	if len(list) == 0 {
		return [][]int64{nil}
	}
	var all [][]int64
	for i, first := range list {
		for _, rest := range permutations(slices.Delete(slices.Clone(list), i, i+1)) {
			all = append(all, append([]int64{first}, rest...))
		}
	}
	return all
}

// What is applied here and not yet there stands behind all that was applied
// there and meets it there.
func TestOrderOfWhatIsNotYetThere(t *testing.T) {
	both := heldOf(touching(2, 0, 1), touching(4, 1, 2))
	checkOrder(t, "2 is not yet there", ordered(both, places(2), places(4), places(4)), 4, 2)
	checkOrder(t, "2 is not yet there, and 4 not at its other shard", ordered(both, places(2), places(4)), 4, 2)
	checkOrder(t, "4 is not yet there", ordered(both, places(2), places(2), places(4)), 2, 4)
	checkOrder(t, "neither is there yet", ordered(both, places(2), nil, places(4)), 2, 4)
	checkOrder(t, "both are there", ordered(both, places(2), places(4, 2), places(4)), 4, 2)
	// Where they do not meet it does not matter who is there.
	apart := heldOf(contract(2, leg(0, 0, 0, -1), leg(1, 0, 0, 1)), contract(4, leg(1, 1, 0, -1), leg(2, 0, 0, 1)))
	checkOrder(t, "they do not meet there", ordered(apart, places(2), places(4), places(4)), 2, 4)
	// They meet at both shards.
	two := heldOf(pair(2), pair(7))
	checkOrder(t, "7 is nowhere ahead", ordered(two, places(2, 7), places(2)), 2, 7)
	checkOrder(t, "2 is not yet at the second", ordered(two, places(7, 2), places(7)), 7, 2)
	checkOrder(t, "7 is not done anywhere", ordered(two, places(2), places(2)), 2)
	checkNoOrder(t, "7 ahead of 2 here, and 2 alone there", ordered(two, places(7, 2), places(2)))
	checkNoOrder(t, "each alone at one of two", ordered(two, places(2), places(7)))
	// 2 waits at shard 1 for 4, which waits at shard 2 for 7.
	chained := heldOf(touching(2, 0, 1), touching(4, 1, 2), touching(7, 2))
	checkOrder(t, "one waits for another", ordered(chained, places(2), places(4), places(7)), 7, 4, 2)
	// One that is held here, done there, beside one of which it was told not.
	c := heldAt(ordered(both, places(2), places(4), places(4)), 1, both[0])
	checkOrder(t, "held where it is not yet applied", c, 4, 2)
	checkOrder(t, "told not where it meets", settledFor(ordered(both, places(2), places(4), places(4)), 2, 1), 4, 2)
}

func TestOrderInARing(t *testing.T) {
	checkNoOrder(t, "two", ring())
	three := heldOf(touching(2, 0, 2), touching(4, 0, 1), touching(7, 1, 2))
	checkNoOrder(t, "three", ordered(three, places(2, 4), places(4, 7), places(7, 2)))
	checkNoOrder(t, "three, the other way round", ordered(three, places(4, 2), places(7, 4), places(2, 7)))
	checkOrder(t, "three that are in no ring", ordered(three, places(4, 2), places(4, 7), places(7, 2)), 4, 7, 2)
	beside := append(heldOf(touching(1, 2)), three...)
	checkNoOrder(t, "one ahead of a ring", ordered(beside, places(2, 4), places(4, 7), places(1, 7, 2)))
	checkNoOrder(t, "one behind a ring", ordered(beside, places(2, 4), places(4, 7), places(7, 2, 1)))
	apart := append(three, contract(9, leg(2, 5, 2, -1), leg(2, 4, 2, 1)))
	checkNoOrder(t, "one apart from a ring", ordered(apart, places(2, 4), places(4, 7), places(9, 7, 2)))
	checkNoOrder(t, "a ring by what is not yet there", ordered(three, places(2), places(4), places(7)))
	checkOrder(t, "no ring, by what is not yet there", ordered(three, places(2, 4), places(7), places(2)), 2, 7, 4)
	c := ring()
	c.Messages, c.Leaders[0].Count = messages(askOf(0, 2)), 400
	checkNoOrder(t, "with messages and ballots", c)
}

// Every order in which three contracts may have been applied at three shards,
// each everywhere, somewhere or nowhere, told once more.
func TestEveryOrderOfThree(t *testing.T) {
	var some [][]int64
	for choice := range uint(8) {
		var list []int64
		for _, i := range placesIn(choice) {
			list = append(list, []int64{2, 4, 7}[i])
		}
		some = append(some, permutations(list)...)
	}
	// Where they meet: everywhere; in pairs; two of them everywhere; never.
	alone := func(id int64) impl.Contract {
		return contract(id, leg(0, id%6, 0, -2), leg(1, id%6, 0, 1), leg(2, id%6, 0, 1))
	}
	meeting := func(id, one, other int64) impl.Contract {
		return contract(id, append(alone(id).Legs, leg(one, 0, 1, 1), leg(other, 0, 1, 1), leg(one, id%6, 1, -2))...)
	}
	worlds := [][]impl.Contract{
		heldOf(three(2), three(4), three(7)),
		heldOf(meeting(2, 0, 1), meeting(4, 1, 2), meeting(7, 2, 0)),
		heldOf(three(2), three(4), alone(7)),
		heldOf(alone(2), alone(4), alone(7)),
	}
	codes := map[int64]int{}
	for _, list := range worlds {
		for n := range len(some) * len(some) * len(some) {
			c := ordered(list, some[n%len(some)], some[n/len(some)%len(some)], some[n/len(some)/len(some)])
			got := impl.OrderOf(c)
			codes[got.Code]++
			checkOrderResult(t, "applied in any order", got, wantOrderOf(c))
			if t.Failed() {
				t.Fatalf("%+v", c)
			}
		}
	}
	if codes[impl.OK] < 5000 || codes[impl.ErrForm] < 3000 || len(codes) > 2 {
		t.Errorf("codes %v", codes)
	}
}

func TestReplayOrder(t *testing.T) {
	tell := func(what string, start impl.Ledger, c impl.Cluster, has impl.Ledger, outcomes ...int64) {
		t.Helper()
		want := impl.OutcomesResult{Outcomes: outcomes, Ledger: has}
		checkClusterRight(t, what, c)
		checkOutcomes(t, what, impl.ReplayOrder(start, c), want)
		checkOutcomes(t, what+", told once more", wantReplayOrder(start, c), want)
	}
	start := ledger(bals(bal(0, 0, 5)), nil, nil)
	back := contract(4, leg(1, 0, 0, -5), leg(0, 0, 0, 5))
	list := heldOf(pair(2), back, pair(7))
	tell("nothing was applied", start, ordered(list), start)
	tell("no contract", ledger(nil), freshCluster(1), ledger(nil))
	moved := ledger(nil, bals(bal(0, 0, 5)), nil)
	tell("one", start, ordered(list, places(2), places(2)), moved, impl.OutcomeDone)
	tell("one, not yet there", start, ordered(list, nil, places(2)), moved, impl.OutcomeDone)
	tell("there and back", start, ordered(list, places(2, 4), places(2, 4)), start, impl.OutcomeDone, impl.OutcomeDone)
	tell("back first", start, ordered(list, places(4, 2), places(4, 2)), moved, impl.OutcomeNot, impl.OutcomeDone)
	tell("there, back and there", start, ordered(list, places(7, 4, 2), places(7, 4, 2)), moved, impl.OutcomeDone, impl.OutcomeDone, impl.OutcomeDone)
	tell("there twice, and back", start, ordered(list, places(2, 7, 4), places(2, 7, 4)), start, impl.OutcomeDone, impl.OutcomeNot, impl.OutcomeDone)
	tell("nobody has anything", ledger(nil, nil, nil), ordered(list, places(2), places(2)), ledger(nil, nil, nil), impl.OutcomeNot)
	const most = impl.MaxAmount
	full := ledger(bals(bal(0, 0, 5)), bals(bal(0, 0, most)))
	tell("more than there may be", full, ordered(list, places(2), places(2)), full, impl.OutcomeNot)
	tell("fewer shards than the cluster", ledger(bals(bal(0, 0, 5))), ordered(list, places(2), places(2)), ledger(bals(bal(0, 0, 5))), impl.OutcomeNot)
	narrow := withMessages(ordered(list, places(2), places(2)))
	narrow.Shards = narrow.Shards[:2]
	tell("more shards than the cluster", start, narrow, moved, impl.OutcomeDone)
	tell("the cluster's balances do not count", start, booksOf(ledger(fullShard(1)), heldOf()...), start)
	inside := heldOf(contract(1, leg(0, 0, 0, -5), leg(0, 1, 0, 5)), contract(3, leg(0, 1, 0, -5), leg(0, 2, 0, 5)))
	tell("the least first, but it meets", start, ordered(inside, places(1, 3)), ledger(bals(bal(2, 0, 5)), nil, nil), impl.OutcomeDone, impl.OutcomeDone)
	tell("against their numbers", start, ordered(inside, places(3, 1)), ledger(bals(bal(1, 0, 5)), nil, nil), impl.OutcomeNot, impl.OutcomeDone)
}

// The codes of SettleAll but that of more than 100 contracts, which no cluster
// has; behind those of OrderOf.
func TestReplayOrderCodes(t *testing.T) {
	codes := map[int64]int{}
	for _, c := range []impl.Cluster{freshCluster(1), freshCluster(3, pair(2)), ordered(heldOf(pair(2), pair(7)), places(7, 2), places(7, 2)), ordered(heldOf(pair(2)), places(2))} {
		for i, g := range wrongLedgers() {
			code := wantLedgerFault(g)
			codes[code]++
			checkOutcomes(t, fmt.Sprint("ledger ", i), impl.ReplayOrder(g, c), impl.OutcomesResult{Code: code})
		}
		for _, n := range []int64{farLow, -1, 6, farHigh} {
			checkOutcomes(t, "an account", impl.ReplayOrder(ledger(bals(bal(n, 0, 1))), c), impl.OutcomesResult{Code: impl.ErrRange})
			checkOutcomes(t, "an asset", impl.ReplayOrder(ledger(bals(bal(0, n, 1))), c), impl.OutcomesResult{Code: impl.ErrRange})
		}
		for _, n := range []int64{farLow, -1, 0, impl.MaxAmount + 1, farHigh} {
			checkOutcomes(t, "an amount", impl.ReplayOrder(ledger(bals(bal(0, 0, n))), c), impl.OutcomesResult{Code: impl.ErrRange})
		}
	}
	if codes[impl.ErrMany] == 0 || codes[impl.ErrRange] == 0 || codes[impl.ErrForm] == 0 || len(codes) > 3 {
		t.Errorf("codes %v", codes)
	}
}
