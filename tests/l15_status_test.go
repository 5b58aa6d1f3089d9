package tests

import (
	"fmt"
	"slices"
	"testing"

	"loop.example/g00203/impl"
)

// Every client of the busySessions, and others, and each number: what was sent
// is told, if the cluster has it.
func TestStatusAsNumbers(t *testing.T) {
	c := servedCluster()
	there := map[[2]int64]int64{{2, 1}: impl.OutcomeDone, {2, 2}: 0, {2, 3}: impl.OutcomeNot, {40, 1}: 0}
	for _, client := range clientNumbers {
		for _, number := range sentNumbers {
			a := askedAs{list: busySessions(), c: c, client: client, number: number}
			want := impl.Answer{Code: impl.ErrNone}
			if word, found := there[[2]int64{client, number}]; found {
				want = impl.Answer{Word: word, Legs: wantSubmitted(c, 1000*client+number).Legs}
			}
			what := fmt.Sprint("client ", client, ", number ", number)
			checkAnswer(t, what, a.status(), want)
			checkAnswer(t, what+", told once more", a.wantStatus(), want)
		}
	}
}

// What the cluster does not have, or another client sent, or nobody did.
func TestStatusAsOfNothing(t *testing.T) {
	checkServedCode(t, "no sessions", askedAs{nil, servedCluster(), 2, 1, pair(0).Legs}, impl.ErrNone, impl.ErrNone)
	c := freshCluster(3, pair(2), pair(3), pair(1002), pair(2003), pair(3002))
	list := sessions(sessionOf(2, 3), sessionOf(4, 1))
	cases := []struct {
		name           string
		client, number int64
	}{
		{"sent, and not there", 2, 1},
		{"sent, and another client's is there", 2, 2},
		{"not sent, and there", 2, 3},
		{"of a client that sent nothing", 4, 1},
		{"of a client without a session", 3, 2},
		{"of a client without a session, and not there", 3, 1},
		{"of client 0", 0, 2},
		{"of client 0, and sent by nobody", 0, 3},
		{"of a number that adds up to one that is there", 0, 1002},
		{"of a number that takes away to one that is there", 4, -2998},
	}
	for _, x := range cases {
		checkAnswer(t, x.name, impl.StatusAs(list, c, x.client, x.number), impl.Answer{Code: impl.ErrNone})
		checkAnswer(t, x.name+", told once more", askedAs{list: list, c: c, client: x.client, number: x.number}.wantStatus(), impl.Answer{Code: impl.ErrNone})
	}
	r := impl.SubmitAs(list, c, 2, 3, pair(0).Legs)
	checkAnswer(t, "once it is sent", impl.StatusAs(r.Sessions, r.Cluster, 2, 3), impl.Answer{Legs: pair(0).Legs})
	checkAnswer(t, "once it is sent, of the cluster ahead", impl.StatusAs(r.Sessions, c, 2, 3), impl.Answer{Legs: pair(0).Legs})
	checkAnswer(t, "once it is sent, of the sessions ahead", impl.StatusAs(list, r.Cluster, 2, 3), impl.Answer{Code: impl.ErrNone})
}

// The word: nothing as long as a shard was not told, then what the first one
// was told, whatever the order of the legs.
func TestStatusAsWord(t *testing.T) {
	list := sessions(sessionOf(7, 2))
	c := freshCluster(3, three(7001))
	says := func(what string, c impl.Cluster, word int64) {
		t.Helper()
		checkClusterRight(t, what, c)
		checkAnswer(t, what, impl.StatusAs(list, c, 7, 1), impl.Answer{Word: word, Legs: c.Contracts[0].Legs})
	}
	says("nothing was told", c, 0)
	for told := range 8 {
		not, done := c, c
		for at := range int64(3) {
			if told>>at&1 > 0 {
				not, done = settledFor(not, 7001, at), appliedAt(done, at, 7001)
			}
		}
		word := int64(told / 7)
		says(fmt.Sprint("done at the shards ", told), done, word)
		says(fmt.Sprint("not done at the shards ", told), not, 2*word)
	}
	says("held everywhere", heldAt(heldAt(heldAt(c, 0, three(7001)), 1, three(7001)), 2, three(7001)), 0)
	chosen := slotsAt(slotsAt(c, 7001, 0, castOf(ready(0)), castOf(ready(0))), 7001, 1, castOf(not(0)), castOf(not(0)))
	says("it is chosen, and nobody was told", chosen, 0)
	// Where shards were told in two ways the first shard's word is told.
	turned := freshCluster(3, moves(7001, 1, 1, 3))
	says("the first shard: done", settledFor(appliedAt(turned, 0, 7001), 7001, 1), impl.OutcomeDone)
	says("the first shard: not", settledFor(appliedAt(turned, 1, 7001), 7001, 0), impl.OutcomeNot)
	far := freshCluster(3, contract(7001, leg(2, 0, 0, 4), leg(1, 0, 0, -4)))
	says("shard 0 is none of it: done", settledFor(appliedAt(far, 1, 7001), 7001, 2), impl.OutcomeDone)
	says("shard 0 is none of it: not", settledFor(appliedAt(far, 2, 7001), 7001, 1), impl.OutcomeNot)
	alone := freshCluster(3, contract(7001, leg(2, 0, 0, 4), leg(2, 1, 0, -4)))
	says("of one shard, open", alone, 0)
	says("of one shard, done", appliedAt(alone, 2, 7001), impl.OutcomeDone)
	says("of one shard, not", settledFor(alone, 7001, 2), impl.OutcomeNot)
}

// What another one is changes nothing: each is told by itself.
func TestStatusAsOfSeveral(t *testing.T) {
	c := ordered(heldOf(pair(7001), three(7002), moves(7003, 1, 1, 3), chain(8001, 8)), places(7002, 8001), places(7002, 8001), places(8001, 7002))
	c = settledFor(c, 7003, 0, 1)
	list := sessions(sessionOf(7, 4), sessionOf(8, 2))
	for _, x := range []struct{ client, number, word int64 }{{7, 1, 0}, {7, 2, 1}, {7, 3, 2}, {8, 1, 1}} {
		want := impl.Answer{Word: x.word, Legs: wantSubmitted(c, 1000*x.client+x.number).Legs}
		checkAnswer(t, fmt.Sprint("contract ", x), impl.StatusAs(list, c, x.client, x.number), want)
	}
}

// Shards and accounts at their ends and beyond, of clusters of 1 to 3 shards.
func TestStatementOfBounds(t *testing.T) {
	for n := range int64(3) {
		c := freshCluster(3)
		c.Shards = c.Shards[:n+1]
		for _, shard := range []int64{farLow, -1, 0, n, n + 1, 3, farHigh} {
			for _, account := range []int64{farLow, -1, 0, impl.MaxAccounts - 1, impl.MaxAccounts, farHigh} {
				want := impl.LegsResult{Code: impl.ErrRange}
				if shard >= 0 && shard <= n && account >= 0 && account < 6 {
					want.Code = impl.OK
				}
				what := fmt.Sprint(n+1, " shards: ", shard, account)
				checkStatement(t, what, impl.StatementOf(c, shard, account), want)
				checkStatement(t, what+", told once more", wantStatementOf(c, shard, account), want)
			}
		}
	}
}

// checkStatements asks for the legs of every account of every shard: these
// are wanted, and of all others none.
func checkStatements(t *testing.T, what string, c impl.Cluster, want ...impl.Leg) {
	t.Helper()
	checkClusterRight(t, what, c)
	left := want
	for shard := range int64(len(c.Shards)) {
		for account := range int64(6) {
			own := slices.DeleteFunc(slices.Clone(want), func(l impl.Leg) bool { return l.Shard != shard || l.Account != account })
			checkStatement(t, fmt.Sprint(what, ": shard ", shard, ", account ", account), impl.StatementOf(c, shard, account), impl.LegsResult{Legs: own})
			left = left[min(len(own), len(left)):]
		}
	}
	if len(left) > 0 {
		t.Errorf("%s: %d legs are of no account", what, len(left))
	}
}

func TestStatementOf(t *testing.T) {
	both := contract(2, leg(0, 1, 2, 3), leg(1, 1, 2, -3), leg(0, 1, 0, -7), leg(0, 2, 0, 7), leg(0, 1, 1, 1), leg(1, 0, 1, -1))
	checkStatements(t, "nothing was submitted", freshCluster(3))
	checkStatements(t, "nothing was applied", freshCluster(3, both, pair(7)))
	checkStatements(t, "several legs of one account", ordered(heldOf(both), places(2)), leg(0, 1, 2, 3), leg(0, 1, 0, -7), leg(0, 1, 1, 1), leg(0, 2, 0, 7))
	checkStatements(t, "at the other shard", ordered(heldOf(both), nil, places(2)), leg(1, 1, 2, -3), leg(1, 0, 1, -1))
	checkStatements(t, "at both", ordered(heldOf(both), places(2), places(2)), both.Legs...)
	// Several contracts, in the order in which they were applied.
	list := heldOf(pair(2), moves(7, 0, 0, 2), contract(9, leg(0, 0, 0, 1), leg(0, 0, 1, 4), leg(1, 0, 1, -4), leg(1, 0, 0, -1)))
	at := map[int64][]impl.Leg{2: {leg(0, 0, 0, -5)}, 7: {leg(0, 0, 0, -2)}, 9: {leg(0, 0, 0, 1), leg(0, 0, 1, 4)}}
	for _, order := range permutations(places(2, 7, 9)) {
		for n := range len(order) + 1 {
			var want []impl.Leg
			for _, id := range order[:n] {
				want = append(want, at[id]...)
			}
			checkStatements(t, fmt.Sprint("applied ", order[:n]), ordered(list, order[:n]), want...)
		}
	}
	checkStatements(t, "two orders", ordered(list, places(9, 2), places(2, 7)), leg(0, 0, 0, 1), leg(0, 0, 1, 4), leg(0, 0, 0, -5), leg(1, 0, 0, 5), leg(1, 0, 0, 2))
}

// What is not done, held, or done elsewhere has no legs in any statement.
func TestStatementOfOthers(t *testing.T) {
	c := freshCluster(3, pair(2), pair(7), three(9))
	checkStatements(t, "not done", settledFor(c, 2, 0, 1))
	checkStatements(t, "held", heldAt(heldAt(c, 0, pair(2)), 1, pair(2)))
	checkStatements(t, "voted against", votedAt(c, 0, 2, impl.ValueNot))
	c = appliedAt(c, 0, 7)
	checkStatements(t, "one done, one not", settledFor(c, 2, 0, 1), leg(0, 0, 0, -5))
	checkStatements(t, "one done, one held", heldAt(c, 0, pair(2)), leg(0, 0, 0, -5))
	checkStatements(t, "done at one, held at another", heldAt(c, 1, pair(7)), leg(0, 0, 0, -5))
	checkStatements(t, "done at one, not at another", settledFor(c, 7, 1), leg(0, 0, 0, -5))
	checkStatements(t, "one done, one voted against", votedAt(c, 0, 2, impl.ValueNot), leg(0, 0, 0, -5))
	checkStatements(t, "several of all kinds", settledFor(heldAt(appliedAt(c, 1, 9), 0, three(9)), 2, 1), leg(0, 0, 0, -5), leg(1, 1, 1, 4))
	checkStatements(t, "a cluster that served", servedCluster(), three(0).Legs...)
}

// The greatest amounts, each account, and a statement of 20 contracts.
func TestStatementOfMuch(t *testing.T) {
	var list []impl.Contract
	var want []impl.Leg
	for id := int64(20); id >= 1; id-- {
		l := leg(2, 5, 2, impl.MaxAmount-id)
		list = append(list, contract(21-id, leg(2, 0, 2, -l.Amount), l))
		want = append(want, l)
	}
	c := freshCluster(3, list...)
	c = appliedAt(c, 2, numbersFrom(1, 20)...)
	checkStatement(t, "20 contracts", impl.StatementOf(c, 2, 5), impl.LegsResult{Legs: want})
	slices.Reverse(want)
	slices.Reverse(c.Shards[2].Applied)
	checkStatement(t, "20 contracts, turned round", impl.StatementOf(c, 2, 5), impl.LegsResult{Legs: want})
	checkStatement(t, "another account", impl.StatementOf(c, 2, 4), impl.LegsResult{})
	checkStatement(t, "another shard", impl.StatementOf(c, 1, 5), impl.LegsResult{})
}
