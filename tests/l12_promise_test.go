package tests

import (
	"fmt"
	"reflect"
	"slices"
	"testing"

	"loop.example/g00203/impl"
)

// totalsOf are what all have together, of each asset.
func totalsOf(t *testing.T, g impl.Ledger) [impl.MaxAssets]int64 {
	t.Helper()
	var list [impl.MaxAssets]int64
	for asset := range list {
		r := impl.TotalOf(g, int64(asset))
		if r.Code != impl.OK {
			t.Fatalf("TotalOf %v: %d", g, r.Code)
		}
		list[asset] = r.Value
	}
	return list
}

// mostCast is how many votes stand in the fullest slot.
func mostCast(c impl.Cluster) int {
	most := 0
	for _, a := range c.Acceptors {
		for _, s := range a.Slots {
			most = max(most, len(s.Cast))
		}
	}
	return most
}

// checkDrivenOn asks promise 13 of a cluster that came of start. It tells the
// cluster then, and what became of it: "drained", or why nothing is promised.
func checkDrivenOn(t *testing.T, start, c impl.Cluster) (impl.Cluster, string) {
	t.Helper()
	rounds := impl.RoundsFor(c)
	if rounds.Code != impl.OK {
		t.Fatalf("RoundsFor %d of %+v", rounds.Code, c)
	}
	if rounds.Value > impl.MaxRounds {
		checkClusterCode(t, "more than MaxRounds", impl.DrainCluster(c, rounds.Value), impl.ErrRange)
		return c, "too far"
	}
	r := impl.DrainCluster(c, rounds.Value)
	if r.Code != impl.OK {
		checkClusterCode(t, "no room", r, impl.ErrMany)
		return c, "no room"
	}
	if mostCast(r.Cluster) >= 60 {
		return c, "60 cast"
	}
	checkNumbers(t, "OpenOf behind the rounds that are told", impl.OpenOf(r.Cluster), impl.IntsResult{})
	if len(r.Cluster.Messages) > 0 {
		t.Errorf("messages behind the rounds that are told: %+v", r.Cluster.Messages)
	}
	before, after := totalsOf(t, impl.LedgerOf(start).Ledger), totalsOf(t, impl.LedgerOf(r.Cluster).Ledger)
	if before != after {
		t.Errorf("totals %v, then %v", before, after)
	}
	for _, x := range r.Cluster.Contracts {
		outcome := impl.OutcomeAt(r.Cluster, x.Id)
		for _, shard := range shardsIn(x) {
			checkNumber(t, "the outcome at a shard", outcome, impl.IntResult{Value: toldIn(r.Cluster.Shards[shard].Done, x.Id)})
		}
	}
	if t.Failed() {
		t.Fatalf("%d rounds of %+v", rounds.Value, c)
	}
	return r.Cluster, "drained"
}

// lostFrom throws what is lost of a cluster at the end: messages, and what
// leaders remember.
func (d *dice) lostFrom(c impl.Cluster) impl.Cluster {
	share := d.below(5)
	for at := int64(len(c.Messages)) - 1; at >= 0; at-- {
		if d.below(4) < share {
			c = impl.DropMessage(c, at).Cluster
		}
	}
	for leader := range int64(2) {
		if d.below(3) == 0 {
			c = impl.CrashLeader(c, leader).Cluster
		}
	}
	return c
}

// Promise 13, behind very many calls that are thrown, and with much of it
// lost.
func TestDrivenOnNothingIsOpen(t *testing.T) {
	d := dice(181)
	became, ends, opened := map[string]int{}, map[int64]int{}, 0
	for walk := range 900 {
		w := d.clusterWorld([]int{1, 2, 5, 12, 20}[walk%5], walk%6 > 0)
		c := w.start
		for range d.below(240) {
			if r := d.clusterCall(w, c).run(c); r.Code == impl.OK {
				c = r.Cluster
			}
		}
		if walk%2 > 0 {
			c = d.lostFrom(c)
		}
		opened += len(impl.OpenOf(c).List)
		end, what := checkDrivenOn(t, w.start, c)
		became[what]++
		if what != "drained" {
			continue
		}
		for _, s := range end.Shards {
			for _, m := range s.Done {
				ends[m.Value]++
			}
		}
	}
	if became["drained"] < 800 || became["no room"] < 5 || became["too far"] < 5 || opened < 1500 {
		t.Errorf("%v, %d open", became, opened)
	}
	if ends[impl.OutcomeDone] < 300 || ends[impl.OutcomeNot] < 1500 {
		t.Errorf("outcomes %v", ends)
	}
}

// Behind a cluster that was drained others are submitted, and so on: it is
// driven on over and over.
func TestDrivenOnOverAndOver(t *testing.T) {
	d := dice(182)
	became := map[string]int{}
	for range 60 {
		w := d.clusterWorld(18, true)
		c := w.start
		for at := 0; at < len(w.contracts); at += 3 {
			for _, x := range w.contracts[at : at+3] {
				c = impl.SubmitContract(c, x).Cluster
				for range d.below(12) {
					if r := d.clusterCall(clusterWorld{contracts: w.contracts[at : at+3], calm: true}, c).run(c); r.Code == impl.OK {
						c = r.Cluster
					}
				}
			}
			var what string
			c, what = checkDrivenOn(t, w.start, d.lostFrom(c))
			became[what]++
			if what != "drained" {
				break
			}
		}
	}
	if became["drained"] < 250 {
		t.Errorf("%v", became)
	}
}

// steps are all clusters between the first message and the last, each behind a
// delivery of the first one or a tick.
func steps(t *testing.T, c impl.Cluster) []impl.Cluster {
	t.Helper()
	list := []impl.Cluster{c}
	for {
		r := impl.DeliverMessage(c, 0)
		if open := impl.OpenOf(c).List; len(c.Messages) == 0 && len(open) > 0 {
			r = impl.TickLeader(c, 0, open[0])
		} else if len(c.Messages) == 0 {
			return list
		}
		if r.Code != impl.OK {
			t.Fatalf("code %d of %+v", r.Code, c)
		}
		c = r.Cluster
		list = append(list, c)
	}
}

// Promise 13, wherever a message is lost, or all of them, or all that a leader
// or both remember.
func TestDrivenOnWhateverWasLost(t *testing.T) {
	g := ledger(bals(bal(0, 0, 9), bal(1, 1, 6)), bals(bal(0, 0, 1)), nil)
	start := impl.NewCluster(g, 3).Cluster
	c := impl.SubmitContract(impl.SubmitContract(start, pair(1)).Cluster, three(4)).Cluster
	c = impl.SubmitContract(c, contract(6, leg(1, 0, 0, -6), leg(0, 2, 0, 6))).Cluster
	late := impl.DropMessage(impl.DropMessage(c, 3).Cluster, 0).Cluster
	drained := func(c impl.Cluster) {
		t.Helper()
		if _, what := checkDrivenOn(t, start, c); what != "drained" {
			t.Fatalf("%s: %+v", what, c)
		}
	}
	for _, from := range []impl.Cluster{c, late} {
		for _, c := range steps(t, from) {
			drained(c)
			for at := range c.Messages {
				drained(impl.DropMessage(c, int64(at)).Cluster)
			}
			first, second := impl.CrashLeader(c, 0).Cluster, impl.CrashLeader(c, 1).Cluster
			both := impl.CrashLeader(first, 1).Cluster
			for _, c := range []impl.Cluster{c, first, second, both} {
				drained(c)
				drained(withMessages(c))
			}
		}
	}
}

// outbid lets leader 1 begin so many ballots for contract 1, of which the
// first acceptors hear; what they answer is lost.
func outbid(c impl.Cluster, ballots, reached int) impl.Cluster {
	kept := len(c.Messages)
	for range ballots {
		c = impl.TickLeader(c, 1, 1).Cluster
		for len(c.Messages) > kept {
			if m := c.Messages[kept]; m.Kind == impl.KindOpen && m.To < int64(reached) {
				c = impl.DeliverMessage(c, int64(kept)).Cluster
			} else {
				c = impl.DropMessage(c, int64(kept)).Cluster
			}
		}
	}
	return c
}

// Promise 13 where another leader is ahead by as many ballots as can be made
// up for in MaxRounds, at none, one, most or all of the acceptors.
func TestDrivenOnBehindAnotherLeader(t *testing.T) {
	start := impl.NewCluster(ledger(bals(bal(0, 0, 9)), nil), 3).Cluster
	asked := impl.SubmitContract(start, pair(1)).Cluster
	for ballots := range 46 {
		for reached := range 4 {
			for _, c := range []impl.Cluster{asked, withMessages(asked)} {
				c = outbid(c, ballots, reached)
				checkNumber(t, "RoundsFor", impl.RoundsFor(c), impl.IntResult{Value: int64(24 + 4*ballots)})
				end, what := checkDrivenOn(t, start, c)
				if (what == "drained") != (ballots < 45) {
					t.Fatalf("%d ballots: %s", ballots, what)
				}
				count := end.Leaders[0].Count
				if what == "drained" && ballots > 0 && reached > 1 && count != int64(ballots)+1 {
					t.Errorf("%d ballots, %d reached: Count %d", ballots, reached, count)
				}
			}
		}
	}
}

// Promise 13, for all that a few calls can make of new clusters: of every so
// many of them.
func TestDrivenOnEveryClusterOfAFewCalls(t *testing.T) {
	inside := heldOf(contract(3, leg(0, 0, 0, -9), leg(0, 1, 0, 9)))
	fresh := func(n int64, shards ...[]impl.Balance) impl.Cluster {
		return impl.NewCluster(ledger(shards...), n).Cluster
	}
	worlds := []struct {
		f           fewCalls
		each, least int
	}{
		{fewCalls{fresh(1, bals(bal(0, 0, 9))), inside, 3, 0, nothingIsLeftOut}, 1, 500},
		{fewCalls{fresh(1, bals(bal(0, 0, 9))), inside, 3, 1, mostIsLeftOut}, 1, 300},
		{fewCalls{fresh(1, bals(bal(0, 0, 8))), inside, 3, 1, mostIsLeftOut}, 1, 300},
		{fewCalls{fresh(1, bals(bal(0, 0, 9)), nil), heldOf(pair(7)), 3, 1, mostIsLeftOut}, 2, 10000},
		{fewCalls{fresh(3, bals(bal(0, 0, 9))), inside, 3, 1, mostIsLeftOut}, 5, 20000},
	}
	for i, w := range worlds {
		every := w.f.every()
		for at := 0; at < len(every); at += w.each {
			if _, what := checkDrivenOn(t, w.f.start, every[at]); what != "drained" {
				t.Fatalf("world %d: %s: %+v", i, what, every[at])
			}
		}
		if len(every) < w.least {
			t.Errorf("world %d: only %d clusters", i, len(every))
		}
	}
}

// A slot that comes to have 60 votes Cast accepts no other: nothing is
// promised then, and a cluster goes on ticking.
func TestDrivenOnWithFullSlots(t *testing.T) {
	c := freshCluster(1, pair(7))
	full := slotOf(59, manyVotes(60, 0, 1)...)
	c.Acceptors[0].Slots = slotsOf(elsewhere(full, 7, 0), elsewhere(full, 7, 1))
	c.Leaders[0].Count = 30
	checkClusterRight(t, "60 cast", c)
	r := impl.DrainCluster(c, impl.RoundsFor(c).Value)
	checkClusterResult(t, "60 cast", r, wantDrainCluster(c, 144))
	checkNumbers(t, "60 cast: OpenOf", impl.OpenOf(r.Cluster), impl.IntsResult{List: places(7)})
}

// driveCalls are all functions of chapter 12 as they may be asked of a cluster.
func driveCalls(c impl.Cluster) map[string]func(c impl.Cluster) any {
	calls := map[string]func(c impl.Cluster) any{
		"OpenOf":       func(c impl.Cluster) any { return impl.OpenOf(c) },
		"RoundCluster": func(c impl.Cluster) any { return impl.RoundCluster(c) },
		"LedgerOf":     func(c impl.Cluster) any { return impl.LedgerOf(c) },
		"RoundsFor":    func(c impl.Cluster) any { return impl.RoundsFor(c) },
	}
	for _, n := range []int64{-1, 0, 1, 2, 5, 200, 201} {
		calls[fmt.Sprint("DrainCluster ", n)] = func(c impl.Cluster) any { return impl.DrainCluster(c, n) }
	}
	for _, x := range append(heldOf(pair(0), pair(2), pair(farHigh)), c.Contracts...) {
		calls[fmt.Sprint("SettledAt ", x.Id)] = func(c impl.Cluster) any { return impl.SettledAt(c, x.Id) }
		calls[fmt.Sprint("OutcomeAt ", x.Id)] = func(c impl.Cluster) any { return impl.OutcomeAt(c, x.Id) }
	}
	return calls
}

// driveArgs are right and wrong clusters, such among them where nothing
// changes.
func driveArgs() []impl.Cluster {
	settled := settledFor(freshCluster(3, pair(7)), 7, 0, 1)
	spent := freshCluster(2, pair(7))
	spent.Leaders[0].Count = 400
	list := append(clusterArgs(), settled, spent, deafTo(freshCluster(3, pair(2), three(4))), withMessages(settled, tellTo(0, 7, 2)), withMessages(freshCluster(3, pair(7)), askOf(0, 7), askOf(1, 7)))
	full := fullCluster()
	return append(list, withMessages(full, full.Messages[:20]...))
}

// Promise 1: an answer at every argument that hangs on it alone, in new
// memory, also where nothing changes.
func TestDriveAnswersAreNewMemory(t *testing.T) {
	for _, c := range driveArgs() {
		checkPure(t, "OpenOf", impl.OpenOf, c)
		checkPure(t, "RoundCluster", impl.RoundCluster, c)
		checkPure(t, "LedgerOf", impl.LedgerOf, c)
		checkPure(t, "RoundsFor", impl.RoundsFor, c)
		for _, n := range roundNumbers {
			checkPure(t, "DrainCluster", impl.DrainCluster, c, n)
			checkPure(t, "SettledAt", impl.SettledAt, c, n)
			checkPure(t, "OutcomeAt", impl.OutcomeAt, c, n)
		}
		for _, x := range c.Contracts {
			checkPure(t, "SettledAt", impl.SettledAt, c, x.Id)
			checkPure(t, "OutcomeAt", impl.OutcomeAt, c, x.Id)
		}
	}
}

// Where nothing changes an answer is as the argument, and lies elsewhere.
func TestDrivesThatChangeNothing(t *testing.T) {
	busy, settled := busyCluster(), settledFor(freshCluster(3, pair(7), three(9)), 7, 0, 1)
	settled = settledFor(settled, 9, 0, 1, 2)
	for _, x := range []struct {
		name string
		c    impl.Cluster
		f    func(c impl.Cluster) impl.ClusterResult
	}{
		{"no round", busy, func(c impl.Cluster) impl.ClusterResult { return impl.DrainCluster(c, 0) }},
		{"nothing to do", settled, impl.RoundCluster},
		{"nothing to do in one round", settled, func(c impl.Cluster) impl.ClusterResult { return impl.DrainCluster(c, 1) }},
		{"nothing to do in many", settled, func(c impl.Cluster) impl.ClusterResult { return impl.DrainCluster(c, 200) }},
	} {
		before := cloneCluster(x.c)
		r := x.f(x.c)
		checkClusterTold(t, x.name, r, before)
		checkApart(t, reflect.ValueOf(r), reflect.ValueOf(x.c))
		checkPure(t, x.name, x.f, x.c)
		scramble(reflect.ValueOf(&r).Elem())
		if !sameClusters(x.c, before) {
			t.Errorf("%s: changed", x.name)
		}
	}
}

// Lists of one memory are not changed, and each one of an answer is for
// itself, and none of two answers is the other's.
func TestDrivesOfOneMemoryAreNotChanged(t *testing.T) {
	c := clusterOfOneMemory(slices.Grow(pair(0).Legs, 4))
	balances := slices.Grow(fullShard(9), 4)
	c.Shards[0].Balances, c.Shards[1].Balances = balances, balances
	kept, own := keptOf(c), cloneCluster(c)
	for name, call := range driveCalls(c) {
		kept.check(t, name, call(c), call(own))
	}
}

// Nil and what is empty are one value: they have one answer.
func TestDrivesOfNilAndEmpty(t *testing.T) {
	d := dice(183)
	list := append(driveArgs(), impl.NewCluster(ledger(nil, nil), 2).Cluster)
	for range 20 {
		c, _ := d.oddCluster()
		list = append(list, c)
	}
	for _, c := range list {
		none, empty := nilled(c), emptied(c)
		for name, call := range driveCalls(c) {
			if a, b := call(none), call(empty); !reflect.DeepEqual(a, b) {
				t.Fatalf("%s: nil %+v, empty %+v", name, a, b)
			}
		}
	}
}

// checkDriven holds all functions of chapter 12 against what is wanted.
func checkDriven(t *testing.T, c impl.Cluster, rounds int64, ids ...int64) int64 {
	t.Helper()
	checkNumbers(t, "OpenOf", impl.OpenOf(c), wantOpenOf(c))
	checkClusterResult(t, "RoundCluster", impl.RoundCluster(c), wantRoundCluster(c))
	checkLedgerResult(t, "LedgerOf", impl.LedgerOf(c), wantLedgerOf(c))
	checkNumber(t, "RoundsFor", impl.RoundsFor(c), wantRoundsFor(c))
	for _, id := range ids {
		checkSettled(t, "a contract", c, id, wantSettledAt(c, id))
		checkNumber(t, "OutcomeAt", impl.OutcomeAt(c, id), wantOutcomeAt(c, id))
	}
	r := impl.DrainCluster(c, rounds)
	checkClusterResult(t, "DrainCluster", r, wantDrainCluster(c, rounds))
	if r.Code == impl.OK {
		checkCode(t, "ClusterFault behind DrainCluster", impl.ClusterFault(r.Cluster), impl.OK)
	}
	if t.Failed() {
		t.Fatalf("%d rounds, contracts %v of %+v", rounds, ids, c)
	}
	return r.Code
}

// Chapter 12 told twice, for clusters that are thrown: such that came of new
// ones, others without a fault, and such with faults of every kind.
func TestDrivesThatAreThrown(t *testing.T) {
	d := dice(184)
	right, spoilt := map[int64]int{}, map[int64]int{}
	for n := range 900 {
		c, w := d.walkedCluster(200)
		told := right
		if n%3 == 1 {
			c, w = d.oddCluster()
		}
		if n%3 == 2 {
			c, w = d.anyCluster()
			told = spoilt
		}
		rounds := d.below(14)
		if d.below(4) == 0 {
			rounds = roundNumbers[d.below(int64(len(roundNumbers)))]
		}
		ids := []int64{d.odd()}
		for _, x := range w.contracts {
			ids = append(ids, x.Id)
		}
		told[checkDriven(t, c, rounds, ids...)]++
	}
	if right[impl.OK] < 400 || right[impl.ErrMany] < 5 || right[impl.ErrRange] < 20 {
		t.Errorf("codes without a fault %v", right)
	}
	for _, code := range []int64{impl.OK, impl.ErrForm, impl.ErrMany, impl.ErrRange, impl.ErrNone, impl.ErrText} {
		if spoilt[code] < 1 {
			t.Errorf("codes %v", spoilt)
		}
	}
}
