package tests

import (
	"fmt"
	"reflect"
	"slices"
	"testing"

	"loop.example/g00203/impl"
)

// Promise 14, behind each of very many steps that are thrown.
func TestAuditOfWalks(t *testing.T) {
	d := dice(191)
	var seen auditSeen
	for walk := range 240 {
		w := d.closeWorld([]int{1, 2, 5, 9, 20}[walk%5], walk%6 > 0)
		if walk%8 == 7 {
			w = d.clusterWorld(6, true)
		}
		seen.walk(t, w.start, thrownSteps(w, 200, d.auditStep), -1)
	}
	checkSeen(t, seen)
}

// checkSeen asks that enough of everything came about.
func checkSeen(t *testing.T, seen auditSeen) {
	t.Helper()
	for _, name := range []string{"submit", "deliver", "copy", "drop", "tick", "crash", "resend", "round", "drain"} {
		if seen.counts[name] < 100 {
			t.Errorf("%s only %d times", name, seen.counts[name])
		}
	}
	for _, name := range []string{"done", "held", "nothing is open", "against their numbers", "not yet there"} {
		if seen.counts[name] < 500 {
			t.Errorf("%s only %d times", name, seen.counts[name])
		}
	}
}

// Promise 14, where two leaders cross each other.
func TestAuditOfRivals(t *testing.T) {
	d := dice(195)
	var seen auditSeen
	ends := map[int64]int{}
	for range 2000 {
		w := d.rivalWorld()
		seen.walk(t, w.start, thrownSteps(w, 80, d.rivalStep), -1)
		ends[seen.told[w.contracts[0].Id]]++
	}
	if ends[impl.OutcomeDone] < 50 || ends[impl.OutcomeNot] < 50 || ends[impl.OutcomeNone] < 50 {
		t.Errorf("outcomes %v", ends)
	}
}

// crossing goes through ballots that cross each other, with promise 14 asked
// behind each step.
type crossing struct {
	t    *testing.T
	seen auditSeen
	g    impl.Ledger
	c    impl.Cluster
}

func (x *crossing) take(r impl.ClusterResult) {
	x.t.Helper()
	checkCode(x.t, "a step", r.Code, impl.OK)
	x.c = r.Cluster
	x.seen.check(x.t, x.g, x.c)
}

// pass delivers the messages of a kind and vote that go to, or come from,
// acceptors; the other ones of that kind and vote are lost.
func (x *crossing) pass(kind int64, v impl.Vote, acceptors ...int64) {
	x.t.Helper()
	for _, m := range slices.Clone(x.c.Messages) {
		if m.Kind != kind || vote(m.Ballot, m.Value) != v {
			continue
		}
		end, at := m.To, int64(slices.Index(x.c.Messages, m))
		if kind == impl.KindOpened {
			end = m.From
		}
		if slices.Contains(acceptors, end) {
			x.take(impl.DeliverMessage(x.c, at))
		} else {
			x.take(impl.DropMessage(x.c, at))
		}
	}
}

// begin has a leader begin so many ballots, of which the acceptors hear of the
// last one alone, and tells it; what they answer comes to the leader.
func (x *crossing) begin(leader int64, ballots int, acceptors ...int64) int64 {
	x.t.Helper()
	var ballot int64
	for range ballots {
		x.pass(impl.KindOpen, vote(ballot, none))
		x.take(impl.TickLeader(x.c, leader, 1))
		ballot = x.c.Messages[len(x.c.Messages)-1].Ballot
	}
	x.pass(impl.KindOpen, vote(ballot, none), acceptors...)
	x.pass(impl.KindOpened, vote(ballot, none), acceptors...)
	return ballot
}

// Promise 14 where one leader does not hear what the shard said, another or
// the same one does, and a third ballot hears of both.
func TestAuditOfBallotsThatCross(t *testing.T) {
	ends := map[int64]int{}
	for n := range 4 * 16 * 4 {
		first, second := int64(n%2), int64(n/2%2)
		x := crossing{t: t, g: ledger(bals(bal(0, 0, 9))), seen: auditSeen{told: map[int64]int64{}}}
		x.take(impl.NewCluster(x.g, 3))
		x.take(impl.SubmitContract(x.c, contract(1, leg(0, 0, 0, -5), leg(0, 1, 0, 5))))
		x.take(impl.DeliverMessage(x.c, 0))
		x.pass(impl.KindCast, ready(0), 0)
		one := x.begin(first, 1+n/4%4, 1, 2)
		if n/64%2 == 0 {
			x.take(impl.CrashLeader(x.c, first))
		}
		other := x.begin(second, 1+n/16%4, 0, 1)
		if n/128%2 == 0 {
			x.pass(impl.KindCast, not(one), 1, 2)
		}
		x.pass(impl.KindCast, ready(other), 0)
		x.pass(impl.KindCast, not(one), 1, 2)
		last := x.begin(first, 10, 0, 1)
		x.pass(impl.KindCast, ready(last), 0, 1)
		x.take(impl.DrainCluster(x.c, impl.RoundsFor(x.c).Value))
		checkNumbers(t, "OpenOf at the end", impl.OpenOf(x.c), impl.IntsResult{})
		ends[x.seen.told[1]]++
	}
	if ends[impl.OutcomeDone] < 20 || ends[impl.OutcomeNot] < 20 {
		t.Errorf("outcomes %v", ends)
	}
}

// Promise 14: the same steps, with a leader or both that forget all at any of
// them.
func TestAuditOfWalksWithACrash(t *testing.T) {
	d := dice(192)
	var seen auditSeen
	ends, others := 0, 0
	for walk := range 30 {
		w := d.closeWorld([]int{1, 3, 8}[walk%3], true)
		list := thrownSteps(w, 100, d.auditStep)
		end := seen.walk(t, w.start, list, -1)
		for range 5 {
			leaders := [][]int64{{0}, {1}, {0, 1}}[d.below(3)]
			other := seen.walk(t, w.start, list, int(d.below(100)), leaders...)
			if ends++; !sameClusters(withMessages(end), withMessages(other)) {
				others++
			}
		}
	}
	if others < ends/3 {
		t.Errorf("of %d crashes only %d changed anything", ends, others)
	}
}

// Promise 14, wherever messages are lost, doubled or late, or leaders forget,
// on the way of contracts that meet; and behind all the rounds that follow.
func TestAuditOfEveryLoss(t *testing.T) {
	g := ledger(bals(bal(0, 0, 9), bal(1, 1, 6)), bals(bal(0, 0, 1)), nil)
	start := impl.NewCluster(g, 3).Cluster
	c := impl.SubmitContract(impl.SubmitContract(start, pair(4)).Cluster, three(2)).Cluster
	c = impl.SubmitContract(c, contract(1, leg(1, 0, 0, -6), leg(0, 2, 0, 6))).Cluster
	var seen auditSeen
	follow := func(c impl.Cluster) {
		t.Helper()
		seen.told = map[int64]int64{}
		for len(c.Messages)+len(impl.OpenOf(c).List) > 0 {
			seen.check(t, g, c)
			after := impl.RoundCluster(c)
			checkCode(t, "RoundCluster", after.Code, impl.OK)
			checkLasting(t, c, after.Cluster)
			c = after.Cluster
		}
		seen.check(t, g, c)
	}
	for i, c := range steps(t, c) {
		follow(c)
		for at := range c.Messages {
			if (at+i)%4 == 0 {
				follow(impl.DropMessage(c, int64(at)).Cluster)
				follow(impl.DeliverMessage(impl.CopyMessage(c, int64(at)).Cluster, int64(at)).Cluster)
			}
		}
		follow(withMessages(impl.CrashLeader(c, 0).Cluster))
		follow(impl.CrashLeader(impl.CrashLeader(c, 0).Cluster, 1).Cluster)
	}
	if seen.counts["done"] < 1000 || seen.counts["not yet there"] < 50 {
		t.Errorf("%v", seen.counts)
	}
}

// Promise 14, for all that a few calls can make of new clusters: of every so
// many of them.
func TestAuditOfEveryClusterOfAFewCalls(t *testing.T) {
	inside := contract(3, leg(0, 0, 0, -9), leg(0, 1, 0, 9))
	back := contract(1, leg(0, 1, 0, -9), leg(0, 0, 0, 9))
	fresh := func(n int64, shards ...[]impl.Balance) impl.Cluster {
		return impl.NewCluster(ledger(shards...), n).Cluster
	}
	nine := bals(bal(0, 0, 9))
	worlds := []struct {
		f           fewCalls
		each, least int
	}{
		{fewCalls{fresh(1, nine), heldOf(inside), 3, 0, nothingIsLeftOut}, 1, 500},
		{fewCalls{fresh(1, nine), heldOf(inside), 3, 1, mostIsLeftOut}, 1, 300},
		{fewCalls{fresh(1, bals(bal(0, 0, 8))), heldOf(inside), 3, 1, mostIsLeftOut}, 1, 300},
		{fewCalls{fresh(1, nine, nil), heldOf(pair(7)), 3, 1, mostIsLeftOut}, 2, 10000},
		{fewCalls{fresh(1, nine), heldOf(inside, back), 3, 0, mostIsLeftOut}, 1, 500},
		{fewCalls{fresh(3, nine), heldOf(inside), 3, 1, mostIsLeftOut}, 5, 20000},
	}
	for i, w := range worlds {
		var seen auditSeen
		g, every := impl.LedgerOf(w.f.start).Ledger, w.f.every()
		for at := 0; at < len(every); at += w.each {
			seen.told = map[int64]int64{}
			seen.check(t, g, every[at])
		}
		if len(every) < w.least {
			t.Errorf("world %d: only %d clusters", i, len(every))
		}
	}
}

// Chapter 13 told twice, for clusters that are thrown: such that came of new
// ones, others without a fault, and such with faults of every kind.
func TestAuditsThatAreThrown(t *testing.T) {
	d := dice(193)
	counts := map[string]int{}
	for n := range 2400 {
		start, c := d.strangeCluster()
		if n%4 == 1 {
			w := d.closeWorld(5, true)
			start, c = impl.LedgerOf(w.start).Ledger, w.start
			for _, step := range thrownSteps(w, int(d.below(90)), d.auditStep) {
				if r := step.run(c); r.Code == impl.OK {
					c = r.Cluster
				}
			}
		}
		if n%4 == 3 {
			c = cloneCluster(c)
			d.spoilCluster(&c)
		}
		if n%5 == 0 {
			start = d.anyLedger()
		}
		safe, balanced, code := checkAudit(t, start, c)
		kind := []string{"strange", "walked", "strange", "spoilt"}[n%4]
		counts[fmt.Sprint(kind, " safe ", safe)]++
		counts[fmt.Sprint(kind, " balanced ", balanced)]++
		counts[fmt.Sprint(kind, " code ", code)]++
	}
	for _, name := range []string{"strange safe true", "strange safe false", "strange balanced true", "strange balanced false", "strange code 0", "strange code 1", "walked safe true", "walked balanced true", "walked code 0", "spoilt code 0", "spoilt code 2", "spoilt code 3"} {
		if counts[name] < 50 {
			t.Errorf("%s only %d times", name, counts[name])
		}
	}
	if counts["walked safe false"] > 0 || counts["walked code 1"] > 0 {
		t.Errorf("%v", counts)
	}
}

// auditLedgers are right and wrong ones for the functions of chapter 13.
func auditLedgers() []impl.Ledger {
	return append(wrongLedgers()[:6:6], ledger(nil), ledger(bals(bal(0, 0, 9)), nil), ledger(fullShard(10), fullShard(10), fullShard(10)))
}

// auditArgs are right and wrong clusters, such among them of which much was
// applied, and a ring.
func auditArgs() []impl.Cluster {
	d := dice(194)
	list := append(driveArgs(), ring(), ordered(heldOf(pair(2), pair(7)), places(7, 2), places(7, 2)), ordered(heldOf(touching(2, 0, 1), touching(4, 1, 2)), places(2), places(4), places(4)), busyCluster())
	for range 12 {
		_, c := d.strangeCluster()
		list = append(list, c)
	}
	return list
}

// Promise 1: an answer at every argument that hangs on it alone, in new
// memory.
func TestAuditAnswersAreNewMemory(t *testing.T) {
	for _, c := range auditArgs() {
		checkPure(t, "SafeCluster", impl.SafeCluster, c)
		checkPure(t, "OrderOf", impl.OrderOf, c)
		checkPure(t, "DoneOf", impl.DoneOf, c)
		checkPure(t, "StatusText", impl.StatusText, c)
		for _, asset := range assetNumbers {
			checkPure(t, "HeldTotal", impl.HeldTotal, c, asset)
		}
		for _, g := range append(auditLedgers(), impl.LedgerOf(c).Ledger) {
			checkPure(t, "BooksBalance", impl.BooksBalance, g, c)
			checkPure(t, "ReplayOrder", impl.ReplayOrder, g, c)
		}
	}
}

// auditCalls are all functions of chapter 13 as they may be asked of a ledger
// and a cluster.
func auditCalls() map[string]func(g impl.Ledger, c impl.Cluster) any {
	calls := map[string]func(g impl.Ledger, c impl.Cluster) any{
		"SafeCluster":  func(_ impl.Ledger, c impl.Cluster) any { return impl.SafeCluster(c) },
		"BooksBalance": func(g impl.Ledger, c impl.Cluster) any { return impl.BooksBalance(g, c) },
		"OrderOf":      func(_ impl.Ledger, c impl.Cluster) any { return impl.OrderOf(c) },
		"ReplayOrder":  func(g impl.Ledger, c impl.Cluster) any { return impl.ReplayOrder(g, c) },
		"DoneOf":       func(_ impl.Ledger, c impl.Cluster) any { return impl.DoneOf(c) },
		"StatusText":   func(_ impl.Ledger, c impl.Cluster) any { return impl.StatusText(c) },
	}
	for _, asset := range []int64{-1, 0, 2, 3} {
		calls[fmt.Sprint("HeldTotal ", asset)] = func(_ impl.Ledger, c impl.Cluster) any { return impl.HeldTotal(c, asset) }
	}
	return calls
}

// appliedOfOneMemory has lists that lie in one memory, with room behind their
// ends, wherever two may be the same; contracts 2 and 4 are held, 7 and 3 were
// applied everywhere, and the ledger has the shards' balances.
func appliedOfOneMemory() (impl.Ledger, impl.Cluster) {
	legs := slices.Grow(pair(0).Legs, 4)
	c := clusterOfOneMemory(legs)
	balances, applied := slices.Grow(fullShard(9), 4), slices.Grow(places(7, 3), 4)
	held := slices.Grow(heldOf(impl.Contract{Id: 2, Legs: legs}), 4)
	done, said := slices.Grow(marks(mark(3, 1), mark(7, 1)), 4), slices.Grow(marks(mark(2, 1), mark(4, 2)), 4)
	c.Contracts = slices.Grow(heldOf(impl.Contract{Id: 2, Legs: legs}, impl.Contract{Id: 3, Legs: legs}, impl.Contract{Id: 4, Legs: legs}, impl.Contract{Id: 7, Legs: legs}), 4)
	for at := range c.Shards {
		c.Shards[at] = impl.Shard{Index: int64(at), Balances: balances, Votes: said, Held: held, Done: done, Applied: applied}
	}
	return ledger(balances, balances), c
}

// Lists of one memory are not changed, and each one of an answer is for
// itself, and none of two answers is the other's.
func TestAuditsOfOneMemoryAreNotChanged(t *testing.T) {
	g, c := appliedOfOneMemory()
	checkClusterRight(t, "of one memory", c)
	checkOrder(t, "of one memory", c, 7, 3)
	kept := keptOf(struct {
		G impl.Ledger
		C impl.Cluster
	}{g, c})
	ownLedger, own := cloneLedger(g), cloneCluster(c)
	for name, call := range auditCalls() {
		kept.check(t, name, call(g, c), call(ownLedger, own))
	}
	checkAudit(t, g, c)
}

// What is written into an answer is in no later one.
func TestAuditsBehindOthersAreAsTheyWere(t *testing.T) {
	g, c := appliedOfOneMemory()
	for name, call := range auditCalls() {
		checkAsItWas(t, name, func() any { return call(g, c) })
	}
}

// Nil and what is empty are one value: they have one answer.
func TestAuditsOfNilAndEmpty(t *testing.T) {
	for _, c := range append(auditArgs(), impl.NewCluster(ledger(nil, nil), 2).Cluster) {
		none, empty := nilled(c), emptied(c)
		for name, call := range auditCalls() {
			if a, b := call(ledger(nil, nil), none), call(ledger(bals(), bals()), empty); !reflect.DeepEqual(a, b) {
				t.Fatalf("%s: nil %+v, empty %+v", name, a, b)
			}
			if a, b := call(impl.Ledger{}, none), call(impl.Ledger{Shards: [][]impl.Balance{}}, empty); !reflect.DeepEqual(a, b) {
				t.Fatalf("%s: nil %+v, empty %+v", name, a, b)
			}
		}
	}
}
