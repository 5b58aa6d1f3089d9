package tests

import (
	"slices"
	"testing"

	"loop.example/g00203/impl"
)

// closeContract throws one whose legs are of few accounts and assets, so that
// such meet often. Of one shard there must be two accounts.
func (d *dice) closeContract(id, shards, accounts int64) impl.Contract {
	for {
		x := contract(id)
		asset, sum := d.below(2), int64(0)
		for range 1 + d.below(3) {
			l := leg(d.below(shards), d.below(accounts), asset, 1+d.below(4))
			if d.below(2) == 0 {
				l.Amount = -l.Amount
			}
			sum += l.Amount
			x.Legs = append(x.Legs, l)
		}
		x.Legs = append(x.Legs, leg(d.below(shards), d.below(accounts), asset, -sum))
		if wantContractFault(x) == impl.OK {
			return x
		}
	}
}

// closeLedger throws one where some have hardly enough, and some nearly all
// that there may be.
func (d *dice) closeLedger() impl.Ledger {
	amounts := []int64{1, 4, 9, 30, 30, impl.MaxAmount - 2}
	var g impl.Ledger
	for range 1 + d.below(impl.MaxShards) {
		var list []impl.Balance
		for account := range int64(3) {
			for asset := range int64(2) {
				if d.below(6) > 0 {
					list = append(list, bal(account, asset, amounts[d.below(int64(len(amounts)))]))
				}
			}
		}
		g.Shards = append(g.Shards, list)
	}
	return g
}

// closeWorld throws n contracts that meet often and can mostly be done; they
// are not submitted in the order of their numbers.
func (d *dice) closeWorld(n int, calm bool) clusterWorld {
	g := d.closeLedger()
	w := clusterWorld{start: impl.NewCluster(g, 1+d.below(5)).Cluster, calm: calm}
	shards := int64(len(g.Shards))
	accounts := 3 - d.below(min(2, shards)+1)
	for id := range int64(n) {
		w.contracts = append(w.contracts, d.closeContract(3*id+1+d.below(3), shards, accounts))
	}
	for i := range w.contracts {
		other := d.below(int64(n))
		w.contracts[i], w.contracts[other] = w.contracts[other], w.contracts[i]
	}
	return w
}

// auditStep is a call of chapter 11, or a round or rounds of chapter 12.
type auditStep struct {
	clusterCall
}

func (s auditStep) run(c impl.Cluster) impl.ClusterResult {
	switch s.name {
	case "round":
		return impl.RoundCluster(c)
	case "drain":
		return impl.DrainCluster(c, s.a)
	}
	return s.clusterCall.run(c)
}

// auditStep throws one; few of them are rounds, so that messages come in any
// order and much is lost. Where there is no message others are sent.
func (d *dice) auditStep(w clusterWorld, c impl.Cluster) auditStep {
	n := d.below(240)
	if len(c.Messages) == 0 && n > 10 {
		x := w.contracts[d.below(int64(len(w.contracts)))]
		return auditStep{[]clusterCall{{name: "submit", x: x}, {name: "submit", x: x}, {name: "tick", a: d.below(2), b: x.Id}, {name: "resend", a: d.below(int64(len(c.Shards)))}, {name: "crash", a: d.below(2)}}[n%5]}
	}
	switch {
	case n < 6:
		return auditStep{clusterCall{name: "round"}}
	case n < 9:
		return auditStep{clusterCall{name: "drain", a: d.below(5)}}
	case n == 10:
		return auditStep{clusterCall{name: "drain", a: impl.MaxRounds}}
	}
	return auditStep{d.clusterCall(w, c)}
}

// rivalWorld throws one of a contract of one shard, for which two leaders
// cross each other.
func (d *dice) rivalWorld() clusterWorld {
	g, x := ledger(bals(bal(0, 0, 9))), contract(1, leg(0, 0, 0, -5), leg(0, 1, 0, 5))
	return clusterWorld{start: impl.NewCluster(g, 3+d.below(3)).Cluster, contracts: heldOf(x)}
}

// rivalStep throws one of leaders that begin ballots over and over; any
// message comes next, or never.
func (d *dice) rivalStep(w clusterWorld, c impl.Cluster) auditStep {
	n, at := d.below(100), d.below(max(1, int64(len(c.Messages))))
	switch {
	case len(c.Contracts) == 0:
		return auditStep{clusterCall{name: "submit", x: w.contracts[0]}}
	case len(c.Messages) == 0 || n < 12 && len(c.Messages) < 12:
		return auditStep{clusterCall{name: "tick", a: d.below(2), b: w.contracts[0].Id}}
	case n < 14:
		return auditStep{clusterCall{name: "copy", a: at}}
	case n < 16:
		return auditStep{clusterCall{name: "crash", a: d.below(2)}}
	case n < 40:
		return auditStep{clusterCall{name: "drop", a: at}}
	}
	return auditStep{clusterCall{name: "deliver", a: at}}
}

// auditSeen keeps of a walk what shards were told, and counts of all walks
// what came about.
type auditSeen struct {
	told   map[int64]int64
	counts map[string]int
}

func (s *auditSeen) count(name string, n int) {
	if s.counts == nil {
		s.counts = map[string]int{}
	}
	s.counts[name] += n
}

// checkTold asks that no two shards are told different outcomes, then or
// later, and that nothing is done that a shard was not ready for.
func (s *auditSeen) checkTold(t *testing.T, c impl.Cluster) {
	t.Helper()
	for _, shard := range c.Shards {
		for _, m := range shard.Done {
			if was := s.told[m.Contract]; was != impl.OutcomeNone && was != m.Value {
				t.Errorf("contract %d: %d, then %d", m.Contract, was, m.Value)
			}
			s.told[m.Contract] = m.Value
			if m.Value != impl.OutcomeDone {
				continue
			}
			for _, at := range shardsIn(*wantSubmitted(c, m.Contract)) {
				checkCode(t, "what a shard said of what is done", toldIn(c.Shards[at].Votes, m.Contract), impl.ValueReady)
			}
		}
	}
}

// checkReplayed asks that what was done could have been done one contract
// behind the other.
func (s *auditSeen) checkReplayed(t *testing.T, start impl.Ledger, c impl.Cluster) {
	t.Helper()
	order, done := impl.OrderOf(c), impl.DoneOf(c)
	checkCode(t, "OrderOf", order.Code, impl.OK)
	checkCode(t, "DoneOf", done.Code, impl.OK)
	if !slices.Equal(slices.Sorted(slices.Values(order.Order)), done.List) {
		t.Errorf("OrderOf %v, DoneOf %v", order, done)
	}
	replay := impl.ReplayOrder(start, c)
	checkCode(t, "ReplayOrder", replay.Code, impl.OK)
	if len(replay.Outcomes) != len(done.List) || slices.ContainsFunc(replay.Outcomes, func(o int64) bool { return o != impl.OutcomeDone }) {
		t.Errorf("ReplayOrder %v of %v", replay, order)
	}
	if len(impl.OpenOf(c).List) == 0 {
		checkLedger(t, "nothing is open", replay.Ledger, impl.LedgerOf(c).Ledger)
		s.count("nothing is open", min(1, len(c.Contracts)))
	}
	if !slices.IsSorted(order.Order) {
		s.count("against their numbers", 1)
	}
	if !sameBalances(replay.Ledger, impl.LedgerOf(c).Ledger) {
		s.count("not yet there", 1)
	}
	s.count("done", len(done.List))
}

// check asks promise 14 of a cluster that came of a new one of that ledger.
func (s *auditSeen) check(t *testing.T, start impl.Ledger, c impl.Cluster) {
	t.Helper()
	if !impl.SafeCluster(c) {
		t.Error("SafeCluster is false")
	}
	if !impl.BooksBalance(start, c) {
		t.Error("BooksBalance is false")
	}
	s.checkTold(t, c)
	s.checkReplayed(t, start, c)
	there := impl.LedgerOf(c).Ledger
	for asset := range int64(impl.MaxAssets) {
		held, total := impl.HeldTotal(c, asset), impl.TotalOf(there, asset)
		if held.Code != impl.OK || total.Code != impl.OK || held.Value < 0 || held.Value > total.Value {
			t.Errorf("HeldTotal %v, TotalOf %v", held, total)
		}
		if held.Value > 0 {
			s.count("held", 1)
		}
	}
	if t.Failed() {
		t.Fatalf("%+v of %+v", c, start)
	}
}

// checkLasting asks that nothing that shards and acceptors said, or shards
// were told, is forgotten or said otherwise.
func checkLasting(t *testing.T, before, after impl.Cluster) {
	t.Helper()
	for at, s := range before.Shards {
		now := after.Shards[at]
		for _, m := range s.Votes {
			checkCode(t, "a vote later", toldIn(now.Votes, m.Contract), m.Value)
		}
		for _, m := range s.Done {
			checkCode(t, "an outcome later", toldIn(now.Done, m.Contract), m.Value)
		}
		if len(now.Applied) < len(s.Applied) || !slices.Equal(now.Applied[:len(s.Applied)], s.Applied) {
			t.Errorf("Applied %v, then %v", s.Applied, now.Applied)
		}
	}
	for at, a := range before.Acceptors {
		for _, s := range a.Slots {
			now := wantSlotsFor(after.Acceptors, s.Contract, s.Shard).Slots[at]
			if now.Promised < s.Promised || len(now.Cast) < len(s.Cast) || !slices.Equal(now.Cast[:len(s.Cast)], s.Cast) {
				t.Errorf("a slot %+v, then %+v", s, now)
			}
		}
	}
	if t.Failed() {
		t.Fatalf("from %+v\nto   %+v", before, after)
	}
}

// walk takes steps from a new cluster, with a crash of leaders ahead of the
// one at that place, and asks promise 14 behind each. What has a code changes
// nothing. It tells the cluster behind all of them.
func (s *auditSeen) walk(t *testing.T, start impl.Cluster, list []auditStep, crash int, leaders ...int64) impl.Cluster {
	t.Helper()
	g, c := impl.LedgerOf(start).Ledger, start
	s.told = map[int64]int64{}
	for i, step := range list {
		if i == crash {
			c = s.crashed(t, g, c, leaders)
		}
		r := step.run(c)
		if r.Code != impl.OK {
			s.count(step.name+" with a code", 1)
			continue
		}
		s.count(step.name, 1)
		s.check(t, g, r.Cluster)
		checkLasting(t, c, r.Cluster)
		c = r.Cluster
	}
	return c
}

// crashed asks that what leaders forget changes nothing that lasts.
func (s *auditSeen) crashed(t *testing.T, start impl.Ledger, c impl.Cluster, leaders []int64) impl.Cluster {
	t.Helper()
	for _, leader := range leaders {
		after := impl.CrashLeader(c, leader).Cluster
		same := cloneCluster(c)
		same.Leaders = after.Leaders
		if !sameClusters(after, same) {
			t.Fatalf("CrashLeader %d of %+v:\n%+v", leader, c, after)
		}
		s.check(t, start, after)
		c = after
	}
	return c
}

// thrownSteps throws steps from a new cluster, as it then is at each of them.
func thrownSteps(w clusterWorld, n int, throw func(w clusterWorld, c impl.Cluster) auditStep) []auditStep {
	var list []auditStep
	c := w.start
	for range n {
		step := throw(w, c)
		list = append(list, step)
		if r := step.run(c); r.Code == impl.OK {
			c = r.Cluster
		}
	}
	return list
}

// strangeCluster throws one without a fault that need not be safe: shards may
// have been told anything, in any order, and acceptors may have cast anything.
// Books balance with the ledger mostly.
func (d *dice) strangeCluster() (impl.Ledger, impl.Cluster) {
	w := d.closeWorld(1+int(d.below(5)), true)
	c, start := cloneCluster(w.start), impl.LedgerOf(w.start).Ledger
	for at, list := range start.Shards {
		for i := range list {
			start.Shards[at][i].Amount = 40
		}
	}
	for _, x := range w.contracts {
		c = impl.SubmitContract(c, x).Cluster
	}
	c.Messages = c.Messages[:d.below(int64(len(c.Messages))+1)]
	for at := range c.Shards {
		c.Shards[at].Balances = start.Shards[at]
		for range d.below(14) {
			d.strangeMark(&c, int64(at))
		}
	}
	if d.below(2) == 0 {
		d.strangeSlots(&c)
	}
	if d.below(4) == 0 {
		at := d.below(int64(len(start.Shards)))
		start = cloneLedger(start)
		start.Shards[at] = append(start.Shards[at], bal(5, 2, 1))
	}
	return start, c
}

// strangeMark has a shard vote on, or be told of, a contract; by itself it is
// as the chapters have it, but nobody else knows of it.
func (d *dice) strangeMark(c *impl.Cluster, at int64) {
	x := c.Contracts[d.below(int64(len(c.Contracts)))]
	if len(legsHere(c.Shards[at], x)) == 0 {
		return
	}
	if r := impl.VoteShard(c.Shards[at], x); d.below(3) > 0 && r.Code == impl.OK {
		c.Shards[at] = r.Shard
	}
	outcome := 1 + d.below(5)/4
	if r := impl.DecideShard(c.Shards[at], x.Id, outcome); d.below(4) > 0 && r.Code == impl.OK {
		c.Shards[at] = r.Shard
	}
}

// strangeSlots has acceptors cast votes, mostly what the shards said.
func (d *dice) strangeSlots(c *impl.Cluster) {
	odd := d.below(3) == 0
	for _, x := range c.Contracts {
		for _, shard := range shardsIn(x) {
			value := max(impl.ValueReady, toldIn(c.Shards[shard].Votes, x.Id))
			for at := range c.Acceptors {
				for ballot := range int64(3) {
					if odd && d.below(8) == 0 {
						value = 1 + d.below(2)
					}
					if r := impl.AcceptAt(c.Acceptors[at], x.Id, shard, ballot, value); d.below(6) > 0 && r.Code == impl.OK {
						c.Acceptors[at] = r.Acceptor
					}
				}
			}
		}
	}
}
