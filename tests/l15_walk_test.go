package tests

import (
	"fmt"
	"slices"
	"testing"

	"loop.example/g00203/impl"
)

// served are sessions and a cluster that came of new ones.
type served struct {
	list []impl.Session
	c    impl.Cluster
}

func (s served) ask(x impl.Contract) askedAs {
	return askedAs{list: s.list, c: s.c, client: x.Id / 1000, number: x.Id % 1000, legs: x.Legs}
}

// opened are new sessions of clients.
func opened(t *testing.T, clients ...int64) []impl.Session {
	t.Helper()
	var list []impl.Session
	for _, client := range clients {
		r := impl.OpenSession(list, client)
		checkSessionsResult(t, "OpenSession", r, wantOpenSession(list, client))
		checkCode(t, "OpenSession", r.Code, impl.OK)
		list = r.Sessions
	}
	return list
}

// servedWorld throws a world whose contracts are those that clients send, so
// many of each.
func (d *dice) servedWorld(numbers int, clients []int64, calm bool) clusterWorld {
	w := d.closeWorld(numbers*len(clients), calm)
	for i := range w.contracts {
		w.contracts[i].Id = 1000*clients[i/numbers] + int64(i%numbers) + 1
	}
	return w
}

// sending throws what is sent: the next one of a client, or any one; mostly
// with its own legs.
func (d *dice) sending(w clusterWorld, list []impl.Session) impl.Contract {
	x := w.contracts[d.below(int64(len(w.contracts)))]
	s := wantSession(list, x.Id/1000)
	if d.below(2) == 0 {
		next := slices.IndexFunc(w.contracts, func(other impl.Contract) bool { return other.Id == 1000*s.Client+s.Next })
		if next >= 0 {
			x = w.contracts[next]
		}
	}
	switch d.below(14) {
	case 0:
		x.Legs = w.contracts[d.below(int64(len(w.contracts)))].Legs
	case 1:
		x.Legs = d.anyContract().Legs
	case 2:
		x.Id += 1000 * (d.below(3) - 1)
	}
	return x
}

// servedSeen counts of all walks what came about.
type servedSeen map[string]int

// send asks of a call of SubmitAs that it is as chapter 15 told once more has
// it; that nothing comes of a refused one; and that it is served once.
func (n servedSeen) send(t *testing.T, s served, x impl.Contract) served {
	t.Helper()
	a := s.ask(x)
	r := a.submit()
	checkSessionsResult(t, "SubmitAs", r, a.wantSubmit())
	known := wantSession(s.list, a.client) != nil && a.number < wantSession(s.list, a.client).Next
	n[fmt.Sprint("sent ", r.Code, " known ", known)]++
	if r.Code != impl.OK {
		return s
	}
	if !known {
		s = served{r.Sessions, r.Cluster}
	}
	if !sameSessions(r.Sessions, s.list) || !sameClusters(r.Cluster, s.c) {
		t.Errorf("sent already: %+v", r)
	}
	n.checkOnce(t, s, wantSubmitted(s.c, r.Id))
	return s
}

// checkOnce asks promise 16 of a contract that is sent once more.
func (n servedSeen) checkOnce(t *testing.T, s served, x *impl.Contract) {
	t.Helper()
	r := s.ask(*x).submit()
	checkSessionsResult(t, "sent twice", r, impl.SessionsResult{Id: x.Id, Sessions: s.list, Cluster: s.c})
	there := 0
	for _, other := range r.Cluster.Contracts {
		if other.Id == x.Id {
			there++
		}
	}
	if there != 1 {
		t.Errorf("contract %d is there %d times", x.Id, there)
	}
	n["sent twice"]++
}

// checkAccounts asks promise 16 of what everybody has.
func (n servedSeen) checkAccounts(t *testing.T, start impl.Ledger, c impl.Cluster) {
	t.Helper()
	want := gridOf(start)
	for shard := range int64(len(c.Shards)) {
		for account := range int64(impl.MaxAccounts) {
			r := impl.StatementOf(c, shard, account)
			checkCode(t, "StatementOf", r.Code, impl.OK)
			for _, l := range r.Legs {
				want[shard][account][l.Asset] += l.Amount
				if l.Shard != shard || l.Account != account {
					t.Errorf("StatementOf %d, %d has %v", shard, account, l)
				}
			}
			n["legs of a statement"] += len(r.Legs)
			if len(r.Legs) > 1 {
				n["several legs of a statement"]++
			}
		}
	}
	if want != gridOf(impl.LedgerOf(c).Ledger) {
		t.Errorf("there is %v, and by the statements %v", gridOf(impl.LedgerOf(c).Ledger), want)
	}
}

// checkStatus asks promise 16 of what StatusAs tells of all that was sent, and
// of the next one of each client.
func (n servedSeen) checkStatus(t *testing.T, s served, sent []impl.Contract) {
	t.Helper()
	open := impl.OpenOf(s.c).List
	for _, session := range s.list {
		for number := int64(1); number <= session.Next; number++ {
			r := impl.StatusAs(s.list, s.c, session.Client, number)
			if number == session.Next {
				checkAnswer(t, "the next one", r, impl.Answer{Code: impl.ErrNone})
				continue
			}
			id := 1000*session.Client + number
			want := impl.Answer{Legs: wantSubmitted(impl.Cluster{Contracts: sent}, id).Legs}
			if !slices.Contains(open, id) {
				want.Word = impl.OutcomeAt(s.c, id).Value
			}
			checkAnswer(t, fmt.Sprint("contract ", id), r, want)
			n[fmt.Sprint("word ", r.Word)]++
		}
	}
}

// check asks promise 16 of what came of new sessions and a new cluster by the
// sendings of these contracts, so that nothing else was submitted.
func (n servedSeen) check(t *testing.T, start impl.Ledger, s served, sent []impl.Contract) {
	t.Helper()
	checkCode(t, "SessionsFault", impl.SessionsFault(s.list), impl.OK)
	checkCode(t, "ClusterFault", impl.ClusterFault(s.c), impl.OK)
	numbers := 0
	for _, session := range s.list {
		numbers += len(session.Sent)
	}
	if numbers != len(s.c.Contracts) || len(sent) != numbers {
		t.Errorf("%d numbers were sent, there are %d contracts of %d", numbers, len(s.c.Contracts), len(sent))
	}
	n.checkAccounts(t, start, s.c)
	n.checkStatus(t, s, sent)
	if t.Failed() {
		t.Fatalf("%+v of %+v", s, start)
	}
}

// walk sends contracts, with calls that are thrown between, and asks promise
// 16 behind each.
func (n servedSeen) walk(t *testing.T, d *dice, w clusterWorld, clients []int64, steps int) served {
	t.Helper()
	start := impl.LedgerOf(w.start).Ledger
	s := served{opened(t, clients...), w.start}
	var all []impl.Contract
	for i := range steps {
		step := d.auditStep(w, s.c)
		if step.name == "submit" || d.below(12) == 0 {
			x := d.sending(w, s.list)
			before := len(s.c.Contracts)
			if s = n.send(t, s, x); len(s.c.Contracts) > before {
				all = append(all, x)
			}
		} else if r := step.run(s.c); r.Code == impl.OK {
			s.c = r.Cluster
			n[step.name]++
		}
		if k := int64(len(s.c.Contracts)); k > 0 {
			n.checkOnce(t, s, &s.c.Contracts[d.below(k)])
		}
		if i%3 == 0 {
			n.check(t, start, s, all)
		}
	}
	n.check(t, start, s, all)
	return s
}

// finish drives on what is left, where it may be; then every status is told.
func (n servedSeen) finish(t *testing.T, w clusterWorld, s served) {
	t.Helper()
	end, what := checkDrivenOn(t, w.start, s.c)
	n[what]++
	if what != "drained" {
		return
	}
	s.c = end
	n.check(t, impl.LedgerOf(w.start).Ledger, s, s.c.Contracts)
	for i, x := range s.c.Contracts {
		n.checkOnce(t, s, &s.c.Contracts[i])
		if a := s.ask(x).status(); a.Word == impl.OutcomeNone {
			t.Errorf("contract %d: nothing is open, and its status is %v", x.Id, a)
		}
	}
}

// checkSeenAll asks that enough of everything came about.
func (n servedSeen) checkSeenAll(t *testing.T, least int, names ...string) {
	t.Helper()
	for _, name := range names {
		if n[name] < least {
			t.Errorf("%s only %d times", name, n[name])
		}
	}
}

// Promise 16, behind each of very many sendings and steps that are thrown.
func TestWhoSendsTwiceIsServedOnce(t *testing.T) {
	t.Parallel()
	d := dice(221)
	n := servedSeen{}
	for walk := range 400 {
		clients := [][]int64{{7}, {1, 999}, {40, 2, 300}, {5, 3, 4, 6}, {9, 8, 1, 7, 2, 6, 3, 5, 4, 999}}[walk%5]
		w := d.servedWorld(1+int(d.below(6)), clients, walk%6 > 0)
		n.finish(t, w, n.walk(t, &d, w, clients, 160))
	}
	n.checkSeenAll(t, 100, "deliver", "copy", "drop", "tick", "crash", "resend", "round", "drain")
	n.checkSeenAll(t, 500, "word 0", "word 1", "word 2", "sent twice", "legs of a statement", "several legs of a statement")
	n.checkSeenAll(t, 300, "sent 0 known false", "sent 0 known true", "sent 3 known false", "sent 7 known true", "drained")
	n.checkSeenAll(t, 15, "sent 1 known false", "sent 1 known true", "sent 2 known false", "sent 2 known true", "sent 3 known true", "sent 4 known false", "sent 7 known false")
}

// everyServed are all sessions and clusters that a few calls make, where all
// that is submitted is sent by clients.
func (f fewCalls) everyServed(list []impl.Session) []served {
	all := []served{{list, f.start}}
	seen := map[string]int{fmt.Sprint(all[0]): 1}
	for at := 0; at < len(all); at++ {
		for _, k := range clusterCalls(all[at].c, f.contracts) {
			after := all[at]
			r := k.run(after.c)
			if k.name == "submit" {
				told := after.ask(k.x).submit()
				r = impl.ClusterResult{Code: told.Code, Cluster: told.Cluster}
				after.list = told.Sessions
			}
			if f.leavesOut(k) || r.Code != impl.OK || len(r.Cluster.Messages) > f.waiting || max(r.Cluster.Leaders[0].Count, r.Cluster.Leaders[1].Count) > f.count {
				continue
			}
			after.c = r.Cluster
			name := fmt.Sprint(after)
			if seen[name]++; seen[name] == 1 {
				all = append(all, after)
			}
		}
	}
	return all
}

// Promise 16, for all that a few sendings and calls can make of new sessions
// and clusters: of every so many of them.
func TestEveryServedOfAFewCalls(t *testing.T) {
	t.Parallel()
	inside := []impl.Leg{leg(0, 0, 0, -9), leg(0, 1, 0, 9)}
	back := []impl.Leg{leg(0, 1, 0, -9), leg(0, 0, 0, 9)}
	fresh := func(n int64, shards ...[]impl.Balance) impl.Cluster {
		return impl.NewCluster(ledger(shards...), n).Cluster
	}
	nine := bals(bal(0, 0, 9))
	worlds := []struct {
		f           fewCalls
		each, least int
	}{
		{fewCalls{fresh(1, nine), heldOf(contract(1001, inside...)), 3, 0, nothingIsLeftOut}, 1, 500},
		{fewCalls{fresh(1, nine), heldOf(contract(2001, inside...)), 3, 1, mostIsLeftOut}, 1, 300},
		{fewCalls{fresh(1, nine, nil), heldOf(pair(1001)), 3, 1, mostIsLeftOut}, 5, 10000},
		{fewCalls{fresh(1, nine), heldOf(contract(1001, back...), contract(2001, inside...)), 3, 0, mostIsLeftOut}, 1, 500},
		{fewCalls{fresh(1, nine), heldOf(contract(2001, inside...), contract(2002, back...)), 3, 0, mostIsLeftOut}, 1, 500},
		{fewCalls{fresh(1, nine), heldOf(contract(1001, inside...), contract(2001, back...), contract(2002, inside...)), 2, 0, mostIsLeftOut}, 1, 500},
	}
	n := servedSeen{}
	for i, w := range worlds {
		every := w.f.everyServed(opened(t, 2, 1))
		for at := 0; at < len(every); at += w.each {
			s := every[at]
			n.check(t, impl.LedgerOf(w.f.start).Ledger, s, slices.DeleteFunc(slices.Clone(w.f.contracts), func(x impl.Contract) bool { return wantSubmitted(s.c, x.Id) == nil }))
			for j := range s.c.Contracts {
				n.checkOnce(t, s, &s.c.Contracts[j])
			}
			for _, x := range w.f.contracts {
				n.send(t, s, x)
			}
		}
		if len(every) < w.least {
			t.Errorf("world %d: only %d", i, len(every))
		}
	}
	n.checkSeenAll(t, 100, "word 0", "word 1", "word 2", "several legs of a statement", "sent 0 known false", "sent 0 known true")
	n.checkSeenAll(t, 15, "sent 3 known false")
}
