package tests

import (
	"fmt"
	"reflect"
	"slices"
	"testing"

	"loop.example/g00203/impl"
)

// anyAsked throws sessions and a cluster of which each may have served the
// other, with faults of every kind now and then, and what is asked of them.
func (d *dice) anyAsked() askedAs {
	clients := [][]int64{{7}, {1, 999}, {2, 40, 300}, {1, 2, 3, 4, 5, 6, 7, 8, 9, 10}}[d.below(4)]
	w := d.servedWorld(1+int(d.below(4)), clients, true)
	a := askedAs{c: cloneCluster(w.start), client: clients[d.below(int64(len(clients)))], number: 1 + d.below(4)}
	for _, client := range clients {
		next := 1 + d.below(5)
		a.list = append(a.list, sent(client, next, numbersFrom(1, int(next)-1)...))
	}
	for _, x := range w.contracts {
		if r := impl.SubmitContract(a.c, x); d.below(4) > 0 && r.Code == impl.OK {
			a.c = r.Cluster
		}
	}
	for at := range a.c.Shards {
		for range d.below(3) * int64(len(a.c.Contracts)) {
			d.strangeMark(&a.c, int64(at))
		}
	}
	a.legs = d.askedLegs(a, w)
	switch d.below(9) {
	case 0:
		d.spoilSessions(a.list)
	case 1:
		d.spoilCluster(&a.c)
	case 2:
		a.client = d.odd()
	case 3:
		a.number = d.odd()
	case 4:
		a.list = append(a.list, sent(1000-d.below(3), 1))
	case 5:
		d.spoilSessions(a.list)
		d.spoilCluster(&a.c)
	}
	return a
}

// askedLegs are mostly those that the cluster has.
func (d *dice) askedLegs(a askedAs, w clusterWorld) []impl.Leg {
	known := wantSubmitted(a.c, wantIdFor(a.client, a.number).Value)
	switch d.below(6) {
	case 0:
		return d.anyContract().Legs
	case 1:
		return w.contracts[0].Legs
	}
	if known == nil {
		return d.closeContract(1, int64(len(a.c.Shards)), 3).Legs
	}
	return slices.Clone(known.Legs)
}

func (d *dice) spoilSessions(list []impl.Session) {
	at, other := d.below(int64(len(list))), d.below(int64(len(list)))
	s := &list[at]
	switch d.below(8) {
	case 0:
		s.Client = d.odd()
	case 1:
		s.Next = d.odd()
	case 2:
		list[at], list[other] = list[other], list[at]
	case 3:
		s.Sent = append(s.Sent, s.Next)
	case 4:
		s.Sent = s.Sent[:max(0, len(s.Sent)-1)]
	case 5:
		slices.Reverse(s.Sent)
	case 6:
		s.Sent = d.spoiledNumbers(s.Sent, d.odd())
	case 7:
		s.Next += 1 - 2*d.below(2)
	}
}

// Chapter 15 told twice, for sessions and clusters that are thrown: right
// ones, and such with faults of every kind.
func TestServedThatAreThrown(t *testing.T) {
	t.Parallel()
	d := dice(231)
	told := map[string]int{}
	for range 12000 {
		a := d.anyAsked()
		fault, open, submit, status := impl.SessionsFault(a.list), impl.OpenSession(a.list, a.client), a.submit(), a.status()
		checkCode(t, "SessionsFault", fault, wantSessionsFault(a.list))
		checkSessionsResult(t, "OpenSession", open, wantOpenSession(a.list, a.client))
		checkSessionsResult(t, "SubmitAs", submit, a.wantSubmit())
		checkAnswer(t, "StatusAs", status, a.wantStatus())
		shard, account := d.below(5)-1, d.below(8)-1
		statement := impl.StatementOf(a.c, shard, account)
		checkStatement(t, "thrown", statement, wantStatementOf(a.c, shard, account))
		if t.Failed() {
			t.Fatalf("%+v", a)
		}
		for name, code := range map[string]int64{"fault": fault, "open": open.Code, "submit": submit.Code, "status": status.Code, "statement": statement.Code} {
			told[fmt.Sprint(name, " ", code)]++
		}
		if status.Code == impl.OK {
			told[fmt.Sprint("word ", status.Word)]++
		}
		if len(statement.Legs) > 1 {
			told["legs"]++
		}
	}
	for _, name := range []string{
		"fault 0", "fault 1", "fault 2", "fault 3", "open 0", "open 1", "open 2", "open 3",
		"submit 0", "submit 1", "submit 2", "submit 3", "submit 4", "submit 5", "submit 7",
		"status 0", "status 1", "status 2", "status 3", "status 4", "status 5",
		"statement 0", "statement 1", "statement 2", "statement 3", "statement 4", "statement 5", "statement 7",
		"word 0", "word 1", "word 2", "legs",
	} {
		if told[name] < 20 {
			t.Errorf("%s only %d times", name, told[name])
		}
	}
}

// sessionArgs are right and wrong ones for the functions of chapter 15.
func sessionArgs() [][]impl.Session {
	d := dice(232)
	list := [][]impl.Session{
		nil, {}, make([]impl.Session, 0, 3), busySessions(), manySessions(1, 9), manySessions(1, 10), manySessions(1, 11), make([]impl.Session, 3), make([]impl.Session, 11),
		sessions(sent(7, 1, []int64{}...)), sessions(sessionOf(1, 1), sessionOf(999, 1000)), sessions(sent(farLow, farHigh, farHigh, farLow)), sessions(sent(2, farHigh, 1, 2)),
	}
	for _, f := range sessionFaults {
		spoilt := busySessions()
		f.spoil(&spoilt)
		list = append(list, spoilt)
	}
	for range 10 {
		list = append(list, d.anyAsked().list)
	}
	return list
}

// servedArgs are right and wrong clusters.
func servedArgs() []impl.Cluster {
	list := []impl.Cluster{{}, servedCluster(), crowdedCluster(), fullCluster(), busyCluster(), freshCluster(3), ring()}
	d := dice(233)
	for i, f := range clusterFaults {
		if i%9 == 0 {
			c := busyCluster()
			f.spoil(&c)
			list = append(list, c)
		}
	}
	for range 8 {
		list = append(list, d.anyAsked().c)
	}
	return list
}

// Promise 1: an answer at every argument that hangs on it alone, in new
// memory, also where nothing changes.
func TestSessionAnswersAreNewMemory(t *testing.T) {
	t.Parallel()
	for _, list := range sessionArgs() {
		checkPure(t, "SessionsFault", impl.SessionsFault, list)
		for _, client := range clientNumbers {
			checkPure(t, "OpenSession", impl.OpenSession, list, client)
		}
	}
	for _, client := range clientNumbers {
		for _, number := range sentNumbers {
			checkPure(t, "IdFor", impl.IdFor, client, number)
		}
	}
	for _, c := range servedArgs() {
		for _, shard := range []int64{farLow, -1, 0, 1, 2, 3, farHigh} {
			for _, account := range []int64{farLow, -1, 0, 1, 2, 5, 6, farHigh} {
				checkPure(t, "StatementOf", impl.StatementOf, c, shard, account)
			}
		}
	}
}

func TestServedAnswersAreNewMemory(t *testing.T) {
	t.Parallel()
	legs := [][]impl.Leg{nil, {}, pair(0).Legs, three(0).Legs, make([]impl.Leg, 3), chain(0, 9).Legs}
	clusters := servedArgs()
	for i, list := range sessionArgs() {
		for _, c := range []impl.Cluster{servedCluster(), clusters[i%len(clusters)]} {
			for j, n := range []int64{farLow, 0, 1, 3, 4, 5, 999, 1000, farHigh} {
				for _, client := range []int64{2, clientNumbers[(i+j)%len(clientNumbers)]} {
					checkPure(t, "SubmitAs", impl.SubmitAs, list, c, client, n, legs[(i+j)%len(legs)])
					checkPure(t, "StatusAs", impl.StatusAs, list, c, client, n)
				}
			}
		}
	}
	list, c := busySessions(), servedCluster()
	for _, number := range []int64{998, 999} {
		checkPure(t, "SubmitAs", impl.SubmitAs, list, c, int64(40), number, pair(0).Legs)
		checkPure(t, "SubmitAs", impl.SubmitAs, sessions(sessionOf(40, number)), c, int64(40), number, pair(0).Legs)
	}
	for _, other := range clusters {
		checkPure(t, "SubmitAs", impl.SubmitAs, sessions(sessionOf(2, 4)), other, int64(2), int64(4), pair(0).Legs)
		checkPure(t, "StatusAs", impl.StatusAs, sessions(sessionOf(2, 4)), other, int64(2), int64(3))
	}
	for _, x := range c.Contracts {
		checkPure(t, "SubmitAs", impl.SubmitAs, list, c, x.Id/1000, x.Id%1000, x.Legs)
		checkPure(t, "StatusAs", impl.StatusAs, list, c, x.Id/1000, x.Id%1000)
	}
	checkPure(t, "SubmitAs", impl.SubmitAs, list, c, int64(2), int64(4), three(0).Legs)
	checkPure(t, "SubmitAs", impl.SubmitAs, list, c, int64(5), int64(1), pair(0).Legs)
}

func TestThrownServedAreNewMemory(t *testing.T) {
	t.Parallel()
	d := dice(234)
	for range 300 {
		a := d.anyAsked()
		checkPure(t, "OpenSession", impl.OpenSession, a.list, a.client)
		checkPure(t, "SubmitAs", impl.SubmitAs, a.list, a.c, a.client, a.number, a.legs)
		checkPure(t, "StatusAs", impl.StatusAs, a.list, a.c, a.client, a.number)
		checkPure(t, "StatementOf", impl.StatementOf, a.c, d.below(3), d.below(3))
	}
}

// servedCalls are all functions of chapter 15 as they may be asked of
// sessions, a cluster and legs.
func servedCalls() map[string]func(a askedAs) any {
	calls := map[string]func(a askedAs) any{
		"SessionsFault": func(a askedAs) any { return impl.SessionsFault(a.list) },
	}
	for _, client := range []int64{0, 1, 2, 5, 7, 9, 1000} {
		calls[fmt.Sprint("OpenSession ", client)] = func(a askedAs) any { return impl.OpenSession(a.list, client) }
		for number := range int64(6) {
			calls[fmt.Sprint("SubmitAs ", client, number)] = func(a askedAs) any { return impl.SubmitAs(a.list, a.c, client, number, a.legs) }
			calls[fmt.Sprint("StatusAs ", client, number)] = func(a askedAs) any { return impl.StatusAs(a.list, a.c, client, number) }
		}
	}
	for shard := range int64(4) {
		for _, account := range []int64{-1, 0, 1, 5, 6} {
			calls[fmt.Sprint("StatementOf ", shard, account)] = func(a askedAs) any { return impl.StatementOf(a.c, shard, account) }
		}
	}
	return calls
}

// servedOfOneMemory has lists that lie in one memory, with room behind their
// ends, wherever two may be the same: the numbers of all sessions, the legs of
// all contracts and what is sent, and what both shards have.
func servedOfOneMemory() askedAs {
	legs, numbers := slices.Grow(pair(0).Legs, 4), slices.Grow(numbersFrom(1, 3), 4)
	c := impl.Cluster{Acceptors: make([]impl.Acceptor, 3, 6), Leaders: make([]impl.Leader, 2, 4), Messages: slices.Grow(messages(askOf(0, 5002), askOf(1, 5002)), 4)}
	for _, id := range []int64{2001, 2002, 5001, 5002} {
		c.Contracts = append(c.Contracts, impl.Contract{Id: id, Legs: legs})
	}
	balances, applied := slices.Grow(fullShard(9), 4), slices.Grow(places(5001, 2001), 4)
	done := slices.Grow(marks(mark(2001, 1), mark(2002, 2), mark(5001, 1)), 4)
	for at := range int64(2) {
		c.Shards = append(c.Shards, impl.Shard{Index: at, Balances: balances, Done: done, Applied: applied})
	}
	list := slices.Grow(sessions(sent(2, 4, numbers...), sent(5, 3, numbers[:2]...), sent(9, 1, numbers[:0]...)), 4)
	return askedAs{list: list, c: c, legs: legs}
}

// Lists of one memory are not changed, and each one of an answer is for
// itself, and none of two answers is the other's.
func TestServedOfOneMemoryAreNotChanged(t *testing.T) {
	a := servedOfOneMemory()
	checkClusterRight(t, "of one memory", a.c)
	checkCode(t, "of one memory", impl.SessionsFault(a.list), impl.OK)
	kept := keptOf(struct {
		List []impl.Session
		C    impl.Cluster
		Legs []impl.Leg
	}{a.list, a.c, a.legs})
	own := askedAs{list: cloneSessions(a.list), c: cloneCluster(a.c), legs: slices.Clone(a.legs)}
	for name, call := range servedCalls() {
		kept.check(t, name, call(a), call(own))
	}
}

// What is written into an answer is in no later one.
func TestServedBehindOthersAreAsTheyWere(t *testing.T) {
	a := servedOfOneMemory()
	for name, call := range servedCalls() {
		checkAsItWas(t, name, func() any { return call(a) })
	}
}

// Two sendings behind one answer are two: neither is seen in the other, nor in
// what came ahead, though numbers have room behind them then.
func TestTwoSendingsBehindOne(t *testing.T) {
	s := served{opened(t, 3, 1, 2), freshCluster(3)}
	for number := int64(1); number <= 6; number++ {
		before, cluster := cloneSessions(s.list), cloneCluster(s.c)
		var told [3]impl.SessionsResult
		for i := range told {
			told[i] = impl.SubmitAs(s.list, s.c, int64(1+i), number, pair(0).Legs)
			a := askedAs{before, cluster, int64(1 + i), number, pair(0).Legs}
			checkSessionsResult(t, "behind one", told[i], a.wantSubmit())
			scramble(reflect.ValueOf(&told[i]).Elem())
			if !sameSessions(s.list, before) || !sameClusters(s.c, cluster) {
				t.Fatalf("client %d, number %d: changed what came ahead: %+v", 1+i, number, s)
			}
		}
		for client := int64(1); client <= 3; client++ {
			r := checkSubmitted(t, "each", askedAs{s.list, s.c, client, number, pair(0).Legs})
			s = served{r.Sessions, r.Cluster}
		}
		if number <= 2 {
			more := impl.OpenSession(s.list, 10+number)
			checkSessionsResult(t, "a session more", more, wantOpenSession(s.list, 10+number))
			s.list = more.Sessions
		}
	}
}

// Nil and what is empty are one value: they have one answer.
func TestServedOfNilAndEmpty(t *testing.T) {
	c := freshCluster(2, pair(2001))
	lists := [][2][]impl.Session{
		{nil, {}},
		{sessions(impl.Session{Client: 2, Next: 1}), sessions(impl.Session{Client: 2, Next: 1, Sent: make([]int64, 0, 4)})},
		{sessions(impl.Session{Client: 2, Next: 2}), sessions(impl.Session{Client: 2, Next: 2, Sent: []int64{}})},
		{sessions(sessionOf(2, 2)), append(make([]impl.Session, 0, 7), sessionOf(2, 2))},
	}
	for name, call := range servedCalls() {
		for _, legs := range [][2][]impl.Leg{{nil, {}}, {pair(0).Legs, pair(0).Legs}} {
			for _, list := range lists {
				none := askedAs{list: list[0], c: nilled(c), legs: legs[0]}
				empty := askedAs{list: list[1], c: emptied(c), legs: legs[1]}
				if a, b := call(none), call(empty); !reflect.DeepEqual(a, b) {
					t.Fatalf("%s: nil %+v, empty %+v", name, a, b)
				}
			}
		}
	}
}
