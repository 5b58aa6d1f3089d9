package tests

import (
	"fmt"
	"reflect"
	"slices"
	"testing"

	"loop.example/g00203/impl"
)

// checkClusterStep asks what holds behind every call: it is as chapter 11 told
// once more has it, and there is no fault behind it, if it has no code. It
// tells the cluster behind the call, as it was with a code.
func checkClusterStep(t *testing.T, before impl.Cluster, k clusterCall) (impl.Cluster, int64) {
	t.Helper()
	r := k.run(before)
	checkClusterResult(t, k.name, r, k.want(before))
	after := r.Cluster
	if r.Code != impl.OK {
		after = before
	}
	checkCode(t, "ClusterFault behind a step", impl.ClusterFault(after), impl.OK)
	if t.Failed() {
		t.Fatalf("%+v of %+v", k, before)
	}
	return after, r.Code
}

// checkSubmittedOnce asks that what was submitted changes nothing any more.
func checkSubmittedOnce(t *testing.T, c impl.Cluster) {
	t.Helper()
	for _, x := range c.Contracts {
		r := impl.SubmitContract(c, x)
		checkClusterResult(t, "submitted twice", r, impl.ClusterResult{Cluster: c})
		same := func(other impl.Contract) bool { return other.Id == x.Id }
		if first := slices.IndexFunc(r.Cluster.Contracts, same); slices.ContainsFunc(r.Cluster.Contracts[first+1:], same) {
			t.Errorf("contract %d is there twice", x.Id)
		}
	}
	if t.Failed() {
		t.Fatalf("%+v", c)
	}
}

// twiceSeen counts messages that came twice, by their kinds: of how many the
// first time changed something, and how many had a code.
type twiceSeen struct {
	kinds, changed [7]int
	codes          int
}

// check asks that a message that is copied changes what lasts by its
// first delivery alone, whichever of both comes first.
func (s *twiceSeen) check(t *testing.T, c impl.Cluster, at int64) {
	t.Helper()
	two := impl.CopyMessage(c, at)
	first := impl.DeliverMessage(two.Cluster, at)
	second := impl.DeliverMessage(first.Cluster, int64(len(c.Messages))-1)
	turned := impl.DeliverMessage(two.Cluster, int64(len(c.Messages)))
	if two.Code != impl.OK || first.Code != impl.OK || second.Code != impl.OK {
		s.codes++
		return
	}
	kind := c.Messages[at].Kind
	s.kinds[kind]++
	if !sameLasting(c, first.Cluster) {
		s.changed[kind]++
	}
	if !sameLasting(first.Cluster, second.Cluster) || !sameLasting(first.Cluster, turned.Cluster) {
		t.Fatalf("%+v came twice:\nfirst  %+v\nsecond %+v\nturned %+v", c.Messages[at], first, second, turned)
	}
}

// fewCalls are how clusters are made that are all gone through: of what can be
// done to one some is left out, and so is what leaves too many messages, or
// ballots.
type fewCalls struct {
	start     impl.Cluster
	contracts []impl.Contract
	waiting   int
	count     int64
	leavesOut func(k clusterCall) bool
}

func (f fewCalls) every() []impl.Cluster {
	list := []impl.Cluster{f.start}
	seen := map[string]int{fmt.Sprint(f.start): 1}
	for at := 0; at < len(list); at++ {
		for _, k := range clusterCalls(list[at], f.contracts) {
			r := k.run(list[at])
			if f.leavesOut(k) || r.Code != impl.OK || len(r.Cluster.Messages) > f.waiting || max(r.Cluster.Leaders[0].Count, r.Cluster.Leaders[1].Count) > f.count {
				continue
			}
			name := fmt.Sprint(r.Cluster)
			if seen[name]++; seen[name] == 1 {
				list = append(list, r.Cluster)
			}
		}
	}
	return list
}

func nothingIsLeftOut(clusterCall) bool {
	return false
}

// mostIsLeftOut leaves what is delivered, what is lost first, and what one
// leader begins.
func mostIsLeftOut(k clusterCall) bool {
	return k.name == "copy" || k.name == "resend" || k.name == "crash" || k.name == "tick" && k.a > 0 || k.name == "drop" && k.a > 0
}

// Promise 12, for all that a few calls can make of new clusters, and every
// further call, also those that were left out: of every so many clusters.
func TestEveryClusterOfAFewCalls(t *testing.T) {
	inside, narrow := heldOf(contract(3, leg(0, 0, 0, -9), leg(0, 1, 0, 9))), ledger(bals(bal(0, 0, 9)))
	fresh := func(g impl.Ledger, n int64) impl.Cluster { return impl.NewCluster(g, n).Cluster }
	worlds := []struct {
		f           fewCalls
		each, least int
	}{
		{fewCalls{fresh(narrow, 1), inside, 3, 0, nothingIsLeftOut}, 1, 500},
		{fewCalls{fresh(narrow, 1), inside, 3, 1, mostIsLeftOut}, 1, 300},
		{fewCalls{fresh(ledger(bals(bal(0, 0, 8))), 1), inside, 3, 1, mostIsLeftOut}, 1, 300},
		{fewCalls{fresh(narrow, 2), inside, 3, 0, nothingIsLeftOut}, 7, 5000},
		{fewCalls{fresh(ledger(bals(bal(0, 0, 9)), nil), 1), heldOf(pair(7)), 3, 1, mostIsLeftOut}, 9, 10000},
		{fewCalls{fresh(narrow, 3), inside, 3, 1, mostIsLeftOut}, 17, 20000},
	}
	var seen twiceSeen
	for i, w := range worlds {
		every := w.f.every()
		for at := 0; at < len(every); at += w.each {
			c := every[at]
			for _, k := range clusterCalls(c, w.f.contracts) {
				checkClusterStep(t, c, k)
			}
			checkSubmittedOnce(t, c)
			for place := range int64(len(c.Messages)) {
				seen.check(t, c, place)
			}
		}
		if len(every) < w.least {
			t.Errorf("world %d: only %d clusters", i, len(every))
		}
	}
	for kind := 1; kind <= 6; kind++ {
		if seen.kinds[kind] < 100 || seen.changed[kind] < 20 {
			t.Errorf("kind %d came twice %d times, and changed something %d times", kind, seen.kinds[kind], seen.changed[kind])
		}
	}
	if seen.codes > 0 {
		t.Errorf("%d codes", seen.codes)
	}
}

// changesOf keeps how often a message changed shards or acceptors, however
// often it was sent or copied, and whenever it came.
type changesOf map[impl.Message]int

func (s changesOf) check(t *testing.T, before, after impl.Cluster, m impl.Message) {
	t.Helper()
	if slices.EqualFunc(before.Shards, after.Shards, sameShards) && slices.EqualFunc(before.Acceptors, after.Acceptors, sameAcceptor) {
		return
	}
	if s[m]++; s[m] > 1 {
		t.Fatalf("%+v changed what lasts once more:\nfrom %+v\nto   %+v", m, before, after)
	}
}

// Promise 12, behind very many calls that are thrown. In calm worlds messages
// have room, in others they come to be too many.
func TestClustersStayRight(t *testing.T) {
	d := dice(171)
	codes, ends := map[string]int{}, map[int64]int{}
	var seen twiceSeen
	for walk := range 80 {
		w := d.clusterWorld([]int{1, 3, 8, 24}[walk%4], walk%5 > 0)
		c, changed := w.start, changesOf{}
		for step := range 220 {
			k := d.clusterCall(w, c)
			before := c
			after, code := checkClusterStep(t, before, k)
			codes[fmt.Sprint(k.name, " ", code)]++
			if k.name == "deliver" && code == impl.OK {
				changed.check(t, before, after, before.Messages[k.a])
			}
			c = after
			if step%5 == 0 && len(c.Messages) > 0 {
				seen.check(t, c, d.below(int64(len(c.Messages))))
			}
			if step%20 == 0 {
				checkSubmittedOnce(t, c)
			}
		}
		checkClusterRight(t, "behind a walk", c)
		for _, s := range c.Shards {
			for _, m := range s.Done {
				ends[m.Value]++
			}
		}
	}
	for _, name := range []string{"submit 0", "submit 2", "deliver 0", "deliver 2", "copy 0", "copy 2", "drop 0", "tick 0", "tick 2", "tick 4", "crash 0", "resend 0"} {
		if codes[name] < 5 {
			t.Errorf("%s only %d times", name, codes[name])
		}
	}
	for kind := 1; kind <= 6; kind++ {
		if seen.kinds[kind] < 50 || seen.changed[kind] < 5 {
			t.Errorf("kind %d came twice %d times, and changed something %d times", kind, seen.kinds[kind], seen.changed[kind])
		}
	}
	if ends[impl.OutcomeDone] < 20 || ends[impl.OutcomeNot] < 100 {
		t.Errorf("outcomes %v", ends)
	}
}

// A contract is submitted in clusters of every kind, then once more.
func TestSubmittedTwiceIsThereOnce(t *testing.T) {
	d := dice(172)
	for range 300 {
		c, w := d.walkedCluster(150)
		for _, x := range w.contracts {
			first := impl.SubmitContract(c, x)
			if first.Code != impl.OK {
				continue
			}
			checkClusterResult(t, "submitted twice", impl.SubmitContract(first.Cluster, x), first)
			c = first.Cluster
		}
		checkSubmittedOnce(t, c)
	}
}

// clusterArgs are right and wrong ones for the functions of chapter 11.
func clusterArgs() []impl.Cluster {
	d := dice(173)
	room := impl.Cluster{Contracts: []impl.Contract{}, Shards: make([]impl.Shard, 1, 4), Acceptors: make([]impl.Acceptor, 1, 4), Leaders: make([]impl.Leader, 2, 4), Messages: []impl.Message{}}
	held, posted := freshCluster(5, contractsAt(1, 18)...), busyCluster()
	held.Shards[1].Votes, held.Shards[1].Held = manyMarks(18, 1, 1), contractsAt(1, 18)
	posted.Messages = append(posted.Messages, manyMessages(192, 4, 2)...)
	list := []impl.Cluster{
		{}, busyCluster(), posted, freshCluster(1), freshCluster(5, three(5), pair(7)), freshCluster(6), room, held,
		{Contracts: make([]impl.Contract, 3), Shards: make([]impl.Shard, 3), Acceptors: make([]impl.Acceptor, 3), Leaders: make([]impl.Leader, 2), Messages: make([]impl.Message, 3)},
		{Contracts: heldOf(contract(farLow, leg(farHigh, farLow, farHigh, farLow))), Shards: []impl.Shard{{Index: farHigh}}, Acceptors: newAcceptors(1), Leaders: []impl.Leader{{Count: farLow}, {Count: farHigh}}},
	}
	for i, f := range clusterFaults {
		c := busyCluster()
		f.spoil(&c)
		if i%4 == 0 {
			list = append(list, c)
		}
	}
	for range 8 {
		right, _ := d.walkedCluster(120)
		odd, _ := d.oddCluster()
		wrong, _ := d.anyCluster()
		list = append(list, right, odd, wrong)
	}
	return list
}

// Promise 1: an answer at every argument that hangs on it alone, in new
// memory, also where nothing changes.
func TestClusterAnswersAreNewMemory(t *testing.T) {
	d := dice(174)
	for _, c := range clusterArgs() {
		checkPure(t, "ClusterFault", impl.ClusterFault, c)
		for _, at := range []int64{farLow, -1, 0, 1, 2, int64(len(c.Messages)) - 1, int64(len(c.Messages)), farHigh} {
			checkPure(t, "DeliverMessage", impl.DeliverMessage, c, at)
			checkPure(t, "CopyMessage", impl.CopyMessage, c, at)
			checkPure(t, "DropMessage", impl.DropMessage, c, at)
			checkPure(t, "CrashLeader", impl.CrashLeader, c, at)
			checkPure(t, "ResendShard", impl.ResendShard, c, at)
			checkPure(t, "TickLeader", impl.TickLeader, c, at, int64(2))
			checkPure(t, "TickLeader", impl.TickLeader, c, int64(1), at)
		}
		for _, x := range append(heldOf(pair(2), pair(5), pair(0), contract(3), three(3), d.anyContract()), c.Contracts...) {
			checkPure(t, "SubmitContract", impl.SubmitContract, c, x)
		}
		for _, m := range append(rightMessages(), impl.Message{}, askOf(farLow, farHigh), openedTo(farHigh, farLow, 2, farHigh, farLow, vote(farHigh, farLow))) {
			checkPure(t, "MessageFault", impl.MessageFault, c, m)
		}
	}
}

// Each message of many clusters is delivered, and each contract ticked.
func TestDeliveriesAreNewMemory(t *testing.T) {
	d := dice(175)
	for n := range 40 {
		c := busyCluster()
		if n > 0 {
			c, _ = d.oddCluster()
		}
		for at := range c.Messages {
			checkPure(t, "DeliverMessage", impl.DeliverMessage, c, int64(at))
		}
		for _, x := range c.Contracts {
			checkPure(t, "TickLeader", impl.TickLeader, c, d.below(2), x.Id)
		}
	}
}

// Where there is no room for anything more, each call by itself.
func TestFullClustersAreNewMemory(t *testing.T) {
	c := fullCluster()
	calls := []clusterCall{{name: "submit", x: three(7)}, {name: "submit", x: three(21)}, {name: "copy"}, {name: "drop", a: 199}, {name: "crash", a: 1}, {name: "resend", a: 1}}
	for _, k := range calls {
		checkPure(t, k.name, k.run, c)
	}
	c.Messages = c.Messages[:150]
	for _, k := range []clusterCall{{name: "deliver", a: 149}, {name: "tick", b: 5}, {name: "tick", a: 1, b: 5}, {name: "copy"}} {
		checkPure(t, k.name, k.run, c)
	}
}

func TestNewClusterIsNewMemory(t *testing.T) {
	d := dice(176)
	for range 60 {
		for _, n := range []int64{farLow, -1, 0, 1, 3, 5, 6, farHigh} {
			checkPure(t, "NewCluster", impl.NewCluster, d.anyLedger(), n)
			checkPure(t, "NewCluster", impl.NewCluster, d.rightLedger(), n)
		}
	}
}

// clusterOfOneMemory has lists that lie in one memory, with room behind their
// ends, wherever two may be the same.
func clusterOfOneMemory(legs []impl.Leg) impl.Cluster {
	marked := slices.Grow(marks(mark(2, 2)), 4)
	slots := slices.Grow(slotsOf(elsewhere(slotOf(2, ready(0)), 2, 0)), 4)
	shared := impl.Leader{
		Count: 1,
		Tries: slices.Grow(tries(promisedBy(tryOf(2, 0, 2, 0), slices.Grow(places(0), 4), slices.Grow(votes(noVote()), 4)...)), 4),
		Known: slices.Grow(heardOf(2, 0, ready(0), 0, 1), 4),
	}
	shared.Tries[0].Olds = slices.Grow(votes(noVote()), 4)
	return impl.Cluster{
		Contracts: slices.Grow(heldOf(impl.Contract{Id: 2, Legs: legs}, impl.Contract{Id: 4, Legs: legs}), 4),
		Shards:    []impl.Shard{{Index: 0, Balances: fullShard(9), Votes: marked, Done: marked}, {Index: 1, Balances: fullShard(9), Votes: marked, Done: marked}},
		Acceptors: slices.Repeat(acceptorsOf(impl.Acceptor{Slots: slots}), 3),
		Leaders:   []impl.Leader{shared, shared},
		Messages: slices.Grow(messages(
			askOf(0, 4), askOf(1, 2), castTo(1, 2, 0, not(3)), castTo(1, 4, 1, not(3)), openTo(2, 1, 2, 0, 4), openTo(2, 1, 4, 0, 4),
			openedTo(0, 1, 2, 0, 2, ready(0)), openedTo(1, 2, 2, 0, 2, noVote()), saidTo(0, 2, 2, 0, ready(0)), saidTo(1, 2, 2, 1, not(0)), tellTo(0, 4, 2), tellTo(1, 4, 2),
		), 4),
	}
}

// Lists of one memory, in a cluster and in what is submitted to it, are not
// changed, and each one of an answer is for itself.
func TestClustersOfOneMemoryAreNotChanged(t *testing.T) {
	legs := slices.Grow(pair(0).Legs, 4)
	c := clusterOfOneMemory(legs)
	checkClusterRight(t, "of one memory", c)
	before, own := whole(reflect.ValueOf(c)), cloneCluster(c)
	calls := append(clusterCalls(c, own.Contracts), clusterCall{name: "submit", x: impl.Contract{Id: 3, Legs: legs}}, clusterCall{name: "submit", x: impl.Contract{Id: 9, Legs: legs}})
	for _, x := range c.Contracts {
		calls = append(calls, clusterCall{name: "submit", x: x})
	}
	for _, k := range calls {
		r := k.run(c)
		checkClusterResult(t, k.name, r, k.want(own))
		checkApart(t, reflect.ValueOf(r), reflect.ValueOf(c))
		checkApart(t, reflect.ValueOf(r), reflect.ValueOf(legs))
		if !reflect.DeepEqual(whole(reflect.ValueOf(c)), before) {
			t.Fatalf("%+v: changed", k)
		}
	}
}

// Two calls behind one cluster are two clusters: neither is seen in the other,
// nor in what came ahead.
func TestTwoCallsBehindOneCluster(t *testing.T) {
	d := dice(177)
	for range 40 {
		w := d.clusterWorld(5, true)
		c := w.start
		for range 50 {
			before := cloneCluster(c)
			a, b := d.clusterCall(w, c), d.clusterCall(w, c)
			first, second := a.run(c), b.run(c)
			checkClusterResult(t, "the first one", first, a.want(before))
			scramble(reflect.ValueOf(&first).Elem())
			checkClusterResult(t, "the second one", second, b.want(before))
			if !sameClusters(c, before) {
				t.Fatalf("%+v of %+v: changed", a, before)
			}
			if second.Code == impl.OK {
				c = second.Cluster
			}
		}
	}
}

// emptied makes what is nil empty, in all of a cluster.
func emptied(c impl.Cluster) impl.Cluster {
	c = cloneCluster(c)
	c.Contracts, c.Messages = append([]impl.Contract{}, c.Contracts...), append([]impl.Message{}, c.Messages...)
	for i := range c.Shards {
		s := &c.Shards[i]
		s.Balances, s.Votes, s.Held = append([]impl.Balance{}, s.Balances...), append([]impl.Mark{}, s.Votes...), append([]impl.Contract{}, s.Held...)
		s.Done, s.Applied = append([]impl.Mark{}, s.Done...), append([]int64{}, s.Applied...)
	}
	for i := range c.Acceptors {
		c.Acceptors[i].Slots = append([]impl.Slot{}, c.Acceptors[i].Slots...)
		for j := range c.Acceptors[i].Slots {
			c.Acceptors[i].Slots[j].Cast = append([]impl.Vote{}, c.Acceptors[i].Slots[j].Cast...)
		}
	}
	for i := range c.Leaders {
		l := &c.Leaders[i]
		l.Tries, l.Known = append([]impl.Try{}, l.Tries...), append([]impl.Heard{}, l.Known...)
		for j := range l.Tries {
			l.Tries[j].From, l.Tries[j].Olds = append([]int64{}, l.Tries[j].From...), append([]impl.Vote{}, l.Tries[j].Olds...)
		}
	}
	return c
}

// nilled makes what is empty nil, in all of a cluster.
func nilled(c impl.Cluster) impl.Cluster {
	v := reflect.New(reflect.TypeOf(c)).Elem()
	v.Set(reflect.ValueOf(cloneCluster(c)))
	var walk func(v reflect.Value)
	walk = func(v reflect.Value) {
		switch v.Kind() {
		case reflect.Slice:
			if v.Len() == 0 {
				v.SetZero()
			}
			for i := range v.Len() {
				walk(v.Index(i))
			}
		case reflect.Struct:
			for i := range v.NumField() {
				walk(v.Field(i))
			}
		}
	}
	walk(v)
	return v.Interface().(impl.Cluster)
}

// Nil and what is empty are one value: they have one answer.
func TestClustersOfNilAndEmpty(t *testing.T) {
	d := dice(178)
	bare := impl.NewCluster(ledger(nil, nil), 2).Cluster
	list := []impl.Cluster{bare, busyCluster(), freshCluster(3, pair(7)), {}}
	for range 20 {
		c, _ := d.oddCluster()
		list = append(list, c)
	}
	for _, c := range list {
		none, empty := nilled(c), emptied(c)
		for _, k := range append(clusterCalls(c, append(heldOf(pair(7), contract(3)), c.Contracts...)), clusterCall{name: "submit", x: impl.Contract{Id: 3, Legs: []impl.Leg{}}}) {
			if a, b := k.run(none), k.run(empty); !reflect.DeepEqual(a, b) {
				t.Fatalf("%+v: nil %+v, empty %+v", k, a, b)
			}
		}
		checkCode(t, "ClusterFault", impl.ClusterFault(empty), impl.ClusterFault(none))
		for _, m := range append(rightMessages(), c.Messages...) {
			checkCode(t, "MessageFault", impl.MessageFault(empty, m), impl.MessageFault(none, m))
		}
	}
	if a, b := impl.NewCluster(ledger(nil, nil), 2), impl.NewCluster(ledger(bals(), bals()), 2); !reflect.DeepEqual(a, b) {
		t.Errorf("nil %+v, empty %+v", a, b)
	}
}
