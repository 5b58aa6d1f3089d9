package tests

import (
	"cmp"
	"fmt"
	"slices"
	"testing"

	"loop.example/g00203/impl"
)

// clusterCall is what is done to a cluster: its name, and a contract or one or
// two numbers.
type clusterCall struct {
	name string
	x    impl.Contract
	a, b int64
}

func (k clusterCall) run(c impl.Cluster) impl.ClusterResult {
	switch k.name {
	case "submit":
		return impl.SubmitContract(c, k.x)
	case "deliver":
		return impl.DeliverMessage(c, k.a)
	case "copy":
		return impl.CopyMessage(c, k.a)
	case "drop":
		return impl.DropMessage(c, k.a)
	case "tick":
		return impl.TickLeader(c, k.a, k.b)
	case "crash":
		return impl.CrashLeader(c, k.a)
	}
	return impl.ResendShard(c, k.a)
}

func (k clusterCall) want(c impl.Cluster) impl.ClusterResult {
	switch k.name {
	case "submit":
		return wantSubmitContract(c, k.x)
	case "deliver":
		return wantDeliverMessage(c, k.a)
	case "copy":
		return wantCopyMessage(c, k.a)
	case "drop":
		return wantDropMessage(c, k.a)
	case "tick":
		return wantTickLeader(c, k.a, k.b)
	case "crash":
		return wantCrashLeader(c, k.a)
	}
	return wantResendShard(c, k.a)
}

// clusterCalls are all that can be done to a cluster, with the contracts that
// it meets.
func clusterCalls(c impl.Cluster, contracts []impl.Contract) []clusterCall {
	var list []clusterCall
	for _, x := range contracts {
		list = append(list, clusterCall{name: "submit", x: x})
	}
	for at := range int64(len(c.Messages)) {
		list = append(list, clusterCall{name: "deliver", a: at}, clusterCall{name: "copy", a: at}, clusterCall{name: "drop", a: at})
	}
	for leader := range int64(2) {
		for _, x := range contracts {
			list = append(list, clusterCall{name: "tick", a: leader, b: x.Id})
		}
		list = append(list, clusterCall{name: "crash", a: leader})
	}
	for shard := range int64(len(c.Shards)) {
		list = append(list, clusterCall{name: "resend", a: shard})
	}
	return list
}

// clusterWorld is where a cluster begins, and the contracts that it meets.
// Calm ones are not done more to than they can deliver.
type clusterWorld struct {
	start     impl.Cluster
	contracts []impl.Contract
	calm      bool
}

// clusterWorld throws one of n contracts. What they move is often not there.
func (d *dice) clusterWorld(n int, calm bool) clusterWorld {
	g := d.rightLedger()
	w := clusterWorld{start: impl.NewCluster(g, 1+d.below(5)).Cluster, calm: calm}
	for len(w.contracts) < n {
		x := d.rightContract()
		if slices.Max(shardsIn(x)) < int64(len(g.Shards)) {
			x.Id = 3*int64(len(w.contracts)) + 1 + d.below(3)
			w.contracts = append(w.contracts, x)
		}
	}
	return w
}

// clusterCall throws one that may be done, in calm worlds mostly a delivery.
func (d *dice) clusterCall(w clusterWorld, c impl.Cluster) clusterCall {
	x := w.contracts[d.below(int64(len(w.contracts)))]
	at := d.below(int64(len(c.Messages)) + 1)
	n := d.below(100)
	if w.calm && len(c.Messages) > 40 {
		n = 50 + n/2
	}
	if !w.calm && d.below(2) == 0 {
		n = n / 3
	}
	switch {
	case n < 8:
		return clusterCall{name: "submit", x: x}
	case n < 14:
		return clusterCall{name: "copy", a: at}
	case n < 24:
		return clusterCall{name: "tick", a: d.below(2), b: x.Id}
	case n < 28:
		return clusterCall{name: "resend", a: d.below(max(1, int64(len(c.Shards))))}
	case n < 30:
		return clusterCall{name: "crash", a: d.below(2)}
	case n < 38:
		return clusterCall{name: "drop", a: at}
	case n < 70:
		return clusterCall{name: "deliver", a: 0}
	}
	return clusterCall{name: "deliver", a: at}
}

// walkedCluster throws one that came of a new one.
func (d *dice) walkedCluster(steps int64) (impl.Cluster, clusterWorld) {
	w := d.clusterWorld(1+int(d.below(6)), d.below(4) > 0)
	c := w.start
	for range d.below(steps) {
		if r := d.clusterCall(w, c).run(c); r.Code == impl.OK {
			c = r.Cluster
		}
	}
	return c, w
}

// part throws a contract that was submitted, and a shard of it.
func (d *dice) part(c impl.Cluster) (int64, int64) {
	x := c.Contracts[d.below(int64(len(c.Contracts)))]
	shards := shardsIn(x)
	return x.Id, shards[d.below(int64(len(shards)))]
}

// message throws one without a fault.
func (d *dice) message(c impl.Cluster) impl.Message {
	contract, shard := d.part(c)
	acceptor, leader, v := d.below(int64(len(c.Acceptors))), d.below(2), vote(d.below(6), 1+d.below(2))
	old := noVote()
	if d.below(2) == 0 {
		old = vote(d.below(6), 1+d.below(2))
	}
	return messages(
		askOf(shard, contract), castTo(acceptor, contract, shard, v), saidTo(leader, acceptor, contract, shard, v),
		openTo(acceptor, leader, contract, shard, v.Ballot), openedTo(leader, acceptor, contract, shard, v.Ballot, old), tellTo(shard, contract, v.Value),
	)[d.below(6)]
}

// oddCluster throws one without a fault that need not have come of a new one:
// a leader may have heard and tried anything, and any message may come.
func (d *dice) oddCluster() (impl.Cluster, clusterWorld) {
	c, w := d.walkedCluster(60)
	if len(c.Contracts) == 0 {
		return c, w
	}
	for range d.below(30) {
		c.Messages = append(c.Messages, d.message(c))
	}
	c.Messages = c.Messages[max(0, len(c.Messages)-200):]
	for range d.below(40) {
		l := &c.Leaders[d.below(2)]
		contract, shard := d.part(c)
		from := d.below(int64(len(c.Acceptors)))
		if d.below(4) > 0 {
			h := heardOf(contract, shard, vote(d.below(3), 1+d.below(2)), from)[0]
			l.Known = slices.CompactFunc(heardInOrder(append(l.Known, h)), func(a, b impl.Heard) bool { return a == b })
			continue
		}
		t := tryOf(contract, shard, 1+d.below(5), d.below(3))
		if d.below(2) == 0 {
			t.From, t.Olds = places(from), votes(vote(d.below(6), 1+d.below(2)))
		}
		l.Tries = slices.CompactFunc(triesInOrder(append(l.Tries, t)), func(a, b impl.Try) bool { return a.Contract == b.Contract && a.Shard == b.Shard })
	}
	return c, w
}

func heardInOrder(list []impl.Heard) []impl.Heard {
	slices.SortFunc(list, func(a, b impl.Heard) int {
		return cmp.Or(cmp.Compare(a.Contract, b.Contract), cmp.Compare(a.Shard, b.Shard), cmp.Compare(a.Ballot, b.Ballot), cmp.Compare(a.Value, b.Value), cmp.Compare(a.From, b.From))
	})
	return list
}

func triesInOrder(list []impl.Try) []impl.Try {
	slices.SortStableFunc(list, func(a, b impl.Try) int {
		return cmp.Or(cmp.Compare(a.Contract, b.Contract), cmp.Compare(a.Shard, b.Shard))
	})
	return list
}

// anyCluster throws one that may have faults of every kind.
func (d *dice) anyCluster() (impl.Cluster, clusterWorld) {
	c, w := d.oddCluster()
	c = cloneCluster(c)
	for range d.below(3) {
		d.spoilCluster(&c)
	}
	return c, w
}

func (d *dice) odd() int64 {
	odd := []int64{farLow, -1, 0, 1, 2, 3, 4, 5, 6, 7, 60, 200, 400, 401, maxBallot, maxBallot + 1, maxId, maxId + 1, farHigh}
	return odd[d.below(int64(len(odd)))]
}

func (d *dice) spoilCluster(c *impl.Cluster) {
	n := d.odd()
	switch d.below(9) {
	case 0:
		d.spoilSizes(c)
	case 1:
		if len(c.Contracts) > 0 {
			d.spoilContracts(c.Contracts, n)
		}
	case 2, 3:
		if len(c.Shards) > 0 {
			d.spoilShard(&c.Shards[d.below(int64(len(c.Shards)))])
		}
	case 4:
		if len(c.Acceptors) > 0 {
			d.spoilKeeper(&c.Acceptors[d.below(int64(len(c.Acceptors)))], n)
		}
	case 5, 6:
		if len(c.Leaders) > 0 {
			d.spoilLeader(&c.Leaders[d.below(int64(len(c.Leaders)))], n)
		}
	default:
		if len(c.Messages) > 0 {
			d.spoilMessage(&c.Messages[d.below(int64(len(c.Messages)))], n)
		}
	}
}

func (d *dice) spoilSizes(c *impl.Cluster) {
	switch d.below(9) {
	case 0:
		c.Contracts = append(c.Contracts, contractsAt(100, 21-min(21, len(c.Contracts)))...)
	case 1:
		c.Contracts = nil
	case 2:
		c.Shards = append(c.Shards, impl.Shard{Index: int64(len(c.Shards))})
	case 3:
		c.Shards = c.Shards[:max(0, len(c.Shards)-1)]
	case 4:
		c.Acceptors = append(c.Acceptors, impl.Acceptor{})
	case 5:
		c.Acceptors = c.Acceptors[:max(0, len(c.Acceptors)-1)]
	case 6:
		c.Leaders = append(c.Leaders, impl.Leader{})
	case 7:
		c.Leaders = c.Leaders[:max(0, len(c.Leaders)-1)]
	case 8:
		c.Messages = append(c.Messages, make([]impl.Message, 201-min(201, len(c.Messages)))...)
	}
}

func (d *dice) spoilContracts(list []impl.Contract, n int64) {
	at, other := d.below(int64(len(list))), d.below(int64(len(list)))
	switch d.below(5) {
	case 0:
		list[at].Id = n
	case 1:
		list[at], list[other] = list[other], list[at]
	case 2:
		d.spoilLegs(&list[at])
	case 3:
		list[at].Legs = d.rightContract().Legs
	case 4:
		slices.Reverse(list[at].Legs)
	}
}

// spoilKeeper spoils an acceptor, also by slots that nobody else has.
func (d *dice) spoilKeeper(a *impl.Acceptor, n int64) {
	switch {
	case d.below(2) == 0:
		d.spoilAcceptor(a)
	case len(a.Slots) > 0 && d.below(2) == 0:
		a.Slots[d.below(int64(len(a.Slots)))].Shard = d.below(3)
	default:
		a.Slots = append(a.Slots, elsewhere(castOf(ready(0)), max(100, min(n, maxId)), d.below(3)))
	}
}

func (d *dice) spoilLeader(l *impl.Leader, n int64) {
	switch d.below(6) {
	case 0:
		l.Count = n
	case 1:
		l.Tries = append(l.Tries, make([]impl.Try, 60+int(d.below(2))-min(60, len(l.Tries)))...)
	case 2:
		l.Known = append(l.Known, make([]impl.Heard, 300+int(d.below(2))-min(300, len(l.Known)))...)
	case 3, 4:
		if len(l.Tries) > 0 {
			d.spoilTry(l.Tries, n)
		}
	case 5:
		if len(l.Known) > 0 {
			d.spoilHeard(l.Known, n)
		}
	}
}

func (d *dice) spoilTry(list []impl.Try, n int64) {
	at, other := d.below(int64(len(list))), d.below(int64(len(list)))
	t := &list[at]
	switch d.below(9) {
	case 0:
		t.Contract = n
	case 1:
		t.Shard = n
	case 2:
		t.Ballot = n
	case 3:
		t.Value = n
	case 4:
		list[at], list[other] = list[other], list[at]
	case 5:
		t.From = append(t.From, n)
	case 6:
		t.Olds = append(t.Olds, noVote())
	case 7:
		t.From, t.Olds = append(t.From, d.below(5)), append(t.Olds, vote(n, d.below(4)))
	case 8:
		t.From, t.Olds = append(t.From, t.From...), append(t.Olds, t.Olds...)
	}
}

func (d *dice) spoilHeard(list []impl.Heard, n int64) {
	at, other := d.below(int64(len(list))), d.below(int64(len(list)))
	switch d.below(7) {
	case 0:
		list[at].Contract = n
	case 1:
		list[at].Shard = n
	case 2:
		list[at].Ballot = n
	case 3:
		list[at].Value = n
	case 4:
		list[at].From = n
	case 5:
		list[at], list[other] = list[other], list[at]
	case 6:
		list[at] = list[other]
	}
}

func (d *dice) spoilMessage(m *impl.Message, n int64) {
	switch d.below(9) {
	case 0:
		m.Kind = n
	case 1:
		m.To = n
	case 2:
		m.From = n
	case 3:
		m.Contract = n
	case 4:
		m.Shard = n
	case 5:
		m.Ballot = n
	case 6:
		m.Value = n
	case 7:
		m.Old = vote(n, m.Old.Value)
	case 8:
		m.Old = vote(m.Old.Ballot, n)
	}
}

// anyClusterCall throws one that may have faults of every kind.
func (d *dice) anyClusterCall(w clusterWorld, c impl.Cluster) clusterCall {
	k := d.clusterCall(w, c)
	switch d.below(8) {
	case 0:
		k.x = d.anyContract()
	case 1:
		k.x = d.rightContract()
		k.x.Id = 1 + d.below(20)
	case 2:
		k.a = d.odd()
	case 3:
		k.b = d.odd()
	}
	return k
}

// Chapter 11 told twice, for clusters that are thrown: right ones, and such
// with faults of every kind.
func TestClustersThatAreThrown(t *testing.T) {
	d := dice(161)
	told, done := map[int64]int{}, map[string]int{}
	for range 4000 {
		c, w := d.anyCluster()
		code := impl.ClusterFault(c)
		told[code]++
		checkCode(t, "ClusterFault", code, wantClusterFault(c))
		for range 8 {
			k := d.anyClusterCall(w, c)
			r := k.run(c)
			checkClusterResult(t, k.name, r, k.want(c))
			done[fmt.Sprint(k.name, " ", r.Code)]++
			if t.Failed() {
				t.Fatalf("%+v of %+v", k, c)
			}
		}
	}
	for _, code := range []int64{impl.OK, impl.ErrForm, impl.ErrMany, impl.ErrRange, impl.ErrNone, impl.ErrText, impl.ErrTaken} {
		if told[code] < 20 {
			t.Errorf("code %d only %d times", code, told[code])
		}
	}
	for _, name := range []string{"submit 0", "submit 1", "submit 2", "submit 3", "submit 4", "submit 7", "deliver 0", "deliver 3", "copy 0", "copy 3", "drop 0", "drop 3", "tick 0", "tick 3", "tick 4", "crash 0", "crash 3", "resend 0", "resend 3"} {
		if done[name] < 10 {
			t.Errorf("%s only %d times", name, done[name])
		}
	}
}

// Messages that are thrown, right ones and others, in clusters of every kind.
func TestMessagesThatAreThrown(t *testing.T) {
	d := dice(162)
	told := map[int64]int{}
	for range 400 {
		c, _ := d.anyCluster()
		if len(c.Contracts) == 0 || len(c.Acceptors) == 0 || slices.ContainsFunc(c.Contracts, func(x impl.Contract) bool { return len(x.Legs) == 0 }) {
			continue
		}
		for range 60 {
			m := d.message(c)
			for range d.below(3) {
				d.spoilMessage(&m, d.odd())
			}
			got := impl.MessageFault(c, m)
			told[got]++
			if want := wantMessageFault(c, m); got != want {
				t.Fatalf("%+v of %+v: %d, want %d", m, c, got, want)
			}
		}
	}
	for _, code := range []int64{impl.OK, impl.ErrForm, impl.ErrRange, impl.ErrNone, impl.ErrText} {
		if told[code] < 100 {
			t.Errorf("code %d only %d times", code, told[code])
		}
	}
}

// NewCluster told twice, for ledgers that are thrown.
func TestNewClustersThatAreThrown(t *testing.T) {
	d := dice(163)
	for range 3000 {
		g, n := d.anyLedger(), d.below(8)-1
		r := impl.NewCluster(g, n)
		checkClusterResult(t, "NewCluster", r, wantNewCluster(g, n))
		if r.Code == impl.OK {
			checkClusterRight(t, "NewCluster", r.Cluster)
		}
		if t.Failed() {
			t.Fatalf("%d of %v", n, g)
		}
	}
}
