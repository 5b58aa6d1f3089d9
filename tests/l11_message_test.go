package tests

import (
	"testing"

	"loop.example/g00203/impl"
)

func TestClusterConstants(t *testing.T) {
	if impl.MaxMessages != 200 || impl.MaxLeaders != 2 || impl.MaxContracts != 20 || impl.MaxHeard != 300 {
		t.Errorf("MaxMessages %d, MaxLeaders %d, MaxContracts %d, MaxHeard %d", impl.MaxMessages, impl.MaxLeaders, impl.MaxContracts, impl.MaxHeard)
	}
	kinds := [6]int64{impl.KindAsk, impl.KindCast, impl.KindSaid, impl.KindOpen, impl.KindOpened, impl.KindTell}
	if kinds != [6]int64{1, 2, 3, 4, 5, 6} {
		t.Errorf("kinds %v", kinds)
	}
}

// postedCluster has 3 shards, 4 acceptors and 2 leaders; contract 7 has the
// shards 0 and 1, contract 8 shard 2 alone.
func postedCluster() impl.Cluster {
	return freshCluster(4, pair(7), contract(8, leg(2, 0, 0, -1), leg(2, 1, 0, 1)))
}

// rightMessages are one of each kind, of contract 7.
func rightMessages() []impl.Message {
	return messages(askOf(1, 7), castTo(3, 7, 1, ready(3)), saidTo(1, 3, 7, 1, not(3)), openTo(3, 1, 7, 1, 3), openedTo(1, 3, 7, 1, 3, ready(2)), tellTo(1, 7, 2))
}

func checkMessage(t *testing.T, what string, m impl.Message, want int64) {
	t.Helper()
	c := postedCluster()
	checkCode(t, what, impl.MessageFault(c, m), want)
	checkCode(t, what+", told once more", wantMessageFault(c, m), want)
	c.Messages = messages(askOf(0, 7), m)
	checkCode(t, what+": ClusterFault", impl.ClusterFault(c), want)
}

// kindCases spoils a right message of each of the kinds 1 to 6; the codes stand
// in their order.
func kindCases(t *testing.T, name string, spoil func(m *impl.Message), codes ...int64) {
	t.Helper()
	for i, m := range rightMessages() {
		spoil(&m)
		checkMessage(t, name+" of kind "+string(rune('1'+i)), m, codes[i])
	}
}

func TestMessageKinds(t *testing.T) {
	for _, m := range rightMessages() {
		checkMessage(t, "a right one", m, impl.OK)
		for _, kind := range []int64{farLow, -1, 0, 7, 8, farHigh} {
			m.Kind = kind
			checkMessage(t, "a kind that is none", m, impl.ErrText)
			checkMessage(t, "a kind that is none, nothing else", impl.Message{Kind: kind}, impl.ErrText)
		}
	}
	checkMessage(t, "the zero value", impl.Message{}, impl.ErrText)
	checkMessage(t, "all far out", impl.Message{Kind: farHigh, To: farLow, From: farHigh, Contract: farLow, Shard: farHigh, Ballot: farLow, Value: farHigh, Old: vote(farLow, farHigh)}, impl.ErrText)
	for kind := int64(1); kind <= 6; kind++ {
		checkMessage(t, "a kind alone", impl.Message{Kind: kind}, impl.ErrNone)
		checkMessage(t, "a kind, all else far out", impl.Message{Kind: kind, To: farLow, From: farHigh, Contract: farLow, Shard: farHigh, Ballot: farLow, Value: farHigh, Old: vote(farLow, farHigh)}, impl.ErrRange)
	}
}

// To and From at and beyond their bounds. From that is not named is asked with
// all that is not named.
func TestMessageEnds(t *testing.T) {
	out, no := int64(impl.ErrRange), int64(impl.ErrForm)
	to := func(n int64) func(m *impl.Message) { return func(m *impl.Message) { m.To = n } }
	from := func(n int64) func(m *impl.Message) { return func(m *impl.Message) { m.From = n } }
	for _, n := range []int64{farLow, -1} {
		kindCases(t, "To below", to(n), out, out, out, out, out, out)
		kindCases(t, "From below", from(n), no, no, out, out, out, no)
	}
	kindCases(t, "To 0", to(0), 0, 0, 0, 0, 0, 0)
	kindCases(t, "To 1", to(1), 0, 0, 0, 0, 0, 0)
	kindCases(t, "To 2: none of its shards, no leader", to(2), out, 0, out, 0, out, out)
	kindCases(t, "To 3: no shard", to(3), out, 0, out, 0, out, out)
	kindCases(t, "To 4: no acceptor", to(4), out, out, out, out, out, out)
	kindCases(t, "To far above", to(farHigh), out, out, out, out, out, out)
	kindCases(t, "From 0", from(0), 0, 0, 0, 0, 0, 0)
	kindCases(t, "From 1", from(1), no, no, 0, 0, 0, no)
	kindCases(t, "From 2: no leader", from(2), no, no, 0, out, 0, no)
	kindCases(t, "From 3", from(3), no, no, 0, out, 0, no)
	kindCases(t, "From 4: no acceptor", from(4), no, no, out, out, out, no)
	kindCases(t, "From far above", from(farHigh), no, no, out, out, out, no)
}

func TestMessageContracts(t *testing.T) {
	out, none, no := int64(impl.ErrRange), int64(impl.ErrNone), int64(impl.ErrForm)
	of := func(n int64) func(m *impl.Message) { return func(m *impl.Message) { m.Contract = n } }
	for _, n := range []int64{farLow, -1, 0, 6, 9, maxId, maxId + 1, farHigh} {
		kindCases(t, "a contract that was not submitted", of(n), none, none, none, none, none, none)
	}
	kindCases(t, "a contract of another shard", of(8), out, out, out, out, out, out)
	shard := func(n int64) func(m *impl.Message) { return func(m *impl.Message) { m.Shard = n } }
	kindCases(t, "Shard 0", shard(0), 0, 0, 0, 0, 0, 0)
	kindCases(t, "Shard 1", shard(1), no, 0, 0, 0, 0, no)
	for _, n := range []int64{farLow, -1, 2, 3, farHigh} {
		kindCases(t, "a shard that is none of its shards", shard(n), no, out, out, out, out, no)
	}
	kindCases(t, "a shard that has another contract, and To", func(m *impl.Message) { m.Contract, m.Shard = 8, 2 }, out, 0, 0, 0, 0, out)
	kindCases(t, "the shard of another contract is To", func(m *impl.Message) { m.Contract, m.To, m.Shard = 8, 2, 0 }, 0, out, out, out, out, 0)
}

func TestMessageBallotsAndValues(t *testing.T) {
	out, no := int64(impl.ErrRange), int64(impl.ErrForm)
	ballot := func(n int64) func(m *impl.Message) { return func(m *impl.Message) { m.Ballot = n } }
	kindCases(t, "Ballot 0", ballot(0), 0, 0, 0, 0, 0, 0)
	for _, n := range []int64{1, 999, maxBallot} {
		kindCases(t, "a right ballot", ballot(n), no, 0, 0, 0, 0, no)
	}
	for _, n := range []int64{farLow, -1, maxBallot + 1, farHigh} {
		kindCases(t, "a ballot that is none", ballot(n), no, out, out, out, out, no)
	}
	value := func(n int64) func(m *impl.Message) { return func(m *impl.Message) { m.Value = n } }
	kindCases(t, "Value 0", value(0), 0, out, out, 0, 0, out)
	for _, n := range []int64{1, 2} {
		kindCases(t, "a right value", value(n), no, 0, 0, no, no, 0)
	}
	for _, n := range []int64{farLow, -1, 3, farHigh} {
		kindCases(t, "a value that is none", value(n), no, out, out, no, no, out)
	}
	old := func(v impl.Vote) func(m *impl.Message) { return func(m *impl.Message) { m.Old = v } }
	kindCases(t, "Old 0 and 0", old(impl.Vote{}), 0, 0, 0, 0, out, 0)
	for _, v := range votes(noVote(), ready(0), not(0), ready(maxBallot), not(maxBallot), ready(3), not(999)) {
		kindCases(t, "an old vote", old(v), no, no, no, no, 0, no)
	}
	for _, v := range votes(vote(-1, 1), vote(-1, 2), vote(0, 3), vote(5, 0), vote(-2, 0), ready(maxBallot+1), not(farLow), vote(farHigh, farHigh), vote(-1, -1), vote(3, farLow)) {
		kindCases(t, "an old vote that is none", old(v), no, no, no, no, out, no)
	}
}

// messageFaults spoil a message, in the order in which their codes are asked.
var messageFaults = []struct {
	code  int64
	spoil func(m *impl.Message)
}{
	{impl.ErrText, func(m *impl.Message) { m.Kind = 7 }},
	{impl.ErrRange, func(m *impl.Message) { m.To = 4 }},
	{impl.ErrRange, func(m *impl.Message) {
		// Kinds that name no From have no code of it here.
		if m.Kind == impl.KindSaid || m.Kind == impl.KindOpen || m.Kind == impl.KindOpened || m.Kind == 7 {
			m.From = 4
		} else {
			m.To = 4
		}
	}},
	{impl.ErrNone, func(m *impl.Message) { m.Contract = 99 }},
	{impl.ErrRange, func(m *impl.Message) {
		if m.Kind == impl.KindAsk || m.Kind == impl.KindTell {
			m.To = max(m.To, 2)
		} else {
			m.Shard = 2
		}
	}},
	{impl.ErrForm, func(m *impl.Message) {
		switch m.Kind {
		case impl.KindAsk, impl.KindTell:
			m.Shard = 1
		case impl.KindOpen, impl.KindOpened:
			m.Value = 1
		default:
			m.Old = noVote()
		}
	}},
}

// Each fault of a message of each kind by itself, and ahead of all later ones.
func TestMessageFaultsInOrder(t *testing.T) {
	for _, m := range rightMessages() {
		for i, first := range messageFaults {
			once := m
			first.spoil(&once)
			checkMessage(t, "a fault", once, first.code)
			for _, later := range messageFaults[i+1:] {
				twice := once
				later.spoil(&twice)
				checkMessage(t, "a fault ahead of another", twice, first.code)
			}
		}
	}
}

// Each field of each kind at and beyond its bounds, with every other one so.
func TestEveryMessage(t *testing.T) {
	c := postedCluster()
	told := map[int64]int{}
	try := func(m impl.Message) {
		got := impl.MessageFault(c, m)
		told[got]++
		if want := wantMessageFault(c, m); got != want {
			t.Fatalf("%+v: code %d, want %d", m, got, want)
		}
	}
	ends, olds := []int64{-1, 0, 1, 2, 3, 4}, votes(impl.Vote{}, noVote(), ready(2), vote(-1, 1))
	for kind := int64(0); kind <= 7; kind++ {
		for _, to := range ends {
			for _, from := range ends {
				for _, contract := range []int64{6, 7, 8} {
					for shard := int64(-1); shard <= 3; shard++ {
						for _, ballot := range []int64{-1, 0, 3, maxBallot, maxBallot + 1} {
							for value := int64(0); value <= 3; value++ {
								for _, old := range olds {
									try(impl.Message{Kind: kind, To: to, From: from, Contract: contract, Shard: shard, Ballot: ballot, Value: value, Old: old})
								}
							}
						}
					}
				}
			}
		}
	}
	if told[impl.OK] < 300 || told[impl.ErrText] < 1000 || told[impl.ErrRange] < 1000 || told[impl.ErrNone] < 1000 || told[impl.ErrForm] < 1000 {
		t.Errorf("codes %v", told)
	}
}

// MessageFault asks what it needs of a cluster, and not the ClusterFault.
func TestMessageFaultOfFaultyClusters(t *testing.T) {
	cases := []struct {
		name string
		c    impl.Cluster
		m    impl.Message
		want int64
	}{
		{"the zero value", impl.Cluster{}, askOf(0, 7), impl.ErrRange},
		{"the zero value", impl.Cluster{}, castTo(0, 7, 0, ready(0)), impl.ErrRange},
		{"the zero value", impl.Cluster{}, saidTo(0, 0, 7, 0, ready(0)), impl.ErrRange},
		{"no kind", impl.Cluster{}, impl.Message{}, impl.ErrText},
		{"contracts that fall", freshCluster(1, pair(7), pair(3)), askOf(0, 3), impl.OK},
		{"contracts that fall", freshCluster(1, pair(7), pair(3)), askOf(0, 7), impl.OK},
		{"contracts that fall", freshCluster(1, pair(7), pair(3)), askOf(0, 5), impl.ErrNone},
		{"another message has a fault", impl.Cluster{Contracts: heldOf(pair(7)), Shards: make([]impl.Shard, 2), Messages: make([]impl.Message, 300)}, askOf(1, 7), impl.OK},
		{"three leaders", impl.Cluster{Contracts: heldOf(pair(7)), Acceptors: newAcceptors(6), Leaders: make([]impl.Leader, 3)}, saidTo(2, 5, 7, 0, ready(0)), impl.OK},
		{"one leader", impl.Cluster{Contracts: heldOf(pair(7)), Acceptors: newAcceptors(6), Leaders: make([]impl.Leader, 1)}, saidTo(1, 5, 7, 0, ready(0)), impl.ErrRange},
		{"no acceptors", impl.Cluster{Contracts: heldOf(pair(7)), Leaders: make([]impl.Leader, 2)}, openedTo(0, 0, 7, 0, 1, noVote()), impl.ErrRange},
		{"a contract without legs", freshCluster(1, contract(7)), askOf(0, 7), impl.ErrRange},
	}
	for _, c := range cases {
		checkCode(t, c.name, impl.MessageFault(c.c, c.m), c.want)
		checkCode(t, c.name+", told once more", wantMessageFault(c.c, c.m), c.want)
	}
}
