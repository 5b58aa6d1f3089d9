package tests

import (
	"slices"
	"strings"
	"testing"

	"loop.example/g00203/impl"
)

// A message of each kind, by what the kind names.
func askOf(to, contract int64) impl.Message {
	return impl.Message{Kind: impl.KindAsk, To: to, Contract: contract}
}

func castTo(to, contract, shard int64, v impl.Vote) impl.Message {
	return impl.Message{Kind: impl.KindCast, To: to, Contract: contract, Shard: shard, Ballot: v.Ballot, Value: v.Value}
}

func saidTo(to, from, contract, shard int64, v impl.Vote) impl.Message {
	return impl.Message{Kind: impl.KindSaid, To: to, From: from, Contract: contract, Shard: shard, Ballot: v.Ballot, Value: v.Value}
}

func openTo(to, from, contract, shard, ballot int64) impl.Message {
	return impl.Message{Kind: impl.KindOpen, To: to, From: from, Contract: contract, Shard: shard, Ballot: ballot}
}

func openedTo(to, from, contract, shard, ballot int64, old impl.Vote) impl.Message {
	return impl.Message{Kind: impl.KindOpened, To: to, From: from, Contract: contract, Shard: shard, Ballot: ballot, Old: old}
}

func tellTo(to, contract, outcome int64) impl.Message {
	return impl.Message{Kind: impl.KindTell, To: to, Contract: contract, Value: outcome}
}

func messages(list ...impl.Message) []impl.Message {
	return list
}

// castsTo are one vote for all of n acceptors, opensTo a ballot for them, and
// tellsTo an outcome for shards.
func castsTo(n int, contract, shard int64, v impl.Vote) []impl.Message {
	var list []impl.Message
	for to := range n {
		list = append(list, castTo(int64(to), contract, shard, v))
	}
	return list
}

func opensTo(n int, from, contract, shard, ballot int64) []impl.Message {
	var list []impl.Message
	for to := range n {
		list = append(list, openTo(int64(to), from, contract, shard, ballot))
	}
	return list
}

func tellsTo(contract, outcome int64, shards ...int64) []impl.Message {
	var list []impl.Message
	for _, to := range shards {
		list = append(list, tellTo(to, contract, outcome))
	}
	return list
}

// manyMessages are n of them that may always be there; each is another vote.
func manyMessages(n int, contract, shard int64) []impl.Message {
	var list []impl.Message
	for i := range n {
		list = append(list, castTo(0, contract, shard, ready(int64(i))))
	}
	return list
}

func tryOf(contract, shard, ballot, value int64) impl.Try {
	return impl.Try{Contract: contract, Shard: shard, Ballot: ballot, Value: value}
}

// promisedBy is a try to which acceptors answered, each with its old vote.
func promisedBy(t impl.Try, from []int64, olds ...impl.Vote) impl.Try {
	t.From, t.Olds = from, olds
	return t
}

func tries(list ...impl.Try) []impl.Try {
	return list
}

// heardOf is one vote, heard from some acceptors.
func heardOf(contract, shard int64, v impl.Vote, from ...int64) []impl.Heard {
	var list []impl.Heard
	for _, at := range from {
		list = append(list, impl.Heard{Contract: contract, Shard: shard, Ballot: v.Ballot, Value: v.Value, From: at})
	}
	return list
}

// three has a leg at each shard.
func three(id int64) impl.Contract {
	return contract(id, leg(0, 1, 1, -6), leg(1, 1, 1, 4), leg(2, 1, 1, 2))
}

// freshCluster has three shards where everybody has 10 of everything, and n
// acceptors; nothing was done there but to submit contracts.
func freshCluster(n int, list ...impl.Contract) impl.Cluster {
	c := impl.Cluster{Contracts: list, Acceptors: newAcceptors(n), Leaders: make([]impl.Leader, 2)}
	for at := range int64(3) {
		c.Shards = append(c.Shards, impl.Shard{Index: at, Balances: fullShard(10)})
	}
	return c
}

// busyCluster has all that one can have. Contract 2 is held at both its
// shards, 4 is done at shard 0 and held at the others, 7 is not done, and 9
// has not been voted on.
func busyCluster() impl.Cluster {
	two, four := pair(2), three(4)
	seven, nine := contract(7, leg(1, 2, 0, -30), leg(2, 2, 0, 30)), contract(9, leg(2, 3, 2, -1), leg(2, 4, 2, 1))
	c := freshCluster(3, two, four, seven, nine)
	c.Shards[0].Votes, c.Shards[0].Held = marks(mark(2, 1), mark(4, 1)), heldOf(pair(2))
	c.Shards[0].Done, c.Shards[0].Applied = marks(mark(4, 1)), []int64{4}
	c.Shards[1].Votes, c.Shards[1].Held = marks(mark(2, 1), mark(4, 1), mark(7, 2)), heldOf(pair(2), three(4))
	c.Shards[1].Done = marks(mark(7, 2))
	c.Shards[2].Votes, c.Shards[2].Held = marks(mark(4, 1)), heldOf(three(4))
	c.Shards[2].Done = marks(mark(7, 2))
	c.Acceptors[0].Slots = slotsOf(elsewhere(castOf(ready(0), not(3)), 2, 0), elsewhere(castOf(ready(0)), 4, 1), elsewhere(slotOf(5), 7, 1))
	c.Acceptors[1].Slots = slotsOf(elsewhere(slotOf(3, ready(0)), 2, 0), elsewhere(castOf(not(0)), 7, 1))
	c.Leaders[0] = impl.Leader{
		Count: 3,
		Tries: tries(promisedBy(tryOf(2, 0, 3, 2), places(0, 2), ready(0), noVote()), promisedBy(tryOf(7, 1, 5, 0), places(2), noVote())),
		Known: slices.Concat(heardOf(2, 0, ready(0), 0, 1), heardOf(2, 0, not(3), 0), heardOf(4, 1, ready(0), 2)),
	}
	c.Leaders[1] = impl.Leader{
		Count: 1,
		Tries: tries(promisedBy(tryOf(2, 1, 2, 0), places(1), noVote()), tryOf(4, 2, 2, 0)),
		Known: slices.Concat(heardOf(4, 0, ready(0), 0, 2), heardOf(4, 2, ready(0), 0)),
	}
	c.Messages = messages(
		askOf(2, 9), castTo(1, 4, 2, ready(0)), saidTo(1, 2, 4, 2, ready(0)), openTo(2, 1, 7, 1, 5),
		openedTo(0, 1, 7, 1, 5, not(0)), tellTo(1, 4, 1), openedTo(1, 0, 4, 2, 2, noVote()), tellTo(0, 2, 2),
	)
	return c
}

// fullCluster has no room for anything: 20 contracts of three shards each, 60
// slots at each of 5 acceptors, 60 tries, 300 that were heard, 200 messages.
func fullCluster() impl.Cluster {
	c := freshCluster(5)
	for id := range int64(20) {
		c.Contracts = append(c.Contracts, three(id+1))
		for shard := range int64(3) {
			c.Leaders[0].Tries = append(c.Leaders[0].Tries, tryOf(id+1, shard, 5, 0))
			c.Leaders[0].Known = append(c.Leaders[0].Known, heardOf(id+1, shard, ready(2), 0, 1, 2, 3, 4)...)
		}
	}
	for at := range c.Acceptors {
		c.Acceptors[at].Slots = manyPlaces(60, 1)
	}
	c.Leaders[1] = cloneLeader(c.Leaders[0])
	c.Leaders[1].Count = 400
	c.Messages = manyMessages(200, 1, 0)
	return c
}

func cloneTry(t impl.Try) impl.Try {
	return promisedBy(t, slices.Clone(t.From), slices.Clone(t.Olds)...)
}

func cloneLeader(l impl.Leader) impl.Leader {
	after := impl.Leader{Count: l.Count, Known: slices.Clone(l.Known)}
	for _, t := range l.Tries {
		after.Tries = append(after.Tries, cloneTry(t))
	}
	return after
}

func cloneCluster(c impl.Cluster) impl.Cluster {
	after := impl.Cluster{Acceptors: cloneAcceptors(c.Acceptors), Messages: slices.Clone(c.Messages)}
	for _, x := range c.Contracts {
		after.Contracts = append(after.Contracts, cloneContract(x))
	}
	for _, s := range c.Shards {
		after.Shards = append(after.Shards, cloneShard(s))
	}
	for _, l := range c.Leaders {
		after.Leaders = append(after.Leaders, cloneLeader(l))
	}
	return after
}

func sameTries(a, b impl.Try) bool {
	return a.Contract == b.Contract && a.Shard == b.Shard && a.Ballot == b.Ballot && a.Value == b.Value &&
		slices.Equal(a.From, b.From) && slices.Equal(a.Olds, b.Olds)
}

func sameLeaders(a, b impl.Leader) bool {
	return a.Count == b.Count && slices.EqualFunc(a.Tries, b.Tries, sameTries) && slices.Equal(a.Known, b.Known)
}

// sameLasting asks for what outlasts a message: all but messages.
func sameLasting(a, b impl.Cluster) bool {
	return slices.EqualFunc(a.Contracts, b.Contracts, sameContracts) && slices.EqualFunc(a.Shards, b.Shards, sameShards) &&
		slices.EqualFunc(a.Acceptors, b.Acceptors, sameAcceptor) && slices.EqualFunc(a.Leaders, b.Leaders, sameLeaders)
}

func sameClusters(a, b impl.Cluster) bool {
	return sameLasting(a, b) && slices.Equal(a.Messages, b.Messages)
}

// The want functions tell chapter 11 once more. wantKinds tells of each kind
// to whom it goes, from whom it comes, and what else it names.
var wantKinds = [7]struct{ to, from, names string }{
	impl.KindAsk:    {"shard", "", ""},
	impl.KindCast:   {"acceptor", "", "shard ballot value"},
	impl.KindSaid:   {"leader", "acceptor", "shard ballot value"},
	impl.KindOpen:   {"acceptor", "leader", "shard ballot"},
	impl.KindOpened: {"leader", "acceptor", "shard ballot old"},
	impl.KindTell:   {"shard", "", "value"},
}

func wantPlace(c impl.Cluster, who string, at int64) bool {
	n := len(c.Shards)
	switch who {
	case "acceptor":
		n = len(c.Acceptors)
	case "leader":
		n = len(c.Leaders)
	case "message":
		n = len(c.Messages)
	case "":
		return true
	}
	return at >= 0 && at < int64(n)
}

func wantSubmitted(c impl.Cluster, id int64) *impl.Contract {
	for i := range c.Contracts {
		if c.Contracts[i].Id == id {
			return &c.Contracts[i]
		}
	}
	return nil
}

// shardsIn are the shards of a contract's legs, rising.
func shardsIn(x impl.Contract) []int64 {
	var list []int64
	for _, l := range x.Legs {
		list = append(list, l.Shard)
	}
	slices.Sort(list)
	return slices.Compact(list)
}

func wantPart(c impl.Cluster, contract, shard int64) bool {
	x := wantSubmitted(c, contract)
	return x != nil && slices.Contains(shardsIn(*x), shard)
}

func wantOld(v impl.Vote) bool {
	return v == noVote() || wantRightVote(v)
}

func wantMessageFault(c impl.Cluster, m impl.Message) int64 {
	if m.Kind < 1 || m.Kind > 6 {
		return impl.ErrText
	}
	k := wantKinds[m.Kind]
	names := func(word string) bool { return strings.Contains(k.names, word) }
	if !wantPlace(c, k.to, m.To) || !wantPlace(c, k.from, m.From) {
		return impl.ErrRange
	}
	if wantSubmitted(c, m.Contract) == nil {
		return impl.ErrNone
	}
	about := m.To
	if names("shard") {
		about = m.Shard
	}
	switch {
	case !wantPart(c, m.Contract, about),
		names("ballot") && (m.Ballot < 0 || m.Ballot > 1000),
		names("value") && m.Value != 1 && m.Value != 2,
		names("old") && !wantOld(m.Old):
		return impl.ErrRange
	case k.from == "" && m.From != 0,
		!names("shard") && m.Shard != 0,
		!names("ballot") && m.Ballot != 0,
		!names("value") && m.Value != 0,
		!names("old") && m.Old != impl.Vote{}:
		return impl.ErrForm
	}
	return impl.OK
}

func wantContractsFault(c impl.Cluster) int64 {
	last := int64(0)
	for _, x := range c.Contracts {
		if code := wantContractFault(x); code != impl.OK {
			return code
		}
		if slices.Max(shardsIn(x)) >= int64(len(c.Shards)) {
			return impl.ErrNone
		}
		if x.Id <= last {
			return impl.ErrForm
		}
		last = x.Id
	}
	return impl.OK
}

func wantShardsFault(c impl.Cluster) int64 {
	for i, s := range c.Shards {
		if code := wantShardFault(s); code != impl.OK {
			return code
		}
		if s.Index != int64(i) {
			return impl.ErrForm
		}
		for _, m := range slices.Concat(s.Votes, s.Done) {
			if !wantPart(c, m.Contract, s.Index) {
				return impl.ErrForm
			}
		}
		for _, held := range s.Held {
			if x := wantSubmitted(c, held.Id); x == nil || !sameContracts(*x, held) {
				return impl.ErrForm
			}
		}
	}
	return impl.OK
}

func wantSlotsOfAllFault(c impl.Cluster) int64 {
	for _, a := range c.Acceptors {
		if code := wantAcceptorFault(a); code != impl.OK {
			return code
		}
		for _, s := range a.Slots {
			if !wantPart(c, s.Contract, s.Shard) {
				return impl.ErrNone
			}
		}
	}
	return impl.OK
}

func wantTryFault(c impl.Cluster, t impl.Try, last []int64) int64 {
	switch {
	case !wantPart(c, t.Contract, t.Shard):
		return impl.ErrNone
	case t.Ballot < 1 || t.Ballot > 1000 || t.Value < 0 || t.Value > 2:
		return impl.ErrRange
	case slices.Compare(last, []int64{t.Contract, t.Shard}) >= 0 || len(t.From) != len(t.Olds):
		return impl.ErrForm
	}
	var told [impl.MaxAcceptors]int
	for i := range t.From {
		if !wantPlace(c, "acceptor", t.From[i]) || !wantOld(t.Olds[i]) {
			return impl.ErrRange
		}
		told[t.From[i]]++
	}
	if slices.Max(told[:]) > 1 {
		return impl.ErrTaken
	}
	return impl.OK
}

func wantTriesFault(c impl.Cluster) int64 {
	for _, l := range c.Leaders {
		var last []int64
		for _, t := range l.Tries {
			if code := wantTryFault(c, t, last); code != impl.OK {
				return code
			}
			last = []int64{t.Contract, t.Shard}
		}
	}
	return impl.OK
}

func wantKnownFault(c impl.Cluster) int64 {
	for _, l := range c.Leaders {
		var last []int64
		for _, h := range l.Known {
			if !wantPart(c, h.Contract, h.Shard) {
				return impl.ErrNone
			}
			if !wantRightVote(vote(h.Ballot, h.Value)) || !wantPlace(c, "acceptor", h.From) {
				return impl.ErrRange
			}
			place := []int64{h.Contract, h.Shard, h.Ballot, h.Value, h.From}
			if slices.Compare(last, place) >= 0 {
				return impl.ErrForm
			}
			last = place
		}
	}
	return impl.OK
}

func wantClusterFault(c impl.Cluster) int64 {
	if len(c.Contracts) > 20 || len(c.Shards) == 0 || len(c.Shards) > 3 || len(c.Acceptors) == 0 || len(c.Acceptors) > 5 || len(c.Leaders) != 2 || len(c.Messages) > 200 {
		return impl.ErrMany
	}
	for _, fault := range []func(c impl.Cluster) int64{wantContractsFault, wantShardsFault, wantSlotsOfAllFault} {
		if code := fault(c); code != impl.OK {
			return code
		}
	}
	for _, l := range c.Leaders {
		if l.Count < 0 || l.Count > 400 {
			return impl.ErrRange
		}
		if len(l.Tries) > 60 || len(l.Known) > 300 {
			return impl.ErrMany
		}
	}
	for _, fault := range []func(c impl.Cluster) int64{wantTriesFault, wantKnownFault} {
		if code := fault(c); code != impl.OK {
			return code
		}
	}
	for _, m := range c.Messages {
		if code := wantMessageFault(c, m); code != impl.OK {
			return code
		}
	}
	return impl.OK
}

func wantNewCluster(g impl.Ledger, acceptors int64) impl.ClusterResult {
	if code := wantLedgerFault(g); code != impl.OK {
		return impl.ClusterResult{Code: code}
	}
	if acceptors < 1 || acceptors > 5 {
		return impl.ClusterResult{Code: impl.ErrRange}
	}
	c := impl.Cluster{Acceptors: newAcceptors(int(acceptors)), Leaders: make([]impl.Leader, 2)}
	for i, balances := range g.Shards {
		c.Shards = append(c.Shards, impl.Shard{Index: int64(i), Balances: balances})
	}
	return impl.ClusterResult{Cluster: c}
}

// wantSent sends messages in a cluster of its own memory.
func wantSent(after impl.Cluster, list ...impl.Message) impl.ClusterResult {
	if len(after.Messages)+len(list) > 200 {
		return impl.ClusterResult{Code: impl.ErrMany}
	}
	after.Messages = append(after.Messages, list...)
	return impl.ClusterResult{Cluster: after}
}

func wantSubmitContract(c impl.Cluster, x impl.Contract) impl.ClusterResult {
	code := wantClusterFault(c)
	if code == impl.OK {
		code = wantContractFault(x)
	}
	if code == impl.OK && slices.Max(shardsIn(x)) >= int64(len(c.Shards)) {
		code = impl.ErrNone
	}
	was := wantSubmitted(c, x.Id)
	switch {
	case code == impl.OK && was != nil && !sameContracts(*was, x):
		code = impl.ErrTaken
	case code == impl.OK && was != nil:
		return impl.ClusterResult{Cluster: cloneCluster(c)}
	case code == impl.OK && len(c.Contracts) > 19:
		code = impl.ErrMany
	}
	if code != impl.OK {
		return impl.ClusterResult{Code: code}
	}
	after := cloneCluster(c)
	after.Contracts = append(after.Contracts, cloneContract(x))
	slices.SortFunc(after.Contracts, func(a, b impl.Contract) int { return int(a.Id - b.Id) })
	var asked []impl.Message
	for _, shard := range shardsIn(x) {
		asked = append(asked, askOf(shard, x.Id))
	}
	return wantSent(after, asked...)
}

// wantPlaceFault asks what all that take a place ask first.
func wantPlaceFault(c impl.Cluster, who string, at int64) int64 {
	if code := wantClusterFault(c); code != impl.OK {
		return code
	}
	if !wantPlace(c, who, at) {
		return impl.ErrRange
	}
	return impl.OK
}

func wantDropMessage(c impl.Cluster, at int64) impl.ClusterResult {
	if code := wantPlaceFault(c, "message", at); code != impl.OK {
		return impl.ClusterResult{Code: code}
	}
	after := cloneCluster(c)
	after.Messages = slices.Delete(after.Messages, int(at), int(at)+1)
	return impl.ClusterResult{Cluster: after}
}

func wantCopyMessage(c impl.Cluster, at int64) impl.ClusterResult {
	if code := wantPlaceFault(c, "message", at); code != impl.OK {
		return impl.ClusterResult{Code: code}
	}
	return wantSent(cloneCluster(c), c.Messages[at])
}

func wantCrashLeader(c impl.Cluster, leader int64) impl.ClusterResult {
	if code := wantPlaceFault(c, "leader", leader); code != impl.OK {
		return impl.ClusterResult{Code: code}
	}
	after := cloneCluster(c)
	after.Leaders[leader].Tries, after.Leaders[leader].Known = nil, nil
	return impl.ClusterResult{Cluster: after}
}

func wantResendShard(c impl.Cluster, shard int64) impl.ClusterResult {
	if code := wantPlaceFault(c, "shard", shard); code != impl.OK {
		return impl.ClusterResult{Code: code}
	}
	var list []impl.Message
	for _, held := range c.Shards[shard].Held {
		list = append(list, castsTo(len(c.Acceptors), held.Id, shard, ready(0))...)
	}
	return wantSent(cloneCluster(c), list...)
}

// wantHeard is the value that a leader heard to be chosen, 0 without one.
func wantHeard(c impl.Cluster, l impl.Leader, contract, shard int64) int64 {
	least, value := int64(maxBallot+1), int64(0)
	for _, h := range l.Known {
		if h.Contract != contract || h.Shard != shard || h.Ballot >= least {
			continue
		}
		said := 0
		for _, other := range l.Known {
			if other.From = h.From; other == h {
				said++
			}
		}
		if 2*said > len(c.Acceptors) {
			least, value = h.Ballot, h.Value
		}
	}
	return value
}

func wantClear(c impl.Cluster, l impl.Leader, x impl.Contract) int64 {
	var told [3]int
	for _, shard := range shardsIn(x) {
		told[wantHeard(c, l, x.Id, shard)]++
	}
	switch {
	case told[impl.ValueNot] > 0:
		return impl.OutcomeNot
	case told[impl.ValueNone] > 0:
		return impl.OutcomeNone
	}
	return impl.OutcomeDone
}

// wantTold are the messages that tell what is clear.
func wantTold(c impl.Cluster, l impl.Leader, x impl.Contract) []impl.Message {
	if outcome := wantClear(c, l, x); outcome != impl.OutcomeNone {
		return tellsTo(x.Id, outcome, shardsIn(x)...)
	}
	return nil
}

func wantTickLeader(c impl.Cluster, leader, contract int64) impl.ClusterResult {
	code := wantPlaceFault(c, "leader", leader)
	x := wantSubmitted(c, contract)
	if code == impl.OK && x == nil {
		code = impl.ErrNone
	}
	if code == impl.OK && c.Leaders[leader].Count == 400 {
		code = impl.ErrMany
	}
	if code != impl.OK {
		return impl.ClusterResult{Code: code}
	}
	after := cloneCluster(c)
	l := &after.Leaders[leader]
	l.Count++
	var list []impl.Message
	for _, shard := range shardsIn(*x) {
		if wantHeard(c, c.Leaders[leader], contract, shard) == 0 {
			ballot := l.Count + l.Count + leader - 1
			l.Tries = slices.DeleteFunc(l.Tries, func(t impl.Try) bool { return t.Contract == contract && t.Shard == shard })
			l.Tries = append(l.Tries, tryOf(contract, shard, ballot, 0))
			list = append(list, opensTo(len(c.Acceptors), leader, contract, shard, ballot)...)
		}
	}
	slices.SortFunc(l.Tries, func(a, b impl.Try) int { return int(3*a.Contract + a.Shard - 3*b.Contract - b.Shard) })
	if len(l.Tries) > 60 {
		return impl.ClusterResult{Code: impl.ErrMany}
	}
	return wantSent(after, append(list, wantTold(c, c.Leaders[leader], *x)...)...)
}

// wantOpened and wantSaid are given a cluster of its own memory without the
// message.
func wantOpened(after impl.Cluster, m impl.Message) impl.ClusterResult {
	for i := range after.Leaders[m.To].Tries {
		t := &after.Leaders[m.To].Tries[i]
		if t.Contract != m.Contract || t.Shard != m.Shard || t.Ballot != m.Ballot || t.Value != 0 || slices.Contains(t.From, m.From) {
			continue
		}
		t.From, t.Olds = append(t.From, m.From), append(t.Olds, m.Old)
		if 2*len(t.From) > len(after.Acceptors) {
			t.Value = wantPickValue(t.Olds, impl.ValueNot).Value
			return wantSent(after, castsTo(len(after.Acceptors), m.Contract, m.Shard, vote(m.Ballot, t.Value))...)
		}
	}
	return impl.ClusterResult{Cluster: after}
}

func wantSaid(after impl.Cluster, m impl.Message) impl.ClusterResult {
	l, x := &after.Leaders[m.To], *wantSubmitted(after, m.Contract)
	was := wantClear(after, *l, x)
	h := heardOf(m.Contract, m.Shard, vote(m.Ballot, m.Value), m.From)[0]
	if !slices.Contains(l.Known, h) {
		l.Known = append(l.Known, h)
		slices.SortFunc(l.Known, func(a, b impl.Heard) int {
			return slices.Compare([]int64{a.Contract, a.Shard, a.Ballot, a.Value, a.From}, []int64{b.Contract, b.Shard, b.Ballot, b.Value, b.From})
		})
	}
	if len(l.Known) > 300 {
		return impl.ClusterResult{Code: impl.ErrMany}
	}
	if was != impl.OutcomeNone {
		return impl.ClusterResult{Cluster: after}
	}
	return wantSent(after, wantTold(after, *l, x)...)
}

func wantDeliverMessage(c impl.Cluster, at int64) impl.ClusterResult {
	r := wantDropMessage(c, at)
	if r.Code != impl.OK {
		return r
	}
	after, m := r.Cluster, c.Messages[at]
	switch m.Kind {
	case impl.KindAsk:
		told := wantVoteShard(after.Shards[m.To], *wantSubmitted(c, m.Contract))
		after.Shards[m.To] = told.Shard
		return wantSent(after, castsTo(len(c.Acceptors), m.Contract, m.To, vote(0, told.Vote))...)
	case impl.KindCast:
		if told := wantAcceptAt(after.Acceptors[m.To], m.Contract, m.Shard, m.Ballot, m.Value); told.Code == impl.OK {
			after.Acceptors[m.To] = told.Acceptor
			v := vote(m.Ballot, m.Value)
			return wantSent(after, saidTo(0, m.To, m.Contract, m.Shard, v), saidTo(1, m.To, m.Contract, m.Shard, v))
		}
	case impl.KindOpen:
		if told := wantPromiseAt(after.Acceptors[m.To], m.Contract, m.Shard, m.Ballot); told.Code == impl.OK {
			after.Acceptors[m.To] = told.Acceptor
			return wantSent(after, openedTo(m.From, m.To, m.Contract, m.Shard, m.Ballot, told.Old))
		}
	case impl.KindTell:
		if told := wantDecideShard(after.Shards[m.To], m.Contract, m.Value); told.Code == impl.OK {
			after.Shards[m.To] = told.Shard
		}
	case impl.KindOpened:
		return wantOpened(after, m)
	case impl.KindSaid:
		return wantSaid(after, m)
	}
	return impl.ClusterResult{Cluster: after}
}

func checkClusterResult(t *testing.T, what string, got, want impl.ClusterResult) {
	t.Helper()
	if got.Code != want.Code || !sameClusters(got.Cluster, want.Cluster) {
		t.Errorf("%s:\ngot  %+v\nwant %+v", what, got, want)
	}
}

func checkClusterCode(t *testing.T, what string, got impl.ClusterResult, code int64) {
	t.Helper()
	checkClusterResult(t, what, got, impl.ClusterResult{Code: code})
}

// checkClusterTold is of a call without a code.
func checkClusterTold(t *testing.T, what string, got impl.ClusterResult, want impl.Cluster) {
	t.Helper()
	checkClusterResult(t, what, got, impl.ClusterResult{Cluster: want})
	checkCode(t, what+": ClusterFault", impl.ClusterFault(got.Cluster), impl.OK)
}

// checkClusterRight is of a cluster without a fault: it has none told once
// more either, and its messages have none.
func checkClusterRight(t *testing.T, what string, c impl.Cluster) {
	t.Helper()
	checkCode(t, what+": ClusterFault", impl.ClusterFault(c), impl.OK)
	checkCode(t, what+", told once more", wantClusterFault(c), impl.OK)
	for _, m := range c.Messages {
		checkCode(t, what+": MessageFault", impl.MessageFault(c, m), impl.OK)
	}
}

// checkClusterFaulted holds all functions that ask the ClusterFault first
// against its code, whatever else they are given.
func checkClusterFaulted(t *testing.T, what string, c impl.Cluster, code int64) {
	t.Helper()
	checkCode(t, what+": ClusterFault", impl.ClusterFault(c), code)
	checkCode(t, what+", told once more", wantClusterFault(c), code)
	for _, x := range []impl.Contract{pair(2), pair(3), pair(0), {Id: 3}, contract(2, leg(0, 5, 0, -1), leg(1, 5, 0, 1)), three(3)} {
		checkClusterCode(t, what+": SubmitContract", impl.SubmitContract(c, x), code)
	}
	for _, n := range []int64{farLow, -1, 0, 1, 2, 7, 200, farHigh} {
		checkClusterCode(t, what+": DeliverMessage", impl.DeliverMessage(c, n), code)
		checkClusterCode(t, what+": CopyMessage", impl.CopyMessage(c, n), code)
		checkClusterCode(t, what+": DropMessage", impl.DropMessage(c, n), code)
		checkClusterCode(t, what+": TickLeader", impl.TickLeader(c, n, 2), code)
		checkClusterCode(t, what+": TickLeader", impl.TickLeader(c, 0, n), code)
		checkClusterCode(t, what+": CrashLeader", impl.CrashLeader(c, n), code)
		checkClusterCode(t, what+": ResendShard", impl.ResendShard(c, n), code)
	}
}
