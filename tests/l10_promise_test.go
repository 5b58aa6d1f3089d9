package tests

import (
	"reflect"
	"slices"
	"testing"

	"loop.example/g00203/impl"
)

// checkShardStep asks what holds behind every call, be it told a code or not:
// it is as chapter 10 told once more has it, the shard has no fault, what was
// said and told before is so still, and it has what it had at the start and
// the legs of what it applied. It tells the shard behind the call.
func checkShardStep(t *testing.T, w shardWorld, before impl.Shard, x shardCall) impl.Shard {
	t.Helper()
	r := x.run(before)
	checkShardResult(t, "a step", r, x.want(before))
	after := r.Shard
	if r.Code != impl.OK {
		after = before
	}
	checkCode(t, "ShardFault behind a step", impl.ShardFault(after), impl.OK)
	for _, m := range before.Votes {
		if toldIn(after.Votes, m.Contract) != m.Value {
			t.Errorf("the vote %v is another one", m)
		}
	}
	for _, m := range before.Done {
		if toldIn(after.Done, m.Contract) != m.Value {
			t.Errorf("the outcome %v is another one", m)
		}
	}
	if !slices.Equal(after.Balances, w.balancesOf(after)) {
		t.Errorf("balances %v, not those of what was applied: %v", after.Balances, after.Applied)
	}
	if x.outcome != impl.OutcomeDone && !slices.Equal(after.Balances, before.Balances) {
		t.Errorf("balances %v were %v", after.Balances, before.Balances)
	}
	if t.Failed() {
		t.Fatalf("%+v of %+v", x, before)
	}
	return after
}

// balancesOf adds the legs of what a shard applied to what it had first.
func (w shardWorld) balancesOf(s impl.Shard) []impl.Balance {
	sum := w.start
	for _, id := range s.Applied {
		sum.Balances = withLegs(sum, w.contract(id))
	}
	return sum.Balances
}

// checkSaysTheSame asks promise 11 at a point: what was voted on is answered
// with the same vote, an outcome that was told is told once, and nothing
// changes by either.
func checkSaysTheSame(t *testing.T, w shardWorld, s impl.Shard) {
	t.Helper()
	for _, m := range s.Votes {
		checkShardResult(t, "a vote once more", impl.VoteShard(s, w.contract(m.Contract)), impl.ShardResult{Vote: m.Value, Shard: s})
	}
	for _, m := range s.Done {
		checkShardResult(t, "an outcome once more", impl.DecideShard(s, m.Contract, m.Value), impl.ShardResult{Shard: s})
		checkShardCode(t, "another outcome", impl.DecideShard(s, m.Contract, 3-m.Value), impl.ErrTaken)
	}
	if t.Failed() {
		t.Fatalf("%+v", s)
	}
}

// checkEveryEnd asks that all that is held can be done, whichever of it is
// decided first, and whatever was decided ahead: over all orders and outcomes.
func checkEveryEnd(t *testing.T, w shardWorld, s impl.Shard) {
	t.Helper()
	for _, c := range s.Held {
		for outcome := int64(1); outcome <= 2; outcome++ {
			checkCode(t, "what is held is decided", impl.DecideShard(s, c.Id, outcome).Code, impl.OK)
			checkEveryEnd(t, w, checkShardStep(t, w, s, shardCall{c, outcome}))
		}
	}
}

// Promise 11, for all that the votes and outcomes of four contracts can make
// of a shard, and every further call.
func TestEveryShardOfAFewContracts(t *testing.T) {
	w := narrowWorld()
	calls := w.calls()
	every := everyShard(w.start, calls)
	said, most := map[impl.Mark]int{}, 0
	for _, s := range every {
		checkShardRight(t, "every shard", s)
		for _, x := range calls {
			checkShardStep(t, w, s, x)
		}
		checkSaysTheSame(t, w, s)
		checkEveryEnd(t, w, s)
		for _, m := range s.Votes {
			said[m]++
		}
		most = max(most, len(s.Held))
	}
	if len(every) < 500 || len(said) != 8 || most < 2 {
		t.Errorf("%d shards, at most %d held, votes %v", len(every), most, said)
	}
}

// saidEver keeps every vote of a walk from the call on at which it was told.
type saidEver map[int64]int64

func (e saidEver) check(t *testing.T, x shardCall, r impl.ShardResult) {
	t.Helper()
	if x.outcome != impl.OutcomeNone || r.Code != impl.OK {
		return
	}
	if was := e[x.c.Id]; was != 0 && r.Vote != was {
		t.Fatalf("contract %d: said %d, then %d", x.c.Id, was, r.Vote)
	}
	e[x.c.Id] = r.Vote
}

// Promise 11, behind very many calls that are thrown, over more contracts than
// a shard has room for.
func TestAShardSaysTheSameEver(t *testing.T) {
	d := dice(151)
	said, full, crowded := map[int64]int{}, 0, 0
	for walk := range 60 {
		w := d.shardWorld([]int{6, 20, 130}[walk%3])
		s, ever := w.start, saidEver{}
		for step := range []int{60, 200, 900}[walk%3] {
			x := d.shardCall(w, s)
			ever.check(t, x, x.run(s))
			s = checkShardStep(t, w, s, x)
			if step%25 == 0 {
				checkSaysTheSame(t, w, s)
				d.checkAnEnd(t, w, s)
			}
		}
		checkSaysTheSame(t, w, s)
		checkShardRight(t, "behind a walk", s)
		for _, m := range s.Votes {
			said[m.Value]++
		}
		full += len(s.Votes) / 100
		crowded += len(s.Done) / 100
	}
	if said[impl.ValueReady] < 200 || said[impl.ValueNot] < 200 || full < 5 || crowded < 5 {
		t.Errorf("votes %v, %d times 100 votes, %d times 100 outcomes", said, full, crowded)
	}
}

// checkAnEnd does all that is held, in an order that is thrown, as long as
// there is room for outcomes.
func (d *dice) checkAnEnd(t *testing.T, w shardWorld, s impl.Shard) {
	t.Helper()
	for len(s.Held) > 0 && len(s.Done) < 100 {
		c := s.Held[d.below(int64(len(s.Held)))]
		checkCode(t, "what is held is done", impl.DecideShard(s, c.Id, impl.OutcomeDone).Code, impl.OK)
		s = checkShardStep(t, w, s, shardCall{c, impl.OutcomeDone})
	}
}

// Promise 11: no more is free than there is, and what is free of an account is
// there whatever becomes of what is held.
func TestWhatIsFreeIsThere(t *testing.T) {
	d := dice(152)
	for range 400 {
		s := d.shard()
		for _, b := range fullShard(1) {
			free := impl.FreeOf(s, b.Account, b.Asset)
			if free.Code != impl.OK || free.Value < 0 || free.Value > hasHere(s, b.Account, b.Asset) {
				t.Fatalf("%+v: free %v", s, free)
			}
			after := s
			for len(after.Held) > 0 {
				after = impl.DecideShard(after, after.Held[0].Id, 1+d.below(2)).Shard
			}
			if hasHere(after, b.Account, b.Asset) < free.Value {
				t.Fatalf("%+v: free %v, then only %v", s, free, after.Balances)
			}
		}
	}
}

// shardArgs are right and wrong ones for the functions of chapter 10.
func shardArgs() []impl.Shard {
	d := dice(153)
	list := []impl.Shard{
		{}, busyShard(), newAt(fullShard(9)...), {Index: 3}, {Index: farLow}, {Index: farHigh, Balances: bals(bal(farLow, farHigh, farLow))},
		{Balances: bals(), Votes: marks(), Held: heldOf(), Done: marks(), Applied: []int64{}},
		{Votes: manyMarks(100, 1, 2), Done: manyMarks(100, 1, 1), Applied: numbersFrom(1, 100)},
		{Votes: manyMarks(101, 1, 2)}, {Done: manyMarks(101, 1, 2)}, {Held: make([]impl.Contract, 101)}, {Applied: make([]int64, 101)},
		{Held: make([]impl.Contract, 3)}, {Votes: make([]impl.Mark, 3)}, {Done: make([]impl.Mark, 3)}, {Applied: make([]int64, 3)},
		{Index: 1, Votes: manyMarks(18, 5, 1), Held: contractsAt(5, 18)}, {Index: 1, Votes: manyMarks(19, 5, 1), Held: contractsAt(5, 19)},
	}
	for _, f := range shardFaults {
		s := busyShard()
		f.spoil(&s)
		list = append(list, s)
	}
	for range 40 {
		list = append(list, d.shard(), d.anyShard())
	}
	return list
}

// Promise 1: an answer at every argument that hangs on it alone, in new
// memory, also where nothing changes.
func TestShardAnswersAreNewMemory(t *testing.T) {
	d := dice(154)
	for _, s := range shardArgs() {
		checkPure(t, "ShardFault", impl.ShardFault, s)
		checkPure(t, "NewShard", impl.NewShard, s.Index, s.Balances)
		checkPure(t, "InDoubt", impl.InDoubt, s)
		checkPure(t, "ShardText", impl.ShardText, s)
		for _, n := range []int64{farLow, -1, 0, 1, 2, 3, 4, 5, 6, 7, 8, 100, maxId, maxId + 1, farHigh} {
			checkPure(t, "NewShard", impl.NewShard, n, s.Balances)
			checkPure(t, "FreeOf", impl.FreeOf, s, n, int64(0))
			checkPure(t, "FreeOf", impl.FreeOf, s, int64(0), n)
			for _, outcome := range []int64{farLow, 0, 1, 2, 3, farHigh} {
				checkPure(t, "DecideShard", impl.DecideShard, s, n, outcome)
			}
			for _, c := range heldOf(moves(n, 3, 1, 2), moves(n, 3, 1, -11), contract(n, leg(0, 1, 1, 1), leg(2, 1, 1, -1)), contract(n)) {
				checkPure(t, "VoteShard", impl.VoteShard, s, c)
			}
		}
		for range 12 {
			x := d.anyShardCall(s)
			checkPure(t, "VoteShard", impl.VoteShard, s, x.c)
			checkPure(t, "DecideShard", impl.DecideShard, s, x.c.Id, x.outcome)
		}
		for _, c := range s.Held {
			checkPure(t, "VoteShard", impl.VoteShard, s, c)
			checkPure(t, "DecideShard", impl.DecideShard, s, c.Id, int64(impl.OutcomeDone))
			checkPure(t, "DecideShard", impl.DecideShard, s, c.Id, int64(impl.OutcomeNot))
		}
	}
}

// Lists of one memory, in a shard and in what it is asked for, are not
// changed, and each one of an answer is for itself.
func TestShardsOfOneMemoryAreNotChanged(t *testing.T) {
	legs := slices.Grow(contract(0, leg(1, 3, 0, 5), leg(0, 3, 0, -5)).Legs, 4)
	both := slices.Grow(marks(mark(2, 2), mark(4, 2)), 4)
	s := impl.Shard{Index: 1, Balances: slices.Grow(fullShard(9), 4), Votes: both, Done: both}
	before := whole(reflect.ValueOf(s))
	first := impl.VoteShard(s, impl.Contract{Id: 3, Legs: legs})
	checkVoted(t, "of one memory", first, impl.ValueReady, impl.Shard{
		Index: 1, Balances: fullShard(9), Votes: marks(mark(2, 2), mark(3, 1), mark(4, 2)), Held: heldOf(moves(3, 3, 0, 5)), Done: both,
	})
	checkApart(t, reflect.ValueOf(first), reflect.ValueOf(s))
	checkApart(t, reflect.ValueOf(first), reflect.ValueOf(legs))
	second := impl.DecideShard(s, 3, impl.OutcomeNot)
	checkDecided(t, "of one memory", second, impl.Shard{Index: 1, Balances: fullShard(9), Votes: both, Done: marks(mark(2, 2), mark(3, 2), mark(4, 2))})
	checkApart(t, reflect.ValueOf(second), reflect.ValueOf(s))
	checkApart(t, reflect.ValueOf(impl.VoteShard(s, impl.Contract{Id: 2, Legs: legs})), reflect.ValueOf(s))
	if !reflect.DeepEqual(whole(reflect.ValueOf(s)), before) {
		t.Errorf("changed: %v", s)
	}
}

// Two calls behind one shard are two shards: neither is seen in the other, nor
// in what came ahead.
func TestTwoCallsBehindOneShard(t *testing.T) {
	d := dice(155)
	for range 400 {
		w := d.shardWorld(12)
		s := w.start
		for range 20 {
			before := cloneShard(s)
			a, b := d.shardCall(w, s), d.shardCall(w, s)
			first, second := a.run(s), b.run(s)
			checkShardResult(t, "the first one", first, a.want(before))
			scramble(reflect.ValueOf(&first).Elem())
			checkShardResult(t, "the second one", second, b.want(before))
			if !sameShards(s, before) {
				t.Fatalf("%+v of %v: changed", a, before)
			}
			if second.Code == impl.OK {
				s = second.Shard
			}
		}
	}
}

// Nil and what is empty are one value: they have one answer.
func TestShardsOfNilAndEmpty(t *testing.T) {
	none := impl.Shard{Index: 1}
	empty := impl.Shard{Index: 1, Balances: make([]impl.Balance, 0, 3), Votes: make([]impl.Mark, 0, 3), Held: make([]impl.Contract, 0, 3), Done: make([]impl.Mark, 0, 3), Applied: make([]int64, 0, 3)}
	calls := []func(s impl.Shard) any{
		func(s impl.Shard) any { return impl.ShardFault(s) },
		func(s impl.Shard) any { return impl.NewShard(s.Index, s.Balances) },
		func(s impl.Shard) any { return impl.VoteShard(s, moves(7, 3, 1, 5)) },
		func(s impl.Shard) any { return impl.VoteShard(s, moves(7, 3, 1, -5)) },
		func(s impl.Shard) any { return impl.VoteShard(s, contract(7)) },
		func(s impl.Shard) any { return impl.VoteShard(s, impl.Contract{Id: 7, Legs: []impl.Leg{}}) },
		func(s impl.Shard) any { return impl.DecideShard(s, 7, impl.OutcomeNot) },
		func(s impl.Shard) any { return impl.DecideShard(s, 7, impl.OutcomeDone) },
		func(s impl.Shard) any { return impl.FreeOf(s, 0, 0) },
		func(s impl.Shard) any { return impl.InDoubt(s) },
		func(s impl.Shard) any { return impl.ShardText(s) },
	}
	for i, call := range calls {
		if a, b := call(none), call(empty); !reflect.DeepEqual(a, b) {
			t.Errorf("call %d: nil %v, empty %v", i, a, b)
		}
	}
	held := impl.VoteShard(empty, moves(7, 3, 1, 5)).Shard
	if r := impl.DecideShard(held, 7, impl.OutcomeNot); len(r.Shard.Held) != 0 || len(r.Shard.Balances) != 0 || len(r.Shard.Applied) != 0 {
		t.Errorf("%v", r)
	}
}
