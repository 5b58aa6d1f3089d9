package tests

import (
	"fmt"
	"slices"
	"testing"

	"loop.example/g00203/impl"
)

// shardCall is what a shard is asked or told: a vote for a contract, or an
// outcome of it.
type shardCall struct {
	c       impl.Contract
	outcome int64
}

func (x shardCall) run(s impl.Shard) impl.ShardResult {
	if x.outcome == impl.OutcomeNone {
		return impl.VoteShard(s, x.c)
	}
	return impl.DecideShard(s, x.c.Id, x.outcome)
}

func (x shardCall) want(s impl.Shard) impl.ShardResult {
	if x.outcome == impl.OutcomeNone {
		return wantVoteShard(s, x.c)
	}
	return wantDecideShard(s, x.c.Id, x.outcome)
}

// shardWorld is where a shard begins, and the contracts that it meets: by
// their numbers from 1 on, each with a leg at the shard.
type shardWorld struct {
	start     impl.Shard
	contracts []impl.Contract
}

func (w shardWorld) contract(id int64) impl.Contract {
	return w.contracts[id-1]
}

// calls are all votes and outcomes of the contracts of a world.
func (w shardWorld) calls() []shardCall {
	var list []shardCall
	for _, c := range w.contracts {
		list = append(list, shardCall{c, 0}, shardCall{c, 1}, shardCall{c, 2})
	}
	return list
}

// narrowWorld has four contracts that meet, are short, or find no room, as
// others are held or done ahead of them.
func narrowWorld() shardWorld {
	return shardWorld{
		start: newAt(bal(0, 0, 10), bal(1, 0, 10), bal(2, 0, impl.MaxAmount-4)),
		contracts: []impl.Contract{
			moves(1, 0, 0, -6),
			contract(2, leg(1, 0, 0, -6), leg(1, 1, 0, 6)),
			contract(3, leg(1, 1, 0, -12), leg(0, 1, 0, 9), leg(1, 2, 0, 3)),
			contract(4, leg(0, 2, 0, -2), leg(1, 2, 0, 2)),
		},
	}
}

// everyShard tells all that these calls can make out of a shard.
func everyShard(start impl.Shard, calls []shardCall) []impl.Shard {
	list := []impl.Shard{start}
	seen := map[string]int{fmt.Sprint(start): 1}
	for at := 0; at < len(list); at++ {
		for _, x := range calls {
			r := x.run(list[at])
			if name := fmt.Sprint(r.Shard); r.Code == impl.OK {
				if seen[name]++; seen[name] == 1 {
					list = append(list, r.Shard)
				}
			}
		}
	}
	return list
}

// shardWorld throws one of n contracts. Its amounts lie near each other, and
// some balances near their bound, so that what is done ahead counts.
func (d *dice) shardWorld(n int) shardWorld {
	w := shardWorld{start: impl.Shard{Index: d.below(3)}}
	for _, b := range fullShard(1) {
		if d.below(3) > 0 {
			b.Amount = []int64{1, 4, 9, 20, impl.MaxAmount - 3, impl.MaxAmount}[d.below(6)]
			w.start.Balances = append(w.start.Balances, b)
		}
	}
	for len(w.contracts) < n {
		c := d.rightContract()
		c.Id = int64(len(w.contracts)) + 1
		if len(legsHere(w.start, c)) > 0 {
			w.contracts = append(w.contracts, c)
		}
	}
	return w
}

// shardCall throws one: a vote often, and an outcome of what is held often.
func (d *dice) shardCall(w shardWorld, s impl.Shard) shardCall {
	x := shardCall{c: w.contracts[d.below(int64(len(w.contracts)))]}
	switch d.below(4) {
	case 0:
		x.outcome = 1 + d.below(2)
	case 1:
		if len(s.Held) > 0 {
			x.c, x.outcome = s.Held[d.below(int64(len(s.Held)))], 1+d.below(2)
		}
	}
	return x
}

// shard throws one without a fault: what came of a new one.
func (d *dice) shard() impl.Shard {
	w := d.shardWorld(12)
	s := w.start
	for range d.below(40) {
		if r := d.shardCall(w, s).run(s); r.Code == impl.OK {
			s = r.Shard
		}
	}
	return s
}

// anyShard throws one that may have faults of every kind.
func (d *dice) anyShard() impl.Shard {
	s := d.shard()
	for range d.below(3) {
		d.spoilShard(&s)
	}
	return s
}

func (d *dice) spoilShard(s *impl.Shard) {
	odd := []int64{farLow, -1, 0, 1, 2, 3, 4, 5, 12, 13, 100, maxId, maxId + 1, farHigh}
	n := odd[d.below(int64(len(odd)))]
	switch d.below(8) {
	case 0:
		s.Index = n
	case 1:
		g := ledger(s.Balances)
		d.spoilLedger(&g)
		if len(g.Shards) > 0 {
			s.Balances = g.Shards[0]
		}
	case 2:
		s.Votes = d.spoiledMarks(s.Votes, n)
	case 3:
		s.Done = d.spoiledMarks(s.Done, n)
	case 4:
		s.Applied = d.spoiledNumbers(s.Applied, n)
	default:
		s.Held = d.spoiledHeld(*s, n)
	}
}

func (d *dice) spoiledMarks(list []impl.Mark, n int64) []impl.Mark {
	list = slices.Clone(list)
	if len(list) == 0 {
		return marks(mark(n, 1+d.below(2)))
	}
	at, other := d.below(int64(len(list))), d.below(int64(len(list)))
	switch d.below(7) {
	case 0:
		list[at].Contract = n
	case 1:
		list[at].Value = n
	case 2:
		list[at].Value = 3 - list[at].Value
	case 3:
		list[at], list[other] = list[other], list[at]
	case 4:
		list = slices.Delete(list, int(at), int(at)+1)
	case 5:
		list = markedWith(list, mark(20, 1+d.below(2)))
	case 6:
		list = append(list, manyMarks(100-len(list)+int(d.below(2)), 1000, 2)...)
	}
	return list
}

func (d *dice) spoiledNumbers(list []int64, n int64) []int64 {
	list = slices.Clone(list)
	if len(list) == 0 {
		return []int64{n}
	}
	at, other := d.below(int64(len(list))), d.below(int64(len(list)))
	switch d.below(5) {
	case 0:
		list[at] = n
	case 1:
		list[at] = list[other]
	case 2:
		list = append(list, list[at])
	case 3:
		list = slices.Delete(list, int(at), int(at)+1)
	case 4:
		list = append(list, numbersFrom(1, 101-len(list))...)
	}
	return list
}

// spoiledHeld changes what is held so that its votes are right still, often.
func (d *dice) spoiledHeld(s impl.Shard, n int64) []impl.Contract {
	list := cloneShard(s).Held
	if len(list) == 0 {
		return heldOf(d.anyContract())
	}
	at, other := d.below(int64(len(list))), d.below(int64(len(list)))
	switch d.below(9) {
	case 0:
		list[at].Id = n
	case 1:
		d.spoilLegs(&list[at])
	case 2:
		list[at], list[other] = list[other], list[at]
	case 3:
		list = slices.Delete(list, int(at), int(at)+1)
	case 4:
		list = append(list, cloneContract(list[other]))
	case 5:
		list = append(list, slices.Repeat(list, 100)[:101-len(list)]...)
	case 6:
		list[at].Legs = slices.Clone(list[other].Legs)
	default:
		list[at].Legs = d.rightContract().Legs
	}
	return list
}

// anyShardCall throws one that may have faults of every kind.
func (d *dice) anyShardCall(s impl.Shard) shardCall {
	odd := []int64{farLow, -1, 0, 1, 2, 3, 12, 20, maxId, maxId + 1, farHigh}
	x := shardCall{c: d.anyContract(), outcome: d.below(3)}
	if d.below(4) > 0 {
		x.c = d.rightContract()
	}
	if d.below(4) > 0 {
		x.c.Id = 1 + d.below(14)
	}
	if x.outcome > 0 && d.below(8) == 0 {
		x.outcome = odd[d.below(int64(len(odd)))]
	}
	if len(s.Held) > 0 && d.below(3) == 0 {
		x.c = s.Held[d.below(int64(len(s.Held)))]
	}
	return x
}

// Chapter 10 told twice, for shards that are thrown: right ones, and such with
// faults of every kind.
func TestShardsThatAreThrown(t *testing.T) {
	d := dice(141)
	told, voted, decided, said := map[int64]int{}, map[int64]int{}, map[int64]int{}, map[int64]int{}
	for range 12000 {
		s := d.anyShard()
		code := impl.ShardFault(s)
		told[code]++
		checkCode(t, "ShardFault", code, wantShardFault(s))
		for range 5 {
			x := d.anyShardCall(s)
			r := x.run(s)
			checkShardResult(t, "a call", r, x.want(s))
			if x.outcome == impl.OutcomeNone {
				voted[r.Code]++
				said[r.Vote]++
			} else {
				decided[r.Code]++
			}
			if t.Failed() {
				t.Fatalf("%+v of %+v", x, s)
			}
		}
		account, asset := d.below(8)-1, d.below(5)-1
		checkNumber(t, "FreeOf", impl.FreeOf(s, account, asset), wantFreeOf(s, account, asset))
		checkNumbers(t, "InDoubt", impl.InDoubt(s), wantInDoubt(s))
		checkText(t, "ShardText", impl.ShardText(s), wantShardText(s))
		checkShardResult(t, "NewShard", impl.NewShard(s.Index, s.Balances), wantNewShard(s.Index, s.Balances))
		if t.Failed() {
			t.Fatalf("%+v", s)
		}
	}
	for _, code := range []int64{impl.OK, impl.ErrForm, impl.ErrMany, impl.ErrRange, impl.ErrShort, impl.ErrTaken} {
		if told[code] < 50 || voted[code] < 50 || decided[code] < 50 {
			t.Errorf("code %d only %d, %d and %d times", code, told[code], voted[code], decided[code])
		}
	}
	if voted[impl.ErrNone] < 50 || said[impl.ValueReady] < 500 || said[impl.ValueNot] < 500 {
		t.Errorf("voted %v, said %v", voted, said)
	}
}
