package tests

import (
	"cmp"
	"fmt"
	"slices"
	"strings"
	"testing"

	"loop.example/g00203/impl"
)

func mark(contract, value int64) impl.Mark {
	return impl.Mark{Contract: contract, Value: value}
}

func marks(list ...impl.Mark) []impl.Mark {
	return list
}

// manyMarks are of one value, their contracts rise by 1.
func manyMarks(n int, from, value int64) []impl.Mark {
	var list []impl.Mark
	for i := range n {
		list = append(list, mark(from+int64(i), value))
	}
	return list
}

func heldOf(list ...impl.Contract) []impl.Contract {
	return list
}

// numbersFrom are n numbers that rise by 1.
func numbersFrom(from int64, n int) []int64 {
	var list []int64
	for i := range n {
		list = append(list, from+int64(i))
	}
	return list
}

// moves is a contract that adds amount to an account at shard 1, and takes it
// from the account of the same number at shard 0.
func moves(id, account, asset, amount int64) impl.Contract {
	return contract(id, leg(1, account, asset, amount), leg(0, account, asset, -amount))
}

// newAt is a shard 1 that was asked nothing yet.
func newAt(balances ...impl.Balance) impl.Shard {
	return impl.Shard{Index: 1, Balances: balances}
}

// busyShard is a shard 1 with all that one can have: 2 and 6 are held, 3 and 7
// were voted against, 4 and 8 are done, 5 and 7 are not done, and 1 is not done
// either, though it was never voted on.
func busyShard() impl.Shard {
	return impl.Shard{
		Index:    1,
		Balances: fullShard(10),
		Votes:    marks(mark(2, 1), mark(3, 2), mark(4, 1), mark(5, 1), mark(6, 1), mark(7, 2), mark(8, 1)),
		Held:     heldOf(moves(2, 0, 0, -6), moves(6, 1, 2, 4)),
		Done:     marks(mark(1, 2), mark(4, 1), mark(5, 2), mark(7, 2), mark(8, 1)),
		Applied:  []int64{8, 4},
	}
}

func cloneShard(s impl.Shard) impl.Shard {
	after := impl.Shard{Index: s.Index, Balances: slices.Clone(s.Balances), Votes: slices.Clone(s.Votes), Done: slices.Clone(s.Done), Applied: slices.Clone(s.Applied)}
	for _, c := range s.Held {
		after.Held = append(after.Held, cloneContract(c))
	}
	return after
}

func sameShards(a, b impl.Shard) bool {
	return a.Index == b.Index && slices.Equal(a.Balances, b.Balances) && slices.Equal(a.Votes, b.Votes) &&
		slices.EqualFunc(a.Held, b.Held, sameContracts) && slices.Equal(a.Done, b.Done) && slices.Equal(a.Applied, b.Applied)
}

// toldIn is 0 where nothing is told of a contract.
func toldIn(list []impl.Mark, contract int64) int64 {
	for _, m := range list {
		if m.Contract == contract {
			return m.Value
		}
	}
	return 0
}

func holds(s impl.Shard, contract int64) bool {
	return slices.ContainsFunc(s.Held, func(c impl.Contract) bool { return c.Id == contract })
}

func legsHere(s impl.Shard, c impl.Contract) []impl.Leg {
	return slices.DeleteFunc(slices.Clone(c.Legs), func(l impl.Leg) bool { return l.Shard != s.Index })
}

func hasHere(s impl.Shard, account, asset int64) int64 {
	for _, b := range s.Balances {
		if b.Account == account && b.Asset == asset {
			return b.Amount
		}
	}
	return 0
}

// The want functions tell chapter 10 once more.
func wantMarksFault(list []impl.Mark) int64 {
	last := int64(0)
	for _, m := range list {
		if m.Contract < 1 || m.Contract > maxId || m.Value != 1 && m.Value != 2 {
			return impl.ErrRange
		}
		if m.Contract <= last {
			return impl.ErrForm
		}
		last = m.Contract
	}
	return impl.OK
}

func wantInDoubtFault(s impl.Shard) int64 {
	last := int64(0)
	for _, c := range s.Held {
		if code := wantContractFault(c); code != impl.OK {
			return code
		}
		if c.Id <= last || len(legsHere(s, c)) == 0 || toldIn(s.Votes, c.Id) != impl.ValueReady || toldIn(s.Done, c.Id) != 0 {
			return impl.ErrForm
		}
		last = c.Id
	}
	return impl.OK
}

// wantKnown asks whether nothing that was said or told is missing elsewhere.
func wantKnown(s impl.Shard) bool {
	for _, m := range s.Votes {
		if m.Value == impl.ValueReady && !holds(s, m.Contract) && toldIn(s.Done, m.Contract) == 0 {
			return false
		}
	}
	times := map[int64]int{}
	for _, id := range s.Applied {
		times[id]++
	}
	for _, m := range s.Done {
		if m.Value == impl.OutcomeDone {
			times[m.Contract]--
		}
	}
	for _, n := range times {
		if n != 0 {
			return false
		}
	}
	return true
}

func wantMeet(s impl.Shard, a, b impl.Contract) bool {
	for _, x := range legsHere(s, a) {
		for _, y := range legsHere(s, b) {
			if x.Account == y.Account && x.Asset == y.Asset {
				return true
			}
		}
	}
	return false
}

func wantCovered(s impl.Shard, c impl.Contract) int64 {
	for _, l := range legsHere(s, c) {
		switch has := hasHere(s, l.Account, l.Asset); {
		case has < -l.Amount:
			return impl.ErrShort
		case has > impl.MaxAmount-l.Amount:
			return impl.ErrRange
		}
	}
	return impl.OK
}

func wantHoldFault(s impl.Shard) int64 {
	for i := range s.Held {
		for j := range i {
			if wantMeet(s, s.Held[i], s.Held[j]) {
				return impl.ErrTaken
			}
		}
	}
	for _, c := range s.Held {
		if code := wantCovered(s, c); code != impl.OK {
			return code
		}
	}
	return impl.OK
}

func wantShardFault(s impl.Shard) int64 {
	if s.Index != 0 && s.Index != 1 && s.Index != 2 {
		return impl.ErrRange
	}
	if code := wantBalancesFault(s.Balances); code != impl.OK {
		return code
	}
	if len(s.Votes) > 100 || len(s.Held) > 100 || len(s.Done) > 100 || len(s.Applied) > 100 {
		return impl.ErrMany
	}
	if code := cmp.Or(wantMarksFault(s.Votes), wantMarksFault(s.Done), wantInDoubtFault(s)); code != impl.OK {
		return code
	}
	if !wantKnown(s) {
		return impl.ErrForm
	}
	return wantHoldFault(s)
}

func wantNewShard(index int64, balances []impl.Balance) impl.ShardResult {
	s := impl.Shard{Index: index, Balances: balances}
	if code := wantShardFault(s); code != impl.OK {
		return impl.ShardResult{Code: code}
	}
	return impl.ShardResult{Shard: s}
}

func wantVoteShard(s impl.Shard, c impl.Contract) impl.ShardResult {
	if code := cmp.Or(wantShardFault(s), wantContractFault(c)); code != impl.OK {
		return impl.ShardResult{Code: code}
	}
	if len(legsHere(s, c)) == 0 {
		return impl.ShardResult{Code: impl.ErrNone}
	}
	after := cloneShard(s)
	if value := toldIn(s.Votes, c.Id); value != 0 {
		return impl.ShardResult{Vote: value, Shard: after}
	}
	if len(s.Votes) > 99 {
		return impl.ShardResult{Code: impl.ErrMany}
	}
	value := int64(impl.ValueNot)
	meets := func(other impl.Contract) bool { return wantMeet(s, c, other) }
	if toldIn(s.Done, c.Id) == 0 && !slices.ContainsFunc(s.Held, meets) && wantCovered(s, c) == impl.OK {
		value = impl.ValueReady
		after.Held = append(after.Held, cloneContract(c))
		slices.SortFunc(after.Held, func(a, b impl.Contract) int { return cmp.Compare(a.Id, b.Id) })
	}
	after.Votes = markedWith(after.Votes, mark(c.Id, value))
	return impl.ShardResult{Vote: value, Shard: after}
}

func markedWith(list []impl.Mark, m impl.Mark) []impl.Mark {
	list = append(slices.Clone(list), m)
	slices.SortFunc(list, func(a, b impl.Mark) int { return cmp.Compare(a.Contract, b.Contract) })
	return list
}

// withLegs tells the balances of a shard with its legs of a contract added.
func withLegs(s impl.Shard, c impl.Contract) []impl.Balance {
	g := ledger(nil, nil, nil)
	g.Shards[s.Index] = s.Balances
	m := gridOf(g)
	for _, l := range legsHere(s, c) {
		m[l.Shard][l.Account][l.Asset] += l.Amount
	}
	return m.ledger(3).Shards[s.Index]
}

func wantDecideShard(s impl.Shard, contract, outcome int64) impl.ShardResult {
	if code := cmp.Or(wantShardFault(s), wantMarksFault(marks(mark(contract, outcome)))); code != impl.OK {
		return impl.ShardResult{Code: code}
	}
	after := cloneShard(s)
	switch known := toldIn(s.Done, contract); {
	case known == outcome:
		return impl.ShardResult{Shard: after}
	case known != 0:
		return impl.ShardResult{Code: impl.ErrTaken}
	case outcome == impl.OutcomeDone && !holds(s, contract):
		return impl.ShardResult{Code: impl.ErrForm}
	case len(s.Done) > 99:
		return impl.ShardResult{Code: impl.ErrMany}
	}
	after.Done = markedWith(after.Done, mark(contract, outcome))
	after.Held = nil
	for _, c := range s.Held {
		switch {
		case c.Id != contract:
			after.Held = append(after.Held, cloneContract(c))
		case outcome == impl.OutcomeDone:
			after.Balances = withLegs(s, c)
			after.Applied = append(after.Applied, contract)
		}
	}
	return impl.ShardResult{Shard: after}
}

func wantFreeOf(s impl.Shard, account, asset int64) impl.IntResult {
	if code := wantShardFault(s); code != impl.OK {
		return impl.IntResult{Code: code}
	}
	if account < 0 || account > 5 || asset < 0 || asset > 2 {
		return impl.IntResult{Code: impl.ErrRange}
	}
	free := hasHere(s, account, asset)
	for _, c := range s.Held {
		for _, l := range legsHere(s, c) {
			if l.Account == account && l.Asset == asset {
				free += min(0, l.Amount)
			}
		}
	}
	return impl.IntResult{Value: free}
}

func wantInDoubt(s impl.Shard) impl.IntsResult {
	r := impl.IntsResult{Code: wantShardFault(s)}
	for _, c := range s.Held {
		if r.Code == impl.OK {
			r.List = append(r.List, c.Id)
		}
	}
	return r
}

func wantShardText(s impl.Shard) impl.TextResult {
	if code := wantShardFault(s); code != impl.OK {
		return impl.TextResult{Code: code}
	}
	var text strings.Builder
	fmt.Fprintf(&text, "shard %d\n", s.Index)
	for _, b := range s.Balances {
		fmt.Fprintf(&text, "has %d %d %d\n", b.Account, b.Asset, b.Amount)
	}
	for _, m := range s.Votes {
		fmt.Fprintf(&text, "vote %d %d\n", m.Contract, m.Value)
	}
	for _, c := range s.Held {
		fmt.Fprintf(&text, "held %d\n", c.Id)
	}
	for _, m := range s.Done {
		fmt.Fprintf(&text, "done %d %d\n", m.Contract, m.Value)
	}
	return impl.TextResult{Text: text.String()}
}

func checkShardResult(t *testing.T, what string, got, want impl.ShardResult) {
	t.Helper()
	if got.Code != want.Code || got.Vote != want.Vote || !sameShards(got.Shard, want.Shard) {
		t.Errorf("%s:\ngot  %v\nwant %v", what, got, want)
	}
}

func checkShardCode(t *testing.T, what string, got impl.ShardResult, code int64) {
	t.Helper()
	checkShardResult(t, what, got, impl.ShardResult{Code: code})
}

// checkVoted and checkDecided are of calls without a code.
func checkVoted(t *testing.T, what string, got impl.ShardResult, vote int64, want impl.Shard) {
	t.Helper()
	checkShardResult(t, what, got, impl.ShardResult{Vote: vote, Shard: want})
	checkCode(t, what+": ShardFault", impl.ShardFault(got.Shard), impl.OK)
}

func checkDecided(t *testing.T, what string, got impl.ShardResult, want impl.Shard) {
	t.Helper()
	checkVoted(t, what, got, impl.ValueNone, want)
}

// checkShardRight holds all that a shard without a fault tells of itself
// against chapter 10 told once more.
func checkShardRight(t *testing.T, what string, s impl.Shard) {
	t.Helper()
	checkCode(t, what+": ShardFault", impl.ShardFault(s), impl.OK)
	checkCode(t, what+", told once more", wantShardFault(s), impl.OK)
	for _, b := range fullShard(1) {
		checkNumber(t, what+": FreeOf", impl.FreeOf(s, b.Account, b.Asset), wantFreeOf(s, b.Account, b.Asset))
	}
	checkNumbers(t, what+": InDoubt", impl.InDoubt(s), wantInDoubt(s))
	checkText(t, what+": ShardText", impl.ShardText(s), wantShardText(s))
}

// checkShardFaulted holds all functions that ask the ShardFault first against
// its code, whatever else they are given.
func checkShardFaulted(t *testing.T, what string, s impl.Shard, code int64) {
	t.Helper()
	checkCode(t, what+": ShardFault", impl.ShardFault(s), code)
	checkCode(t, what+", told once more", wantShardFault(s), code)
	askedOf := heldOf(moves(2, 0, 0, -6), moves(3, 0, 0, -1), moves(99, 3, 1, 1), moves(0, 0, 0, 1), contract(99), chain(99, 9),
		contract(99, leg(0, 0, 0, 1), leg(2, 0, 0, -1)), contract(99, leg(0, 0, 0, 1), leg(0, 0, 0, 1)), contract(99, leg(1, 0, 0, 1), leg(0, 0, 0, 1)))
	for _, c := range askedOf {
		checkShardCode(t, what+": VoteShard", impl.VoteShard(s, c), code)
	}
	for _, n := range []int64{farLow, -1, 0, 1, 2, 4, 99, maxId + 1, farHigh} {
		for _, outcome := range []int64{farLow, 0, 1, 2, 3} {
			checkShardCode(t, what+": DecideShard", impl.DecideShard(s, n, outcome), code)
		}
		checkNumber(t, what+": FreeOf", impl.FreeOf(s, n, 0), impl.IntResult{Code: code})
		checkNumber(t, what+": FreeOf", impl.FreeOf(s, 0, n), impl.IntResult{Code: code})
	}
	checkNumbers(t, what+": InDoubt", impl.InDoubt(s), impl.IntsResult{Code: code})
	checkText(t, what+": ShardText", impl.ShardText(s), impl.TextResult{Code: code})
}
