package tests

import (
	"slices"
	"testing"

	"loop.example/g00203/impl"
)

var indexCases = []struct {
	name  string
	index int64
	want  int64
}{
	{"far below", farLow, impl.ErrRange},
	{"-1", -1, impl.ErrRange},
	{"0", 0, impl.OK},
	{"1", 1, impl.OK},
	{"MaxShards less 1", impl.MaxShards - 1, impl.OK},
	{"MaxShards", impl.MaxShards, impl.ErrRange},
	{"far above", farHigh, impl.ErrRange},
}

var balancesCases = []struct {
	name string
	list []impl.Balance
	want int64
}{
	{"nil", nil, impl.OK},
	{"empty", bals(), impl.OK},
	{"one", bals(bal(0, 0, 1)), impl.OK},
	{"all", fullShard(impl.MaxAmount), impl.OK},
	{"19", append(fullShard(1), bal(5, 2, 1)), impl.ErrMany},
	{"very many", slices.Repeat(fullShard(1), 50), impl.ErrMany},
	{"amount 0", bals(bal(0, 0, 1), bal(0, 1, 0)), impl.ErrRange},
	{"amount below 0", bals(bal(0, 0, -1)), impl.ErrRange},
	{"amount too great", bals(bal(0, 0, impl.MaxAmount+1)), impl.ErrRange},
	{"account 6", bals(bal(6, 0, 1)), impl.ErrRange},
	{"asset 3", bals(bal(0, 3, 1)), impl.ErrRange},
	{"numbers far out", bals(bal(farLow, farHigh, farLow)), impl.ErrRange},
	{"twice", bals(bal(1, 1, 1), bal(1, 1, 2)), impl.ErrForm},
	{"accounts that fall", bals(bal(2, 0, 1), bal(1, 2, 1)), impl.ErrForm},
	{"assets that fall", bals(bal(1, 2, 1), bal(1, 1, 1)), impl.ErrForm},
}

// Index and Balances, of new shards and of such that stand there.
func TestNewShard(t *testing.T) {
	for _, i := range indexCases {
		for _, b := range balancesCases {
			what := "index " + i.name + ", balances " + b.name
			want := i.want
			if want == impl.OK {
				want = b.want
			}
			s := impl.Shard{Index: i.index, Balances: b.list}
			got := impl.NewShard(i.index, b.list)
			checkShardResult(t, what+", told once more", wantNewShard(i.index, b.list), got)
			if want != impl.OK {
				checkShardCode(t, what, got, want)
				checkShardFaulted(t, what, s, want)
				continue
			}
			checkDecided(t, what, got, s)
			checkShardRight(t, what, got.Shard)
		}
	}
}

// contractsAt are n contracts from that number on, each of which gives 1 at
// shard 1, no two to one account and asset if there are at most 18.
func contractsAt(from int64, n int) []impl.Contract {
	var list []impl.Contract
	for i := range int64(n) {
		list = append(list, moves(from+i, i/3%6, i%3, 1))
	}
	return list
}

func TestShardsWithoutAFault(t *testing.T) {
	cases := []struct {
		name string
		s    impl.Shard
	}{
		{"the zero value", impl.Shard{}},
		{"empty lists", impl.Shard{Index: 2, Balances: bals(), Votes: marks(), Held: heldOf(), Done: marks(), Applied: []int64{}}},
		{"all at once", busyShard()},
		{"100 votes", impl.Shard{Votes: manyMarks(100, 1, 2)}},
		{"100 votes up to the last contract", impl.Shard{Votes: manyMarks(100, maxId-99, 2)}},
		{"100 not done", impl.Shard{Done: manyMarks(100, 1, 2)}},
		{"100 done", impl.Shard{Done: manyMarks(100, maxId-99, 1), Applied: numbersFrom(maxId-99, 100)}},
		{"100 voted on and done", impl.Shard{Votes: manyMarks(100, 7, 1), Done: manyMarks(100, 7, 1), Applied: numbersFrom(7, 100)}},
		{"18 held", impl.Shard{Index: 1, Votes: manyMarks(18, 5, 1), Held: contractsAt(5, 18)}},
		{"18 held with 82 others", impl.Shard{Index: 1, Votes: append(manyMarks(18, 5, 1), manyMarks(82, 23, 2)...), Held: contractsAt(5, 18), Done: manyMarks(82, 23, 2)}},
		{"votes of the first and the last contract", impl.Shard{Votes: marks(mark(1, 2), mark(maxId, 2))}},
		{"outcomes of the first and the last contract", impl.Shard{Done: marks(mark(1, 1), mark(maxId, 2)), Applied: []int64{1}}},
		{"applied as they fall", impl.Shard{Done: marks(mark(1, 1), mark(2, 1), mark(3, 1)), Applied: []int64{3, 2, 1}}},
		{"done, never voted on", impl.Shard{Done: marks(mark(4, 1)), Applied: []int64{4}}},
		{"done, voted against", impl.Shard{Votes: marks(mark(4, 2)), Done: marks(mark(4, 1)), Applied: []int64{4}}},
		{"not done, voted for", impl.Shard{Votes: marks(mark(4, 1)), Done: marks(mark(4, 2))}},
		{"held takes all", impl.Shard{Index: 1, Balances: bals(bal(0, 0, 9)), Votes: marks(mark(4, 1)), Held: heldOf(moves(4, 0, 0, -9))}},
		{"held gives up to MaxAmount", impl.Shard{Index: 1, Balances: bals(bal(0, 0, 9)), Votes: marks(mark(4, 1)), Held: heldOf(moves(4, 0, 0, impl.MaxAmount-9))}},
		{"held gives MaxAmount to who has nothing", impl.Shard{Index: 1, Votes: marks(mark(4, 1)), Held: heldOf(moves(4, 0, 0, impl.MaxAmount))}},
		{"held takes MaxAmount", impl.Shard{Index: 1, Balances: bals(bal(0, 0, impl.MaxAmount)), Votes: marks(mark(4, 1)), Held: heldOf(moves(4, 0, 0, -impl.MaxAmount))}},
		{"held, of one account two assets", impl.Shard{Index: 1, Votes: marks(mark(4, 1), mark(5, 1)), Held: heldOf(moves(4, 3, 0, 2), moves(5, 3, 1, 2))}},
		{"held, of one asset two accounts", impl.Shard{Index: 1, Votes: marks(mark(4, 1), mark(5, 1)), Held: heldOf(moves(4, 3, 1, 2), moves(5, 4, 1, 2))}},
		{"held, of one account and asset elsewhere", impl.Shard{Index: 1, Votes: marks(mark(4, 1), mark(5, 1)),
			Held: heldOf(contract(4, leg(1, 0, 0, 2), leg(0, 3, 0, -2)), contract(5, leg(1, 1, 0, 2), leg(0, 3, 0, -2)))}},
		{"held, of one account and asset here and elsewhere", impl.Shard{Index: 1, Votes: marks(mark(4, 1), mark(5, 1)),
			Held: heldOf(contract(4, leg(1, 0, 0, 2), leg(0, 3, 0, -2)), contract(5, leg(1, 3, 0, 2), leg(0, 0, 0, -2)))}},
		{"held takes elsewhere what nobody has here", impl.Shard{Index: 1, Votes: marks(mark(4, 1)), Held: heldOf(contract(4, leg(1, 5, 2, 2), leg(2, 0, 2, -2)))}},
		{"held gives elsewhere too much for here", impl.Shard{Index: 1, Balances: bals(bal(0, 0, impl.MaxAmount)), Votes: marks(mark(4, 1)),
			Held: heldOf(contract(4, leg(1, 0, 0, -2), leg(2, 0, 0, 2)))}},
		{"held takes and gives here", impl.Shard{Balances: bals(bal(0, 0, 2)), Votes: marks(mark(4, 1)), Held: heldOf(contract(4, leg(0, 0, 0, -2), leg(0, 1, 0, 2)))}},
		{"held has 8 legs", impl.Shard{Index: 2, Votes: marks(mark(4, 1)), Held: heldOf(chain(4, 8))}},
	}
	for _, c := range cases {
		checkShardRight(t, c.name, c.s)
	}
}

func TestVoteAndOutcomeFaults(t *testing.T) {
	cases := []struct {
		name string
		list []impl.Mark
		want int64
	}{
		{"contract far below", marks(mark(farLow, 2)), impl.ErrRange},
		{"contract -1", marks(mark(-1, 2)), impl.ErrRange},
		{"contract 0", marks(mark(0, 2)), impl.ErrRange},
		{"contract 10^9 and 1", marks(mark(maxId+1, 2)), impl.ErrRange},
		{"contract far above", marks(mark(farHigh, 2)), impl.ErrRange},
		{"value far below", marks(mark(5, farLow)), impl.ErrRange},
		{"value -1", marks(mark(5, -1)), impl.ErrRange},
		{"value 0", marks(mark(5, 0)), impl.ErrRange},
		{"value 3", marks(mark(5, 3)), impl.ErrRange},
		{"value far above", marks(mark(5, farHigh)), impl.ErrRange},
		{"the zero value", make([]impl.Mark, 1), impl.ErrRange},
		{"the last of 100", append(manyMarks(99, 1, 2), mark(100, 3)), impl.ErrRange},
		{"it stays", marks(mark(5, 2), mark(5, 2)), impl.ErrForm},
		{"it stays with another value", marks(mark(5, 2), mark(5, 1)), impl.ErrForm},
		{"it falls", marks(mark(6, 2), mark(5, 2)), impl.ErrForm},
		{"it falls later", marks(mark(5, 2), mark(7, 2), mark(6, 2)), impl.ErrForm},
		{"the last of 100 falls", append(manyMarks(99, 2, 2), mark(1, 2)), impl.ErrForm},
		{"one by one: it falls, then a contract", marks(mark(6, 2), mark(5, 2), mark(0, 2)), impl.ErrForm},
		{"one by one: a contract, then it falls", marks(mark(0, 2), mark(6, 2), mark(5, 2)), impl.ErrRange},
		{"one by one: a value, then it falls", marks(mark(6, 3), mark(5, 2)), impl.ErrRange},
		{"a value of one that falls", marks(mark(6, 2), mark(5, 0)), impl.ErrRange},
		{"a contract that falls out", marks(mark(6, 2), mark(farLow, 2)), impl.ErrRange},
		{"101", manyMarks(101, 1, 2), impl.ErrMany},
		{"101 zero values", make([]impl.Mark, 101), impl.ErrMany},
		{"very many", manyMarks(5000, 1, 2), impl.ErrMany},
	}
	for _, c := range cases {
		checkShardFaulted(t, "votes: "+c.name, impl.Shard{Votes: c.list}, c.want)
		checkShardFaulted(t, "outcomes: "+c.name, impl.Shard{Done: c.list}, c.want)
		checkShardFaulted(t, "outcomes behind votes: "+c.name, impl.Shard{Votes: manyMarks(100, 1, 2), Done: c.list}, c.want)
	}
	checkShardFaulted(t, "all votes ahead of outcomes", impl.Shard{Votes: marks(mark(6, 2), mark(5, 2)), Done: marks(mark(0, 2))}, impl.ErrForm)
	checkShardFaulted(t, "all votes ahead of outcomes", impl.Shard{Votes: marks(mark(6, 2), mark(7, 3)), Done: marks(mark(6, 2), mark(5, 2))}, impl.ErrRange)
}

func TestHeldContractFaults(t *testing.T) {
	right := moves(5, 3, 1, 2)
	said := func(values ...int64) []impl.Mark {
		var list []impl.Mark
		for i, value := range values {
			list = append(list, mark(5+int64(i), value))
		}
		return list
	}
	cases := []struct {
		name  string
		votes []impl.Mark
		held  []impl.Contract
		want  int64
	}{
		{"no vote", nil, heldOf(right), impl.ErrForm},
		{"a vote of another one", marks(mark(6, 2)), heldOf(right), impl.ErrForm},
		{"a vote against it", said(2), heldOf(right), impl.ErrForm},
		{"no leg here", said(1), heldOf(contract(5, leg(0, 3, 1, 2), leg(2, 3, 1, -2))), impl.ErrForm},
		{"it stays", said(1), heldOf(right, right), impl.ErrForm},
		{"it falls", said(1, 1), heldOf(moves(6, 2, 1, 2), right), impl.ErrForm},
		{"contract 0", said(1), heldOf(moves(0, 3, 1, 2)), impl.ErrRange},
		{"contract 10^9 and 1", said(1), heldOf(moves(maxId+1, 3, 1, 2)), impl.ErrRange},
		{"the zero value", said(1), make([]impl.Contract, 1), impl.ErrRange},
		{"no legs", said(1), heldOf(contract(5)), impl.ErrMany},
		{"9 legs", said(1), heldOf(chain(5, 9)), impl.ErrMany},
		{"a leg's numbers far out", said(1), heldOf(contract(5, leg(1, 3, 1, farLow), leg(1, farHigh, farLow, farHigh))), impl.ErrRange},
		{"a leg's shard far out", said(1), heldOf(contract(5, leg(1, 3, 1, 2), leg(farHigh, 3, 1, -2))), impl.ErrRange},
		{"a leg of 0", said(1), heldOf(contract(5, leg(1, 3, 1, 0), leg(0, 3, 1, 0))), impl.ErrForm},
		{"a leg twice", said(1), heldOf(contract(5, leg(1, 3, 1, 2), leg(1, 3, 1, -2))), impl.ErrTaken},
		{"not 0 together", said(1), heldOf(contract(5, leg(1, 3, 1, 2), leg(0, 3, 1, -1))), impl.ErrForm},
		{"a fault of one that falls", said(1, 1), heldOf(moves(6, 2, 1, 2), contract(5)), impl.ErrMany},
		{"a fault of one without a vote", nil, heldOf(contract(5)), impl.ErrMany},
		{"one by one: it falls, then a fault", said(1, 1), heldOf(moves(6, 2, 1, 2), right, contract(7)), impl.ErrForm},
		{"one by one: a fault, then it falls", said(1, 1), heldOf(contract(6), right), impl.ErrMany},
		{"one by one: no vote, then a fault", nil, heldOf(right, contract(7)), impl.ErrForm},
		{"ready, and not held", said(1), nil, impl.ErrForm},
		{"two ready, the second one not held", said(1, 1), heldOf(right), impl.ErrForm},
		{"two ready, the first one not held", said(1, 1), heldOf(moves(6, 3, 1, 2)), impl.ErrForm},
		{"101", said(1), slices.Repeat(heldOf(right), 101), impl.ErrMany},
		{"101 zero values", said(1), make([]impl.Contract, 101), impl.ErrMany},
		{"101 with votes of 100", manyMarks(100, 1, 1), contractsAt(1, 101), impl.ErrMany},
		{"100: some meet", manyMarks(100, 1, 1), contractsAt(1, 100), impl.ErrTaken},
		{"19: two meet", manyMarks(19, 1, 1), contractsAt(1, 19), impl.ErrTaken},
	}
	for _, c := range cases {
		checkShardFaulted(t, c.name, impl.Shard{Index: 1, Votes: c.votes, Held: c.held}, c.want)
	}
	for outcome := int64(1); outcome <= 2; outcome++ {
		s := impl.Shard{Index: 1, Votes: said(1), Held: heldOf(right), Done: marks(mark(5, outcome))}
		if outcome == impl.OutcomeDone {
			s.Applied = []int64{5}
		}
		checkShardFaulted(t, "held and done", s, impl.ErrForm)
		s.Done, s.Applied = marks(mark(4, outcome), mark(6, 2)), nil
		if outcome == impl.OutcomeDone {
			s.Applied = []int64{4}
		}
		checkShardRight(t, "held, and others are done", s)
	}
}

func TestAppliedFaults(t *testing.T) {
	done := marks(mark(2, 1), mark(3, 2), mark(5, 1))
	for _, right := range [][]int64{{2, 5}, {5, 2}} {
		checkShardRight(t, "both", impl.Shard{Done: done, Applied: right})
	}
	cases := []struct {
		name    string
		applied []int64
		want    int64
	}{
		{"none", nil, impl.ErrForm},
		{"the second one is missing", []int64{2}, impl.ErrForm},
		{"the first one is missing", []int64{5}, impl.ErrForm},
		{"one twice", []int64{2, 5, 2}, impl.ErrForm},
		{"one twice in place of the other", []int64{5, 5}, impl.ErrForm},
		{"one that is not Done", []int64{2, 4, 5}, impl.ErrForm},
		{"one that is not Done in place of another", []int64{2, 4}, impl.ErrForm},
		{"one that is Done with OutcomeNot", []int64{2, 3, 5}, impl.ErrForm},
		{"one that is Done with OutcomeNot in place of another", []int64{3, 5}, impl.ErrForm},
		{"contract 0", []int64{0, 2, 5}, impl.ErrForm},
		{"numbers far out", []int64{farLow, farHigh}, impl.ErrForm},
		{"100", slices.Repeat([]int64{2, 5}, 50), impl.ErrForm},
		{"101", append(slices.Repeat([]int64{2, 5}, 50), 5), impl.ErrMany},
		{"very many", make([]int64, 5000), impl.ErrMany},
	}
	for _, c := range cases {
		checkShardFaulted(t, c.name, impl.Shard{Done: done, Applied: c.applied}, c.want)
	}
	checkShardFaulted(t, "101 are Done and applied", impl.Shard{Done: manyMarks(101, 1, 1), Applied: numbersFrom(1, 101)}, impl.ErrMany)
	checkShardFaulted(t, "100 are Done, 99 applied", impl.Shard{Done: manyMarks(100, 1, 1), Applied: numbersFrom(1, 99)}, impl.ErrForm)
	checkShardFaulted(t, "applied, nothing is Done", impl.Shard{Applied: []int64{1}}, impl.ErrForm)
	checkShardFaulted(t, "applied and held", impl.Shard{Index: 1, Votes: marks(mark(5, 1)), Held: heldOf(moves(5, 0, 0, 1)), Applied: []int64{5}}, impl.ErrForm)
}

// What is held, and cannot be: two that meet, and what the balances cannot
// settle. The accounts 0 to 2 have 10 of asset 0, account 3 has MaxAmount.
func TestWhatCannotBeHeld(t *testing.T) {
	balances := bals(bal(0, 0, 10), bal(1, 0, 10), bal(2, 0, 10), bal(3, 0, impl.MaxAmount))
	both := contract(5, leg(0, 0, 0, 1), leg(1, 3, 0, 1), leg(1, 0, 0, -11), leg(2, 0, 0, 9))
	bothTurned := contract(5, leg(1, 0, 0, -11), leg(2, 0, 0, 10), leg(1, 3, 0, 1))
	cases := []struct {
		name string
		held []impl.Contract
		want int64
	}{
		{"two that take of one", heldOf(moves(5, 0, 0, -1), moves(6, 0, 0, -1)), impl.ErrTaken},
		{"two that give to one", heldOf(moves(5, 0, 0, 1), moves(6, 0, 0, 1)), impl.ErrTaken},
		{"one takes, one gives", heldOf(moves(5, 0, 0, -1), moves(6, 0, 0, 1)), impl.ErrTaken},
		{"two of one that has nothing", heldOf(moves(5, 5, 2, 1), moves(6, 5, 2, 1)), impl.ErrTaken},
		{"the first and the last of three", heldOf(moves(5, 0, 0, -1), moves(6, 1, 0, -1), moves(7, 0, 0, -1)), impl.ErrTaken},
		{"the last two of three", heldOf(moves(5, 0, 0, -1), moves(6, 1, 0, -1), moves(7, 1, 0, -1)), impl.ErrTaken},
		{"the second legs here meet", heldOf(contract(5, leg(1, 0, 0, -1), leg(1, 2, 0, 1)), contract(6, leg(1, 1, 0, -1), leg(0, 0, 0, 2), leg(1, 2, 0, -1))), impl.ErrTaken},
		{"one too much", heldOf(moves(5, 0, 0, -11)), impl.ErrShort},
		{"of who has nothing", heldOf(moves(5, 4, 0, -1)), impl.ErrShort},
		{"of another asset", heldOf(moves(5, 0, 1, -1)), impl.ErrShort},
		{"far too much", heldOf(moves(5, 0, 0, -impl.MaxAmount)), impl.ErrShort},
		{"one above MaxAmount", heldOf(moves(5, 3, 0, 1)), impl.ErrRange},
		{"MaxAmount to who has some", heldOf(moves(5, 0, 0, impl.MaxAmount)), impl.ErrRange},
		{"twice MaxAmount", heldOf(moves(5, 3, 0, impl.MaxAmount)), impl.ErrRange},
		{"leg by leg: range, then short", heldOf(both), impl.ErrRange},
		{"leg by leg: short, then range", heldOf(bothTurned), impl.ErrShort},
		{"held by held: short, then range", heldOf(moves(5, 0, 0, -11), moves(6, 3, 0, 1)), impl.ErrShort},
		{"held by held: range, then short", heldOf(moves(5, 3, 0, 1), moves(6, 0, 0, -11)), impl.ErrRange},
		{"the second one is short", heldOf(moves(5, 0, 0, -1), moves(6, 1, 0, -11)), impl.ErrShort},
		{"two that meet ahead of one that is short", heldOf(moves(5, 0, 0, -11), moves(6, 1, 0, 1), moves(7, 1, 0, 1)), impl.ErrTaken},
		{"two that meet and are short", heldOf(moves(5, 0, 0, -11), moves(6, 0, 0, -11)), impl.ErrTaken},
		{"two that meet ahead of one that gives too much", heldOf(moves(5, 3, 0, 1), moves(6, 3, 0, -1)), impl.ErrTaken},
		{"each by itself could be done, both could not", heldOf(moves(5, 0, 0, -6), moves(6, 0, 0, -6)), impl.ErrTaken},
	}
	for _, c := range cases {
		s := impl.Shard{Index: 1, Balances: balances, Votes: manyMarks(len(c.held), 5, 1), Held: c.held}
		checkShardFaulted(t, c.name, s, c.want)
	}
}

// shardFaults spoil a busy shard, in the order in which their codes are asked.
// Each of them leaves what the others spoil in its place.
var shardFaults = []struct {
	name  string
	code  int64
	spoil func(s *impl.Shard)
}{
	{"index", impl.ErrRange, func(s *impl.Shard) { s.Index = 3 }},
	{"19 balances", impl.ErrMany, func(s *impl.Shard) { s.Balances = append(s.Balances, bal(5, 2, 1)) }},
	{"a balance of 0", impl.ErrRange, func(s *impl.Shard) { s.Balances[0].Amount = 0 }},
	{"balances that fall", impl.ErrForm, func(s *impl.Shard) { s.Balances[16], s.Balances[17] = s.Balances[17], s.Balances[16] }},
	{"101 votes", impl.ErrMany, func(s *impl.Shard) { s.Votes = append(s.Votes, manyMarks(94, 100, 2)...) }},
	{"101 held", impl.ErrMany, func(s *impl.Shard) { s.Held = append(s.Held, contractsAt(100, 99)...) }},
	{"101 outcomes", impl.ErrMany, func(s *impl.Shard) { s.Done = append(s.Done, manyMarks(96, 100, 2)...) }},
	{"101 applied", impl.ErrMany, func(s *impl.Shard) { s.Applied = append(s.Applied, numbersFrom(1, 99)...) }},
	{"a vote's value", impl.ErrRange, func(s *impl.Shard) { s.Votes[0].Value = 3 }},
	{"votes that fall", impl.ErrForm, func(s *impl.Shard) { s.Votes[1], s.Votes[2] = s.Votes[2], s.Votes[1] }},
	{"an outcome", impl.ErrRange, func(s *impl.Shard) { s.Done[0].Value = 0 }},
	{"outcomes that fall", impl.ErrForm, func(s *impl.Shard) { s.Done[1], s.Done[2] = s.Done[2], s.Done[1] }},
	{"a held one's legs", impl.ErrMany, func(s *impl.Shard) { s.Held[0].Legs = slices.Repeat(s.Held[0].Legs, 5) }},
	{"held that fall", impl.ErrForm, func(s *impl.Shard) { s.Held[0], s.Held[1] = s.Held[1], s.Held[0] }},
	{"one that is ready and not held", impl.ErrForm, func(s *impl.Shard) { s.Votes = append(s.Votes, mark(maxId, 1)) }},
	{"applied", impl.ErrForm, func(s *impl.Shard) { s.Applied[0] = 5 }},
	{"two that meet", impl.ErrTaken, func(s *impl.Shard) {
		for i := range s.Held[1].Legs {
			s.Held[1].Legs[i].Account, s.Held[1].Legs[i].Asset = s.Held[0].Legs[i].Account, s.Held[0].Legs[i].Asset
		}
	}},
	{"short", impl.ErrShort, func(s *impl.Shard) { s.Held[0].Legs[0].Amount, s.Held[0].Legs[1].Amount = -11, 11 }},
	{"above MaxAmount", impl.ErrRange, func(s *impl.Shard) {
		s.Held[1].Legs[0].Amount, s.Held[1].Legs[1].Amount = impl.MaxAmount, -impl.MaxAmount
	}},
}

// Each fault of a busy shard by itself, and ahead of every later one.
func TestShardFaultsInOrder(t *testing.T) {
	checkShardRight(t, "a busy shard", busyShard())
	for i, first := range shardFaults {
		s := busyShard()
		first.spoil(&s)
		checkShardFaulted(t, first.name, s, first.code)
		for _, later := range shardFaults[i+1:] {
			s := busyShard()
			first.spoil(&s)
			later.spoil(&s)
			checkShardFaulted(t, first.name+", then "+later.name, s, first.code)
		}
	}
}

// grown is a busy shard with a vote more, and with what is held more.
func grown(m impl.Mark, held ...impl.Contract) impl.Shard {
	s := busyShard()
	s.Votes = markedWith(s.Votes, m)
	s.Held = append(s.Held, held...)
	slices.SortFunc(s.Held, func(a, b impl.Contract) int { return int(a.Id - b.Id) })
	return s
}

func TestVoteShard(t *testing.T) {
	cases := []struct {
		name string
		c    impl.Contract
		want int64
	}{
		{"it gives", moves(20, 3, 0, 5), impl.ValueReady},
		{"it takes", moves(20, 3, 0, -5), impl.ValueReady},
		{"it takes all", moves(20, 3, 0, -10), impl.ValueReady},
		{"it takes one too much", moves(20, 3, 0, -11), impl.ValueNot},
		{"it takes far too much", moves(20, 3, 0, -impl.MaxAmount), impl.ValueNot},
		{"it gives up to MaxAmount", moves(20, 3, 0, impl.MaxAmount-10), impl.ValueReady},
		{"it gives one above MaxAmount", moves(20, 3, 0, impl.MaxAmount-9), impl.ValueNot},
		{"it gives MaxAmount", moves(20, 3, 0, impl.MaxAmount), impl.ValueNot},
		{"of one account two assets", contract(20, leg(1, 3, 0, -5), leg(1, 3, 1, 5), leg(0, 3, 0, 5), leg(0, 3, 1, -5)), impl.ValueReady},
		{"the last contract", moves(maxId, 3, 0, 5), impl.ValueReady},
		{"of a held one's account and asset, which takes there", moves(20, 0, 0, -1), impl.ValueNot},
		{"of a held one's account and asset, and gives there", moves(20, 0, 0, 1), impl.ValueNot},
		{"of a held one's account and asset, which gives there", moves(20, 1, 2, 1), impl.ValueNot},
		{"of a held one's account, and another asset", moves(20, 0, 1, -1), impl.ValueReady},
		{"of a held one's asset, and another account", moves(20, 1, 0, -1), impl.ValueReady},
		{"of a held one's account and asset elsewhere", contract(20, leg(0, 0, 0, -1), leg(1, 3, 0, 1)), impl.ValueReady},
		{"only its second leg here meets", contract(20, leg(1, 3, 0, -1), leg(2, 3, 0, 2), leg(1, 0, 0, -1)), impl.ValueNot},
		{"only its second leg here is short", contract(20, leg(1, 3, 0, -1), leg(2, 3, 0, 12), leg(1, 4, 0, -11)), impl.ValueNot},
		{"it would be short elsewhere", contract(20, leg(1, 3, 0, 500), leg(2, 3, 0, -500)), impl.ValueReady},
		{"only here", contract(20, leg(1, 3, 0, 5), leg(1, 4, 0, -5)), impl.ValueReady},
		{"one that is not done, told ahead of its vote", moves(1, 3, 0, 5), impl.ValueNot},
		{"8 legs", chain(20, 8), impl.ValueReady},
	}
	for _, c := range cases {
		want := grown(mark(c.c.Id, c.want))
		if c.want == impl.ValueReady {
			want = grown(mark(c.c.Id, c.want), c.c)
		}
		checkVoted(t, c.name, impl.VoteShard(busyShard(), c.c), c.want, want)
		checkShardResult(t, c.name+", told once more", wantVoteShard(busyShard(), c.c), impl.ShardResult{Vote: c.want, Shard: want})
	}
}

// Eight legs over three shards: each of these asks its own alone.
func TestVoteShardOfManyLegs(t *testing.T) {
	for index := range int64(3) {
		s := impl.Shard{Index: index, Balances: fullShard(9)}
		want := impl.Shard{Index: index, Balances: fullShard(9), Votes: marks(mark(20, 1)), Held: heldOf(chain(20, 8))}
		checkVoted(t, "8 legs", impl.VoteShard(s, chain(20, 8)), impl.ValueReady, want)
		want.Votes, want.Held = marks(mark(20, 2)), nil
		s.Balances, want.Balances = fullShard(impl.MaxAmount), fullShard(impl.MaxAmount)
		checkVoted(t, "8 legs, no room", impl.VoteShard(s, chain(20, 8)), impl.ValueNot, want)
	}
}

// A vote ahead of, between and behind others, held in its place.
func TestVoteShardInItsPlace(t *testing.T) {
	others := heldOf(moves(10, 0, 0, 1), moves(20, 1, 0, 1), moves(30, 2, 0, 1))
	s := impl.Shard{Index: 1, Votes: marks(mark(10, 1), mark(20, 1), mark(30, 1)), Held: others}
	for at, id := range []int64{1, 9, 11, 19, 21, 29, 31, maxId} {
		c, place := moves(id, 4, 0, 1), at/2
		want := impl.Shard{Index: 1, Votes: slices.Insert(slices.Clone(s.Votes), place, mark(id, 1)), Held: slices.Insert(slices.Clone(others), place, c)}
		checkVoted(t, "in its place", impl.VoteShard(s, c), impl.ValueReady, want)
		want = impl.Shard{Index: 1, Votes: slices.Insert(slices.Clone(s.Votes), place, mark(id, 2)), Held: others}
		checkVoted(t, "against, in its place", impl.VoteShard(s, moves(id, 4, 0, -1)), impl.ValueNot, want)
	}
}

// What was voted on is told as it was, whatever is asked for by its number.
func TestVoteShardOnceMore(t *testing.T) {
	s := busyShard()
	for _, m := range s.Votes {
		for _, c := range heldOf(moves(m.Contract, 0, 0, -6), moves(m.Contract, 3, 0, 5), moves(m.Contract, 3, 0, -11), contract(m.Contract, leg(1, 5, 2, 1), leg(1, 4, 2, -1))) {
			checkVoted(t, "once more", impl.VoteShard(s, c), m.Value, s)
		}
		checkShardCode(t, "no leg here", impl.VoteShard(s, contract(m.Contract, leg(0, 3, 0, 5), leg(2, 3, 0, -5))), impl.ErrNone)
		checkShardCode(t, "a fault", impl.VoteShard(s, contract(m.Contract, leg(1, 3, 0, 5), leg(2, 3, 0, -4))), impl.ErrForm)
	}
}

// Done already, with either outcome, though never voted on.
func TestVoteShardBehindADecision(t *testing.T) {
	c := moves(7, 3, 0, 5)
	for _, s := range []impl.Shard{
		{Index: 1, Done: marks(mark(7, 2))},
		{Index: 1, Done: marks(mark(7, 1)), Applied: []int64{7}},
		{Index: 1, Done: marks(mark(6, 2), mark(7, 2), mark(8, 2))},
	} {
		want := cloneShard(s)
		want.Votes = marks(mark(7, 2))
		checkVoted(t, "done already", impl.VoteShard(s, c), impl.ValueNot, want)
	}
	s := impl.Shard{Index: 1, Done: marks(mark(6, 2), mark(8, 2))}
	want := impl.Shard{Index: 1, Votes: marks(mark(7, 1)), Held: heldOf(c), Done: s.Done}
	checkVoted(t, "others are done", impl.VoteShard(s, c), impl.ValueReady, want)
	told := impl.DecideShard(newAt(bal(3, 0, 9)), 7, impl.OutcomeNot).Shard
	checkVoted(t, "decided ahead", impl.VoteShard(told, c), impl.ValueNot, impl.Shard{Index: 1, Balances: bals(bal(3, 0, 9)), Votes: marks(mark(7, 2)), Done: marks(mark(7, 2))})
}

func TestVoteShardCodes(t *testing.T) {
	full := impl.Shard{Index: 1, Balances: fullShard(10), Votes: manyMarks(100, 1, 2)}
	almost := impl.Shard{Index: 1, Balances: fullShard(10), Votes: manyMarks(99, 1, 2)}
	away := contract(101, leg(0, 3, 0, 5), leg(2, 3, 0, -5))
	cases := []struct {
		name string
		s    impl.Shard
		c    impl.Contract
		want int64
	}{
		{"no leg here", newAt(), away, impl.ErrNone},
		{"no leg here, 100 votes", full, away, impl.ErrNone},
		{"no leg here, voted on", full, contract(7, leg(0, 3, 0, 5), leg(2, 3, 0, -5)), impl.ErrNone},
		{"100 votes, not voted on", full, moves(101, 3, 0, 5), impl.ErrMany},
		{"100 votes, not voted on, short", full, moves(101, 3, 0, -11), impl.ErrMany},
		{"100 votes, voted on", full, moves(100, 3, 0, 5), impl.OK},
		{"100 votes, a fault", full, contract(101), impl.ErrMany},
		{"99 votes", almost, moves(101, 3, 0, 5), impl.OK},
		{"99 votes, short", almost, moves(101, 3, 0, -11), impl.OK},
		{"contract 0", newAt(), moves(0, 3, 0, 5), impl.ErrRange},
		{"contract 1", newAt(), moves(1, 3, 0, 5), impl.OK},
		{"contract 10^9", newAt(), moves(maxId, 3, 0, 5), impl.OK},
		{"contract 10^9 and 1", newAt(), moves(maxId+1, 3, 0, 5), impl.ErrRange},
		{"contract far below", full, moves(farLow, 3, 0, 5), impl.ErrRange},
		{"contract far above", full, moves(farHigh, 3, 0, 5), impl.ErrRange},
		{"the zero value", newAt(), impl.Contract{}, impl.ErrRange},
		{"no legs", newAt(), contract(7), impl.ErrMany},
		{"9 legs", newAt(), chain(7, 9), impl.ErrMany},
		{"a leg of 0", newAt(), contract(7, leg(1, 3, 0, 0), leg(0, 3, 0, 0)), impl.ErrForm},
		{"a leg twice", newAt(), contract(7, leg(1, 3, 0, 5), leg(1, 3, 0, -5)), impl.ErrTaken},
		{"not 0 together", newAt(), contract(7, leg(1, 3, 0, 5), leg(0, 3, 0, -4)), impl.ErrForm},
		{"not 0 together, no leg here", newAt(), contract(7, leg(2, 3, 0, 5), leg(0, 3, 0, -4)), impl.ErrForm},
		{"a leg's numbers far out", newAt(), contract(7, leg(1, farHigh, farLow, farLow), leg(farHigh, 3, 0, farHigh)), impl.ErrRange},
	}
	for _, c := range cases {
		got := impl.VoteShard(c.s, c.c)
		checkCode(t, c.name, got.Code, c.want)
		checkShardResult(t, c.name, got, wantVoteShard(c.s, c.c))
	}
}

// decided is a busy shard behind a decision: what was held is not any more.
func decided(m impl.Mark) impl.Shard {
	s := busyShard()
	s.Done = markedWith(s.Done, m)
	s.Held = slices.DeleteFunc(s.Held, func(c impl.Contract) bool { return c.Id == m.Contract })
	return s
}

func TestDecideShardOfHeld(t *testing.T) {
	want := decided(mark(2, 1))
	want.Balances[0].Amount = 4
	want.Applied = []int64{8, 4, 2}
	checkDecided(t, "it takes, done", impl.DecideShard(busyShard(), 2, impl.OutcomeDone), want)
	checkDecided(t, "it takes, not done", impl.DecideShard(busyShard(), 2, impl.OutcomeNot), decided(mark(2, 2)))
	want = decided(mark(6, 1))
	want.Balances[5].Amount = 14
	want.Applied = []int64{8, 4, 6}
	checkDecided(t, "it gives, done", impl.DecideShard(busyShard(), 6, impl.OutcomeDone), want)
	checkDecided(t, "it gives, not done", impl.DecideShard(busyShard(), 6, impl.OutcomeNot), decided(mark(6, 2)))
}

// Balances that come to be 0, come to be there, or come to be MaxAmount, and
// legs elsewhere that change nothing here.
func TestDecideShardBalances(t *testing.T) {
	max := int64(impl.MaxAmount)
	cases := []struct {
		name   string
		before []impl.Balance
		c      impl.Contract
		after  []impl.Balance
	}{
		{"it comes to be 0", bals(bal(1, 1, 5)), moves(7, 1, 1, -5), nil},
		{"it comes to be 0, first of three", bals(bal(1, 1, 5), bal(1, 2, 6), bal(3, 0, 7)), moves(7, 1, 1, -5), bals(bal(1, 2, 6), bal(3, 0, 7))},
		{"it comes to be 0, between", bals(bal(1, 1, 5), bal(1, 2, 6), bal(3, 0, 7)), moves(7, 1, 2, -6), bals(bal(1, 1, 5), bal(3, 0, 7))},
		{"it comes to be 1", bals(bal(1, 1, 5)), moves(7, 1, 1, -4), bals(bal(1, 1, 1))},
		{"it comes to be there", nil, moves(7, 1, 1, 5), bals(bal(1, 1, 5))},
		{"it comes to be there, first of three", bals(bal(1, 2, 6), bal(3, 0, 7)), moves(7, 1, 1, 5), bals(bal(1, 1, 5), bal(1, 2, 6), bal(3, 0, 7))},
		{"it comes to be there, between", bals(bal(1, 1, 5), bal(3, 0, 7)), moves(7, 1, 2, 6), bals(bal(1, 1, 5), bal(1, 2, 6), bal(3, 0, 7))},
		{"it comes to be there, last", bals(bal(1, 1, 5), bal(3, 0, 7)), moves(7, 5, 2, 6), bals(bal(1, 1, 5), bal(3, 0, 7), bal(5, 2, 6))},
		{"up to MaxAmount", bals(bal(1, 1, 5)), moves(7, 1, 1, max-5), bals(bal(1, 1, max))},
		{"MaxAmount comes to be there", nil, moves(7, 1, 1, max), bals(bal(1, 1, max))},
		{"MaxAmount comes to be 0", bals(bal(1, 1, max)), moves(7, 1, 1, -max), nil},
		{"from one to another", bals(bal(1, 1, 5)), contract(7, leg(1, 1, 1, -5), leg(1, 2, 1, 5)), bals(bal(2, 1, 5))},
		{"legs elsewhere", bals(bal(1, 1, 5)), contract(7, leg(0, 1, 1, 4), leg(1, 1, 1, -2), leg(2, 1, 1, -2)), bals(bal(1, 1, 3))},
		{"of two assets", bals(bal(1, 0, 5), bal(1, 1, 5)), contract(7, leg(1, 1, 0, -5), leg(1, 1, 1, 2), leg(0, 1, 0, 5), leg(0, 1, 1, -2)), bals(bal(1, 1, 7))},
	}
	for _, c := range cases {
		voted := impl.VoteShard(newAt(c.before...), c.c)
		held := impl.Shard{Index: 1, Balances: c.before, Votes: marks(mark(7, 1)), Held: heldOf(c.c)}
		checkVoted(t, c.name, voted, impl.ValueReady, held)
		want := impl.Shard{Index: 1, Balances: c.after, Votes: marks(mark(7, 1)), Done: marks(mark(7, 1)), Applied: []int64{7}}
		checkDecided(t, c.name+", done", impl.DecideShard(voted.Shard, 7, impl.OutcomeDone), want)
		want = impl.Shard{Index: 1, Balances: c.before, Votes: marks(mark(7, 1)), Done: marks(mark(7, 2))}
		checkDecided(t, c.name+", not done", impl.DecideShard(voted.Shard, 7, impl.OutcomeNot), want)
	}
}

func TestDecideShardOfOthers(t *testing.T) {
	checkDecided(t, "voted against, not done", impl.DecideShard(busyShard(), 3, impl.OutcomeNot), decided(mark(3, 2)))
	checkShardCode(t, "voted against, done", impl.DecideShard(busyShard(), 3, impl.OutcomeDone), impl.ErrForm)
	for _, id := range []int64{9, 20, maxId} {
		checkDecided(t, "never voted on, not done", impl.DecideShard(busyShard(), id, impl.OutcomeNot), decided(mark(id, 2)))
		checkShardCode(t, "never voted on, done", impl.DecideShard(busyShard(), id, impl.OutcomeDone), impl.ErrForm)
	}
	for _, m := range busyShard().Done {
		checkDecided(t, "the same outcome", impl.DecideShard(busyShard(), m.Contract, m.Value), busyShard())
		checkShardCode(t, "another outcome", impl.DecideShard(busyShard(), m.Contract, 3-m.Value), impl.ErrTaken)
	}
	for _, s := range []impl.Shard{{Done: marks(mark(7, 1)), Applied: []int64{7}}, {Votes: marks(mark(7, 2)), Done: marks(mark(7, 1)), Applied: []int64{7}}} {
		checkDecided(t, "done, and was never ready", impl.DecideShard(s, 7, impl.OutcomeDone), s)
		checkShardCode(t, "done, and was never ready, another outcome", impl.DecideShard(s, 7, impl.OutcomeNot), impl.ErrTaken)
	}
}

func TestDecideShardCodes(t *testing.T) {
	full := impl.Shard{Index: 1, Votes: marks(mark(500, 1), mark(600, 2)), Held: heldOf(moves(500, 0, 0, 1)), Done: manyMarks(100, 1, 2)}
	almost := cloneShard(full)
	almost.Done = manyMarks(99, 1, 2)
	cases := []struct {
		name              string
		s                 impl.Shard
		contract, outcome int64
		want              int64
	}{
		{"contract far below", busyShard(), farLow, 1, impl.ErrRange},
		{"contract -1", busyShard(), -1, 2, impl.ErrRange},
		{"contract 0", busyShard(), 0, 2, impl.ErrRange},
		{"contract 1", impl.Shard{}, 1, 2, impl.OK},
		{"contract 10^9", busyShard(), maxId, 2, impl.OK},
		{"contract 10^9 and 1", busyShard(), maxId + 1, 2, impl.ErrRange},
		{"contract far above", busyShard(), farHigh, 2, impl.ErrRange},
		{"outcome far below", busyShard(), 2, farLow, impl.ErrRange},
		{"outcome -1", busyShard(), 2, -1, impl.ErrRange},
		{"outcome 0", busyShard(), 2, 0, impl.ErrRange},
		{"outcome 3", busyShard(), 2, 3, impl.ErrRange},
		{"outcome far above", busyShard(), 2, farHigh, impl.ErrRange},
		{"outcome 0 of what is Done", busyShard(), 4, 0, impl.ErrRange},
		{"outcome 3 of what is Done", busyShard(), 4, 3, impl.ErrRange},
		{"outcome 0 of what was never told", busyShard(), 20, 0, impl.ErrRange},
		{"both", full, 0, 0, impl.ErrRange},
		{"100 Done: held, done", full, 500, 1, impl.ErrMany},
		{"100 Done: held, not done", full, 500, 2, impl.ErrMany},
		{"100 Done: voted against, not done", full, 600, 2, impl.ErrMany},
		{"100 Done: voted against, done", full, 600, 1, impl.ErrForm},
		{"100 Done: never voted on, not done", full, 700, 2, impl.ErrMany},
		{"100 Done: never voted on, done", full, 700, 1, impl.ErrForm},
		{"100 Done: the same outcome", full, 100, 2, impl.OK},
		{"100 Done: another outcome", full, 100, 1, impl.ErrTaken},
		{"100 Done: outcome 3", full, 500, 3, impl.ErrRange},
		{"99 Done: held, done", almost, 500, 1, impl.OK},
		{"99 Done: held, not done", almost, 500, 2, impl.OK},
		{"99 Done: never voted on, not done", almost, 700, 2, impl.OK},
		{"99 Done: never voted on, done", almost, 700, 1, impl.ErrForm},
	}
	for _, c := range cases {
		got := impl.DecideShard(c.s, c.contract, c.outcome)
		checkCode(t, c.name, got.Code, c.want)
		checkShardResult(t, c.name, got, wantDecideShard(c.s, c.contract, c.outcome))
	}
}

// Applied stand in the order in which they were told, not by their numbers.
func TestAppliedInOrder(t *testing.T) {
	s := newAt()
	for _, c := range contractsAt(1, 5) {
		s = impl.VoteShard(s, c).Shard
	}
	order := []int64{4, 1, 5, 2}
	for i, id := range order {
		s = impl.DecideShard(s, id, impl.OutcomeDone).Shard
		s = impl.DecideShard(s, 100+id, impl.OutcomeNot).Shard
		s = impl.DecideShard(s, id, impl.OutcomeDone).Shard
		if !slices.Equal(s.Applied, order[:i+1]) {
			t.Errorf("applied %v, want %v", s.Applied, order[:i+1])
		}
	}
	checkDecided(t, "not done", impl.DecideShard(s, 3, impl.OutcomeNot), impl.Shard{
		Index: 1, Balances: bals(bal(0, 0, 1), bal(0, 1, 1), bal(1, 0, 1), bal(1, 1, 1)), Votes: manyMarks(5, 1, 1), Applied: order,
		Done: marks(mark(1, 1), mark(2, 1), mark(3, 2), mark(4, 1), mark(5, 1), mark(101, 2), mark(102, 2), mark(104, 2), mark(105, 2)),
	})
}

func TestFreeOf(t *testing.T) {
	s := impl.Shard{
		Index:    1,
		Balances: bals(bal(0, 0, 10), bal(1, 0, 10), bal(2, 0, 10), bal(3, 0, 10), bal(4, 0, impl.MaxAmount), bal(5, 2, 7)),
		Votes:    marks(mark(2, 1), mark(3, 1), mark(4, 1), mark(5, 1), mark(6, 2), mark(7, 1)),
		Held: heldOf(
			contract(2, leg(0, 1, 0, -2), leg(1, 0, 0, -4), leg(2, 1, 0, 6)),
			contract(3, leg(1, 2, 0, 5), leg(0, 3, 0, -2), leg(2, 3, 0, -3)),
			contract(4, leg(1, 3, 0, -10), leg(1, 3, 1, 3), leg(0, 0, 0, 10), leg(0, 0, 1, -3)),
			contract(5, leg(1, 4, 0, -impl.MaxAmount), leg(2, 0, 0, impl.MaxAmount)),
		),
		Done: marks(mark(7, 2)),
	}
	cases := []struct {
		name           string
		account, asset int64
		want           impl.IntResult
	}{
		{"a leg below 0 is held", 0, 0, impl.IntResult{Value: 6}},
		{"legs elsewhere are held", 1, 0, impl.IntResult{Value: 10}},
		{"a leg above 0 is held", 2, 0, impl.IntResult{Value: 10}},
		{"all of it is held", 3, 0, impl.IntResult{Value: 0}},
		{"of what there is none, a leg above 0 is held", 3, 1, impl.IntResult{Value: 0}},
		{"MaxAmount is held", 4, 0, impl.IntResult{Value: 0}},
		{"nothing is held", 5, 2, impl.IntResult{Value: 7}},
		{"there is none", 5, 1, impl.IntResult{Value: 0}},
		{"account -1", -1, 0, impl.IntResult{Code: impl.ErrRange}},
		{"account 6", 6, 0, impl.IntResult{Code: impl.ErrRange}},
		{"asset -1", 0, -1, impl.IntResult{Code: impl.ErrRange}},
		{"asset 3", 0, 3, impl.IntResult{Code: impl.ErrRange}},
		{"account far below", farLow, 0, impl.IntResult{Code: impl.ErrRange}},
		{"account far above", farHigh, 0, impl.IntResult{Code: impl.ErrRange}},
		{"asset far below", 0, farLow, impl.IntResult{Code: impl.ErrRange}},
		{"asset far above", 0, farHigh, impl.IntResult{Code: impl.ErrRange}},
	}
	checkShardRight(t, "FreeOf", s)
	for _, c := range cases {
		checkNumber(t, c.name, impl.FreeOf(s, c.account, c.asset), c.want)
		checkNumber(t, c.name+", told once more", wantFreeOf(s, c.account, c.asset), c.want)
	}
	after := impl.DecideShard(s, 2, impl.OutcomeNot).Shard
	checkNumber(t, "not held any more", impl.FreeOf(after, 0, 0), impl.IntResult{Value: 10})
	after = impl.DecideShard(s, 2, impl.OutcomeDone).Shard
	checkNumber(t, "done", impl.FreeOf(after, 0, 0), impl.IntResult{Value: 6})
}

func TestInDoubt(t *testing.T) {
	checkNumbers(t, "a new one", impl.InDoubt(newAt(bal(0, 0, 1))), impl.IntsResult{})
	checkNumbers(t, "nothing is held any more", impl.InDoubt(impl.Shard{Votes: marks(mark(3, 1), mark(4, 2)), Done: marks(mark(3, 1)), Applied: []int64{3}}), impl.IntsResult{})
	checkNumbers(t, "two", impl.InDoubt(busyShard()), impl.IntsResult{List: []int64{2, 6}})
	many := impl.Shard{Index: 1, Votes: manyMarks(18, 5, 1), Held: contractsAt(5, 18)}
	checkNumbers(t, "18", impl.InDoubt(many), impl.IntsResult{List: numbersFrom(5, 18)})
}

func TestShardText(t *testing.T) {
	max := impl.Shard{Index: 2, Balances: bals(bal(5, 2, impl.MaxAmount)), Votes: marks(mark(maxId, 2)), Done: marks(mark(maxId, 2))}
	several := impl.Shard{
		Index: 1, Balances: bals(bal(0, 0, 10), bal(1, 2, 7)), Votes: marks(mark(2, 1), mark(3, 2), mark(4, 1), mark(6, 1)),
		Held: heldOf(moves(2, 0, 0, -6), moves(6, 1, 2, 4)), Done: marks(mark(1, 2), mark(4, 1)), Applied: []int64{4},
	}
	cases := []struct {
		name string
		s    impl.Shard
		want string
	}{
		{"the zero value", impl.Shard{}, "shard 0\n"},
		{"a balance", newAt(bal(3, 1, 20)), "shard 1\nhas 3 1 20\n"},
		{"a vote", impl.Shard{Votes: marks(mark(3, 2))}, "shard 0\nvote 3 2\n"},
		{"held", impl.Shard{Index: 1, Votes: marks(mark(3, 1)), Held: heldOf(moves(3, 0, 0, 1))}, "shard 1\nvote 3 1\nheld 3\n"},
		{"done", impl.Shard{Done: marks(mark(3, 1)), Applied: []int64{3}}, "shard 0\ndone 3 1\n"},
		{"numbers at their ends", max, "shard 2\nhas 5 2 1000000000000\nvote 1000000000 2\ndone 1000000000 2\n"},
		{"several of each", several, "shard 1\nhas 0 0 10\nhas 1 2 7\nvote 2 1\nvote 3 2\nvote 4 1\nvote 6 1\nheld 2\nheld 6\ndone 1 2\ndone 4 1\n"},
	}
	for _, c := range cases {
		checkText(t, c.name, impl.ShardText(c.s), impl.TextResult{Text: c.want})
		checkText(t, c.name+", told once more", wantShardText(c.s), impl.TextResult{Text: c.want})
	}
}
