package tests

import (
	"slices"
	"testing"

	"loop.example/g00203/impl"
)

func TestBallotConstants(t *testing.T) {
	if impl.MaxBallot != 1000 || impl.ValueNone != 0 || impl.ValueReady != 1 || impl.ValueNot != 2 {
		t.Errorf("MaxBallot %d, ValueNone %d, ValueReady %d, ValueNot %d", impl.MaxBallot, impl.ValueNone, impl.ValueReady, impl.ValueNot)
	}
}

// placeCases are contracts and shards by themselves; a slot that is there and
// a new one have the same code of them.
var placeCases = []struct {
	name            string
	contract, shard int64
	want            int64
}{
	{"zero values", 0, 0, impl.ErrRange},
	{"contract far below", farLow, 0, impl.ErrRange},
	{"contract -1", -1, 0, impl.ErrRange},
	{"contract 1", 1, 0, impl.OK},
	{"contract 10^9", maxId, 0, impl.OK},
	{"contract 10^9 and 1", maxId + 1, 0, impl.ErrRange},
	{"contract far above", farHigh, 0, impl.ErrRange},
	{"shard far below", 1, farLow, impl.ErrRange},
	{"shard -1", 1, -1, impl.ErrRange},
	{"shard 1", 1, 1, impl.OK},
	{"shard MaxShards less 1", 1, impl.MaxShards - 1, impl.OK},
	{"shard MaxShards", 1, impl.MaxShards, impl.ErrRange},
	{"shard far above", 1, farHigh, impl.ErrRange},
	{"both at their ends", maxId, impl.MaxShards - 1, impl.OK},
	{"both out", 0, -1, impl.ErrRange},
}

func TestPlacesOfSlots(t *testing.T) {
	for _, c := range placeCases {
		made := impl.NewSlot(c.contract, c.shard)
		if c.want != impl.OK {
			checkSlotCode(t, c.name+", new", made, c.want)
			checkSlotFaulted(t, c.name+", there", elsewhere(castOf(ready(3)), c.contract, c.shard), c.want)
			continue
		}
		empty := impl.Slot{Contract: c.contract, Shard: c.shard, Promised: -1, Last: impl.Vote{Ballot: -1, Value: 0}}
		checkSlot(t, c.name+", new", made, impl.Vote{}, empty)
		checkCode(t, c.name+", there", impl.SlotFault(elsewhere(castOf(ready(3)), c.contract, c.shard)), impl.OK)
	}
}

func TestPromisedOfSlots(t *testing.T) {
	cases := map[int64]int64{
		farLow: impl.ErrRange, -2: impl.ErrRange, -1: impl.OK, 0: impl.OK, 5: impl.OK,
		maxBallot: impl.OK, maxBallot + 1: impl.ErrRange, farHigh: impl.ErrRange,
	}
	for promised, want := range cases {
		checkCode(t, "nothing cast", impl.SlotFault(slotOf(promised)), want)
		if want != impl.OK {
			checkSlotFaulted(t, "promised out of bounds", slotOf(promised), want)
			checkSlotFaulted(t, "promised out of bounds, a vote cast", slotOf(promised, ready(3)), want)
		}
	}
	checkCode(t, "promised what it cast", impl.SlotFault(slotOf(3, ready(3))), impl.OK)
	checkCode(t, "promised more than it cast", impl.SlotFault(slotOf(4, ready(3))), impl.OK)
	checkCode(t, "promised and cast MaxBallot", impl.SlotFault(slotOf(maxBallot, ready(maxBallot))), impl.OK)
	checkSlotFaulted(t, "promised less than it cast", slotOf(2, ready(3)), impl.ErrForm)
	checkSlotFaulted(t, "promised nothing and cast", slotOf(-1, ready(0)), impl.ErrForm)
}

func TestCastFaults(t *testing.T) {
	cases := []struct {
		name string
		cast []impl.Vote
		want int64
	}{
		{"nil", nil, impl.OK},
		{"empty", []impl.Vote{}, impl.OK},
		{"ballot far below", votes(ready(farLow)), impl.ErrRange},
		{"ballot -1", votes(ready(-1)), impl.ErrRange},
		{"ballot 0", votes(ready(0)), impl.OK},
		{"ballot MaxBallot", votes(not(maxBallot)), impl.OK},
		{"ballot MaxBallot and 1", votes(not(maxBallot + 1)), impl.ErrRange},
		{"ballot far above", votes(not(farHigh)), impl.ErrRange},
		{"value far below", votes(vote(3, farLow)), impl.ErrRange},
		{"value -1", votes(vote(3, -1)), impl.ErrRange},
		{"value 0", votes(vote(3, 0)), impl.ErrRange},
		{"value 1", votes(vote(3, 1)), impl.OK},
		{"value 2", votes(vote(3, 2)), impl.OK},
		{"value 3", votes(vote(3, 3)), impl.ErrRange},
		{"value far above", votes(vote(3, farHigh)), impl.ErrRange},
		{"none, which is no vote", votes(noVote()), impl.ErrRange},
		{"none behind a vote", votes(ready(0), noVote()), impl.ErrRange},
		{"ballots that rise", votes(ready(0), not(1), ready(7), not(maxBallot)), impl.OK},
		{"a ballot that falls", votes(ready(3), ready(2)), impl.ErrForm},
		{"a ballot that falls to one of another value", votes(ready(3), not(2)), impl.ErrForm},
		{"a ballot that falls later", votes(ready(3), ready(5), ready(9), ready(5)), impl.ErrForm},
		{"the same ballot and value", votes(ready(3), ready(3)), impl.OK},
		{"the same ballot and value over and over", votes(ready(0), not(3), not(3), not(3), ready(4)), impl.OK},
		{"the same ballot, another value", votes(ready(3), not(3)), impl.ErrForm},
		{"the same ballot, the other way round", votes(not(3), ready(3)), impl.ErrForm},
		{"the same ballot, another value later", votes(ready(3), ready(3), not(3)), impl.ErrForm},
		{"60", manyVotes(60, 0, 1), impl.OK},
		{"60 up to MaxBallot", manyVotes(60, maxBallot-59, 2), impl.OK},
		{"60 that are the same", slices.Repeat(votes(ready(4)), 60), impl.OK},
		{"61", manyVotes(61, 0, 1), impl.ErrMany},
		{"61 that are the same", slices.Repeat(votes(ready(4)), 61), impl.ErrMany},
		{"61, none of them right", make([]impl.Vote, 61), impl.ErrMany},
		{"60, none of them right", make([]impl.Vote, 60), impl.ErrRange},
		{"very many", make([]impl.Vote, 5000), impl.ErrMany},
		{"vote by vote: range, then form", votes(vote(3, 3), ready(5), ready(4)), impl.ErrRange},
		{"vote by vote: form, then range", votes(ready(5), ready(4), vote(6, 3)), impl.ErrForm},
		{"vote by vote: another value, then range", votes(ready(5), not(5), ready(-1)), impl.ErrForm},
		{"a vote's own range ahead of its order", votes(ready(5), vote(4, 3)), impl.ErrRange},
		{"a vote's own range ahead of another value", votes(ready(5), vote(5, 0)), impl.ErrRange},
	}
	for _, c := range cases {
		s := slotOf(maxBallot, c.cast...)
		checkCode(t, c.name, impl.SlotFault(s), c.want)
		checkCode(t, c.name+", told once more", wantSlotFault(s), c.want)
		if c.want != impl.OK {
			checkSlotFaulted(t, c.name, s, c.want)
		}
	}
}

func TestLastOfSlots(t *testing.T) {
	cases := []struct {
		name string
		last impl.Vote
		cast []impl.Vote
		want int64
	}{
		{"none of none", noVote(), nil, impl.OK},
		{"the zero value of none", impl.Vote{}, nil, impl.ErrForm},
		{"ballot -1 with a value of none", vote(-1, 1), nil, impl.ErrForm},
		{"ballot -1 with a wrong value of none", vote(-1, 3), nil, impl.ErrForm},
		{"ballot -2 of none", vote(-2, 0), nil, impl.ErrForm},
		{"a vote of none", ready(3), nil, impl.ErrForm},
		{"far out of none", vote(farLow, farHigh), nil, impl.ErrForm},
		{"the one that was cast", ready(3), votes(ready(3)), impl.OK},
		{"none of one", noVote(), votes(ready(3)), impl.ErrForm},
		{"the zero value of one", impl.Vote{}, votes(ready(0)), impl.ErrForm},
		{"another value", not(3), votes(ready(3)), impl.ErrForm},
		{"another ballot", ready(4), votes(ready(3)), impl.ErrForm},
		{"far out of one", vote(farHigh, farLow), votes(ready(3)), impl.ErrForm},
		{"the last of three", not(9), votes(ready(3), ready(4), not(9)), impl.OK},
		{"the first of three", ready(3), votes(ready(3), ready(4), not(9)), impl.ErrForm},
		{"the middle one of three", ready(4), votes(ready(3), ready(4), not(9)), impl.ErrForm},
		{"of some that are the same", ready(4), votes(ready(3), ready(4), ready(4)), impl.OK},
		{"the 60th", ready(59), manyVotes(60, 0, 1), impl.OK},
		{"the 59th", ready(58), manyVotes(60, 0, 1), impl.ErrForm},
	}
	for _, c := range cases {
		s := slotOf(maxBallot, c.cast...)
		s.Last = c.last
		checkCode(t, c.name, impl.SlotFault(s), c.want)
		checkCode(t, c.name+", told once more", wantSlotFault(s), c.want)
		if c.want != impl.OK {
			checkSlotFaulted(t, c.name, s, c.want)
		}
	}
}

func TestSlotFaultsInOrder(t *testing.T) {
	wrong := impl.Slot{Contract: 7, Shard: 1, Promised: 5, Last: ready(9), Cast: votes(ready(3))}
	cases := []struct {
		name  string
		s     impl.Slot
		spoil func(s *impl.Slot)
		want  int64
	}{
		{"zero value", impl.Slot{}, func(s *impl.Slot) {}, impl.ErrRange},
		{"contract ahead of many", wrong, func(s *impl.Slot) { s.Contract, s.Cast = 0, make([]impl.Vote, 61) }, impl.ErrRange},
		{"shard ahead of many", wrong, func(s *impl.Slot) { s.Shard, s.Cast = 3, make([]impl.Vote, 61) }, impl.ErrRange},
		{"promised ahead of many", wrong, func(s *impl.Slot) { s.Promised, s.Cast = -2, make([]impl.Vote, 61) }, impl.ErrRange},
		{"promised ahead of a vote's form", wrong, func(s *impl.Slot) { s.Promised, s.Cast = 1001, votes(ready(3), ready(2)) }, impl.ErrRange},
		{"many ahead of a vote's range", wrong, func(s *impl.Slot) { s.Cast = slices.Repeat(votes(ready(-1)), 61) }, impl.ErrMany},
		{"many ahead of a vote's form", wrong, func(s *impl.Slot) { s.Cast = append(manyVotes(60, 5, 1), ready(0)) }, impl.ErrMany},
		{"a vote's range ahead of Last", wrong, func(s *impl.Slot) { s.Cast = votes(ready(3), vote(4, 0)) }, impl.ErrRange},
		{"a vote's range ahead of Promised that is less", slotOf(2, ready(3), vote(1001, 1)), func(s *impl.Slot) {}, impl.ErrRange},
		{"only Last is wrong", wrong, func(s *impl.Slot) {}, impl.ErrForm},
		{"only Promised is less", wrong, func(s *impl.Slot) { s.Promised, s.Last = 2, ready(3) }, impl.ErrForm},
		{"all right", wrong, func(s *impl.Slot) { s.Last = ready(3) }, impl.OK},
	}
	for _, c := range cases {
		s := cloneSlot(c.s)
		c.spoil(&s)
		checkCode(t, c.name, impl.SlotFault(s), c.want)
		checkCode(t, c.name+", told once more", wantSlotFault(s), c.want)
		if c.want != impl.OK {
			checkSlotFaulted(t, c.name, s, c.want)
		}
	}
}

func TestPromiseSlot(t *testing.T) {
	cast := votes(not(0), ready(3))
	cases := []struct {
		name   string
		s      impl.Slot
		ballot int64
		old    impl.Vote
	}{
		{"the first one, 0", slotOf(-1), 0, noVote()},
		{"the first one, 5", slotOf(-1), 5, noVote()},
		{"the first one, MaxBallot", slotOf(-1), maxBallot, noVote()},
		{"the same, nothing cast", slotOf(5), 5, noVote()},
		{"the same, 0", slotOf(0), 0, noVote()},
		{"the same, MaxBallot", slotOf(maxBallot), maxBallot, noVote()},
		{"one above, nothing cast", slotOf(5), 6, noVote()},
		{"the same that was cast", slotOf(3, cast...), 3, ready(3)},
		{"the same, above what was cast", slotOf(5, cast...), 5, ready(3)},
		{"one above what was cast", slotOf(3, cast...), 4, ready(3)},
		{"one above", slotOf(5, cast...), 6, ready(3)},
		{"MaxBallot", slotOf(5, cast...), maxBallot, ready(3)},
		{"the last vote is not", castOf(ready(2), not(3)), 9, not(3)},
		{"60 cast", castOf(manyVotes(60, 0, 1)...), 60, ready(59)},
		{"one vote over and over", castOf(ready(3), ready(3)), 4, ready(3)},
	}
	for _, c := range cases {
		want := cloneSlot(c.s)
		want.Promised = c.ballot
		once := impl.PromiseSlot(c.s, c.ballot)
		checkSlot(t, c.name, once, c.old, want)
		checkSlot(t, c.name+", twice", impl.PromiseSlot(once.Slot, c.ballot), c.old, want)
	}
}

func TestPromiseSlotCodes(t *testing.T) {
	cases := []struct {
		name   string
		s      impl.Slot
		ballot int64
		want   int64
	}{
		{"far below", slotOf(-1), farLow, impl.ErrRange},
		{"-1, nothing promised", slotOf(-1), -1, impl.ErrRange},
		{"-1, ahead of busy", slotOf(5), -1, impl.ErrRange},
		{"far below, ahead of busy", slotOf(5, ready(5)), farLow, impl.ErrRange},
		{"MaxBallot and 1", slotOf(5), maxBallot + 1, impl.ErrRange},
		{"far above", slotOf(5), farHigh, impl.ErrRange},
		{"one below", slotOf(5), 4, impl.ErrBusy},
		{"0 below 1", slotOf(1), 0, impl.ErrBusy},
		{"one below MaxBallot", slotOf(maxBallot), maxBallot - 1, impl.ErrBusy},
		{"below, above what was cast", slotOf(5, ready(3)), 4, impl.ErrBusy},
		{"below, what was cast", slotOf(5, ready(3)), 3, impl.ErrBusy},
		{"below what was cast", slotOf(3, ready(3)), 2, impl.ErrBusy},
	}
	for _, c := range cases {
		checkSlotCode(t, c.name, impl.PromiseSlot(c.s, c.ballot), c.want)
		checkSlotCode(t, c.name+", told once more", wantPromiseSlot(c.s, c.ballot), c.want)
	}
}

func TestAcceptSlot(t *testing.T) {
	cases := []struct {
		name string
		s    impl.Slot
		v    impl.Vote
		old  impl.Vote
		want impl.Slot
	}{
		{"the first one, 0", slotOf(-1), ready(0), noVote(), slotOf(0, ready(0))},
		{"the first one, not", slotOf(-1), not(0), noVote(), slotOf(0, not(0))},
		{"the first one, MaxBallot", slotOf(-1), not(maxBallot), noVote(), slotOf(maxBallot, not(maxBallot))},
		{"the first one, promised", slotOf(5), ready(5), noVote(), slotOf(5, ready(5))},
		{"the first one, above what was promised", slotOf(5), ready(8), noVote(), slotOf(8, ready(8))},
		{"promised", slotOf(5, not(3)), ready(5), not(3), slotOf(5, not(3), ready(5))},
		{"above what was promised", slotOf(5, not(3)), ready(6), not(3), slotOf(6, not(3), ready(6))},
		{"above what was cast", slotOf(3, not(3)), not(4), not(3), slotOf(4, not(3), not(4))},
		{"the same once more", slotOf(3, not(3)), not(3), not(3), slotOf(3, not(3))},
		{"the last of several once more", slotOf(9, ready(0), not(3), ready(9)), ready(9), ready(9), slotOf(9, ready(0), not(3), ready(9))},
		{"once more what stands there twice", slotOf(3, not(3), not(3)), not(3), not(3), slotOf(3, not(3), not(3))},
		{"behind what stands there twice", slotOf(3, not(3), not(3)), not(4), not(3), slotOf(4, not(3), not(3), not(4))},
		{"the 60th", castOf(manyVotes(59, 0, 1)...), ready(59), ready(58), castOf(manyVotes(60, 0, 1)...)},
		{"the 60th, MaxBallot", castOf(manyVotes(59, 0, 1)...), ready(maxBallot), ready(58), castOf(append(manyVotes(59, 0, 1), ready(maxBallot))...)},
		{"the 60th once more", castOf(manyVotes(60, 0, 1)...), ready(59), ready(59), castOf(manyVotes(60, 0, 1)...)},
	}
	for _, c := range cases {
		once := impl.AcceptSlot(c.s, c.v.Ballot, c.v.Value)
		checkSlot(t, c.name, once, c.old, c.want)
		checkSlot(t, c.name+", twice", impl.AcceptSlot(once.Slot, c.v.Ballot, c.v.Value), c.v, c.want)
		checkSlotCode(t, c.name+", then the other value", impl.AcceptSlot(once.Slot, c.v.Ballot, 3-c.v.Value), impl.ErrTaken)
	}
}

func TestAcceptSlotCodes(t *testing.T) {
	full := castOf(manyVotes(60, 0, 1)...)
	promised := slotOf(70, manyVotes(60, 0, 1)...)
	cases := []struct {
		name string
		s    impl.Slot
		v    impl.Vote
		want int64
	}{
		{"ballot far below", slotOf(-1), ready(farLow), impl.ErrRange},
		{"ballot -1", slotOf(-1), ready(-1), impl.ErrRange},
		{"none, which is Last", slotOf(-1), noVote(), impl.ErrRange},
		{"ballot MaxBallot and 1", slotOf(-1), ready(maxBallot + 1), impl.ErrRange},
		{"ballot far above", slotOf(-1), ready(farHigh), impl.ErrRange},
		{"value far below", slotOf(-1), vote(3, farLow), impl.ErrRange},
		{"value -1", slotOf(-1), vote(3, -1), impl.ErrRange},
		{"value 0", slotOf(-1), vote(3, 0), impl.ErrRange},
		{"value 3", slotOf(-1), vote(3, 3), impl.ErrRange},
		{"value far above", slotOf(-1), vote(3, farHigh), impl.ErrRange},
		{"ballot -1, ahead of busy", slotOf(5), ready(-1), impl.ErrRange},
		{"value 3, ahead of busy", slotOf(5), vote(4, 3), impl.ErrRange},
		{"value 0, ahead of taken", slotOf(5, ready(5)), vote(5, 0), impl.ErrRange},
		{"value 3, ahead of many", full, vote(80, 3), impl.ErrRange},
		{"one below what was promised", slotOf(5), ready(4), impl.ErrBusy},
		{"one below MaxBallot", slotOf(maxBallot), not(maxBallot - 1), impl.ErrBusy},
		{"one below what was cast", slotOf(5, ready(5)), ready(4), impl.ErrBusy},
		{"between what was cast and promised", slotOf(5, ready(3)), ready(4), impl.ErrBusy},
		{"what was cast, below what was promised", slotOf(5, ready(3)), ready(3), impl.ErrBusy},
		{"what was cast, another value, below what was promised", slotOf(5, ready(3)), not(3), impl.ErrBusy},
		{"what was cast earlier", slotOf(5, ready(3), ready(5)), ready(3), impl.ErrBusy},
		{"another value", slotOf(5, ready(5)), not(5), impl.ErrTaken},
		{"another value the other way round", slotOf(5, not(5)), ready(5), impl.ErrTaken},
		{"another value in ballot 0", slotOf(0, not(0)), ready(0), impl.ErrTaken},
		{"the 61st", full, ready(60), impl.ErrMany},
		{"the 61st, MaxBallot", full, not(maxBallot), impl.ErrMany},
		{"the 61st, promised", promised, ready(70), impl.ErrMany},
		{"the 61st of one vote over and over", castOf(slices.Repeat(votes(ready(4)), 60)...), ready(5), impl.ErrMany},
		{"busy ahead of many", promised, ready(69), impl.ErrBusy},
		{"taken ahead of many", full, not(59), impl.ErrTaken},
	}
	for _, c := range cases {
		checkSlotCode(t, c.name, impl.AcceptSlot(c.s, c.v.Ballot, c.v.Value), c.want)
		checkSlotCode(t, c.name+", told once more", wantAcceptSlot(c.s, c.v.Ballot, c.v.Value), c.want)
	}
}

func TestQuorumOf(t *testing.T) {
	for i, want := range []int64{1, 2, 2, 3, 3, 4, 4, 5, 5} {
		checkNumber(t, "QuorumOf", impl.QuorumOf(int64(i)+1), impl.IntResult{Value: want})
	}
	for _, n := range []int64{farLow, -9, -1, 0, 10, 11, farHigh} {
		checkNumber(t, "QuorumOf of too few or many", impl.QuorumOf(n), impl.IntResult{Code: impl.ErrRange})
	}
}

func TestChosenIn(t *testing.T) {
	none, three := slotOf(4), castOf(ready(3))
	cases := []struct {
		name  string
		slots []impl.Slot
		want  impl.Vote
	}{
		{"1 of 1", slotsOf(three), ready(3)},
		{"1 of 1 that promised more", slotsOf(slotOf(8, ready(3))), ready(3)},
		{"not", slotsOf(castOf(not(3))), not(3)},
		{"ballot 0", slotsOf(castOf(not(0))), not(0)},
		{"MaxBallot", slotsOf(castOf(not(maxBallot))), not(maxBallot)},
		{"2 of 2", slotsOf(three, three), ready(3)},
		{"2 of 3", slotsOf(three, none, three), ready(3)},
		{"3 of 4", slotsOf(three, none, three, three), ready(3)},
		{"3 of 5", slotsOf(none, none, three, three, three), ready(3)},
		{"5 of 9", append(manySlots(4, none), manySlots(5, three)...), ready(3)},
		{"9 of 9", manySlots(9, three), ready(3)},
		{"the least of 1", slotsOf(castOf(not(2), ready(5), not(9))), not(2)},
		{"the least of several", slotsOf(castOf(ready(1), not(4), not(6)), castOf(not(2), not(4), not(6)), castOf(not(6))), not(4)},
		{"the least, that others cast later", slotsOf(castOf(ready(6)), castOf(ready(2), ready(6)), castOf(ready(2))), ready(2)},
		{"what is not Last any more", slotsOf(castOf(ready(2), not(5)), castOf(ready(2), not(6)), none), ready(2)},
		{"two values in one ballot, one by most", slotsOf(castOf(ready(3)), castOf(not(3)), castOf(not(3))), not(3)},
		{"one vote over and over beside others", slotsOf(castOf(not(2), not(2), not(2)), castOf(ready(3)), castOf(ready(3))), ready(3)},
		{"60 of each", manySlots(9, castOf(manyVotes(60, 3, 1)...)), ready(3)},
		{"only the 60th is common", slotsOf(castOf(append(manyVotes(59, 0, 1), not(200))...), castOf(append(manyVotes(59, 100, 1), not(200))...)), not(200)},
	}
	for _, c := range cases {
		checkChosen(t, c.name, c.slots, c.want)
		slices.Reverse(c.slots)
		checkChosen(t, c.name+", the other way round", c.slots, c.want)
	}
}

func TestChosenInNone(t *testing.T) {
	none, three := slotOf(4), castOf(ready(3))
	cases := map[string][]impl.Slot{
		"1 new one":                            slotsOf(slotOf(-1)),
		"9 new ones":                           manySlots(9, slotOf(-1)),
		"1 of 2":                               slotsOf(three, none),
		"1 of 3":                               slotsOf(none, three, none),
		"2 of 4":                               slotsOf(three, none, three, none),
		"2 of 5":                               slotsOf(three, none, three, none, none),
		"4 of 8":                               append(manySlots(4, three), manySlots(4, none)...),
		"4 of 9":                               append(manySlots(4, three), manySlots(5, none)...),
		"the same value in three ballots":      slotsOf(castOf(ready(1)), castOf(ready(2)), castOf(ready(3))),
		"one ballot, two values":               slotsOf(castOf(ready(3)), castOf(not(3)), none),
		"one vote of one slot over and over":   slotsOf(castOf(ready(3), ready(3), ready(3)), none, none),
		"one vote of one slot 60 times":        append(manySlots(8, none), castOf(slices.Repeat(votes(not(3)), 60)...)),
		"one vote of two slots over and over":  slotsOf(castOf(ready(3), ready(3)), castOf(ready(3), ready(3)), none, none),
		"all promised what one cast":           slotsOf(slotOf(3), slotOf(3), three),
		"the same ballots, always other votes": slotsOf(castOf(ready(1), ready(2)), castOf(not(1), not(2))),
	}
	for name, slots := range cases {
		checkChosenCode(t, name, slots, impl.ErrNone)
		checkAgree(t, name, slots, true)
	}
}

func TestSlotsTogetherCodes(t *testing.T) {
	three, new1 := castOf(ready(3)), slotOf(-1)
	range1 := elsewhere(three, 0, 1)
	many1 := castOf(manyVotes(61, 0, 1)...)
	form1 := slotOf(2, ready(3))
	cases := []struct {
		name  string
		slots []impl.Slot
		want  int64
	}{
		{"nil", nil, impl.ErrMany},
		{"0", []impl.Slot{}, impl.ErrMany},
		{"10", manySlots(10, three), impl.ErrMany},
		{"10 new ones", manySlots(10, new1), impl.ErrMany},
		{"very many", manySlots(5000, three), impl.ErrMany},
		{"two contracts", slotsOf(three, elsewhere(three, 8, 1)), impl.ErrForm},
		{"two shards", slotsOf(three, elsewhere(three, 7, 2)), impl.ErrForm},
		{"another contract and shard", slotsOf(three, elsewhere(three, 1, 0)), impl.ErrForm},
		{"another contract at the end", append(manySlots(8, three), elsewhere(three, maxId, 1)), impl.ErrForm},
		{"another shard in the middle", slotsOf(three, three, elsewhere(three, 7, 0), three), impl.ErrForm},
		{"two contracts of new ones, ahead of none", slotsOf(new1, elsewhere(new1, 8, 1)), impl.ErrForm},
		{"10 of two contracts", append(manySlots(9, three), elsewhere(three, 8, 1)), impl.ErrMany},
		{"a wrong one alone", slotsOf(range1), impl.ErrRange},
		{"a wrong one among others", slotsOf(three, three, form1), impl.ErrForm},
		{"wrong ones, range first", slotsOf(three, range1, many1, form1), impl.ErrRange},
		{"wrong ones, many first", slotsOf(many1, range1, form1, three), impl.ErrMany},
		{"wrong ones, form first", slotsOf(three, form1, range1, many1), impl.ErrForm},
		{"a wrong one behind two contracts", slotsOf(three, elsewhere(three, 8, 1), range1), impl.ErrRange},
		{"a wrong one among 10", append(manySlots(9, three), range1), impl.ErrRange},
		{"a wrong one first among 10", append(slotsOf(form1), manySlots(9, three)...), impl.ErrForm},
		{"10 zero values", make([]impl.Slot, 10), impl.ErrRange},
	}
	for _, c := range cases {
		checkChosenCode(t, c.name, c.slots, c.want)
		checkAgree(t, c.name, c.slots, false)
		checkCode(t, c.name+", told once more", wantChosenIn(c.slots).Code, c.want)
	}
}

func TestAgreeSlots(t *testing.T) {
	cases := []struct {
		name  string
		slots []impl.Slot
		want  bool
	}{
		{"one vote", slotsOf(castOf(ready(3)), castOf(ready(3)), slotOf(5)), true},
		{"one value by two ballots", manySlots(2, castOf(ready(3), ready(5))), true},
		{"one value by two ballots of others", slotsOf(castOf(not(3), not(5)), castOf(not(3)), castOf(not(5))), true},
		{"two values", manySlots(2, castOf(ready(3), not(5))), false},
		{"two values of 1", slotsOf(castOf(not(0), ready(1))), false},
		{"two values by others", slotsOf(castOf(ready(3), not(5)), castOf(ready(3)), castOf(not(5))), false},
		{"two values, the first one twice", manySlots(3, castOf(ready(3), ready(5), not(8))), false},
		{"two values, one by too few", slotsOf(castOf(ready(3), not(5)), castOf(ready(3)), castOf(ready(4))), true},
		{"two values, both by too few", slotsOf(castOf(ready(3)), castOf(not(5)), slotOf(9)), true},
		{"two values, one over and over by too few", slotsOf(castOf(ready(3), not(5), not(5)), castOf(ready(3)), slotOf(9)), true},
		{"60 of one value", manySlots(9, castOf(manyVotes(60, 0, 1)...)), true},
		{"59 of one value, then another", manySlots(9, castOf(append(manyVotes(59, 0, 1), not(60))...)), false},
	}
	for _, c := range cases {
		checkAgree(t, c.name, c.slots, c.want)
		slices.Reverse(c.slots)
		checkAgree(t, c.name+", the other way round", c.slots, c.want)
	}
	wrong := slotsOf(castOf(ready(3)), castOf(ready(3)), slotOf(2, ready(3)))
	checkAgree(t, "a slot with a fault", wrong, false)
	checkAgree(t, "without it", wrong[:2], true)
}

func TestPickValue(t *testing.T) {
	cases := []struct {
		name string
		old  []impl.Vote
		own  int64
		want int64
	}{
		{"no votes, own 1", nil, 1, 1},
		{"no votes, own 2", []impl.Vote{}, 2, 2},
		{"one that is none", votes(noVote()), 1, 1},
		{"all are none", slices.Repeat(votes(noVote()), 9), 2, 2},
		{"one", votes(ready(0)), 2, 1},
		{"one the other way round", votes(not(0)), 1, 2},
		{"MaxBallot", votes(not(maxBallot)), 1, 2},
		{"one among none", votes(noVote(), ready(0), noVote()), 2, 1},
		{"the greatest first", votes(not(5), ready(4), ready(3)), 1, 2},
		{"the greatest last", votes(ready(3), ready(4), not(5)), 1, 2},
		{"the greatest between", votes(ready(3), noVote(), not(5), ready(4)), 1, 2},
		{"two of the greatest", votes(ready(3), not(5), ready(5)), 1, 2},
		{"two of the greatest, the other way round", votes(ready(3), ready(5), not(5)), 2, 1},
		{"two of the greatest that are the same", votes(not(5), not(5)), 1, 2},
		{"9 votes", append(manyVotes(8, 0, 1), not(8)), 1, 2},
		{"9 of one ballot", append(votes(not(8)), slices.Repeat(votes(ready(8)), 8)...), 1, 2},
	}
	for _, c := range cases {
		checkNumber(t, c.name, impl.PickValue(c.old, c.own), impl.IntResult{Value: c.want})
		checkNumber(t, c.name+", told once more", wantPickValue(c.old, c.own), impl.IntResult{Value: c.want})
	}
}

func TestPickValueCodes(t *testing.T) {
	for _, old := range [][]impl.Vote{manyVotes(10, 0, 1), slices.Repeat(votes(noVote()), 10), make([]impl.Vote, 10), make([]impl.Vote, 5000)} {
		for _, own := range []int64{farLow, 0, 1, 2, 3, farHigh} {
			checkNumber(t, "too many", impl.PickValue(old, own), impl.IntResult{Code: impl.ErrMany})
		}
	}
	wrong := votes(
		impl.Vote{}, vote(-1, 1), vote(-1, 2), vote(-1, 3), vote(-2, 0), ready(-2), ready(farLow), ready(maxBallot+1), not(farHigh),
		vote(0, 0), vote(5, -1), vote(5, 3), vote(5, farLow), vote(5, farHigh), vote(farLow, farHigh), vote(maxBallot+1, 0),
	)
	for _, v := range wrong {
		for _, own := range []int64{0, 1, 2, 3} {
			for _, old := range [][]impl.Vote{{v}, {ready(5), v}, {v, ready(5)}, {noVote(), v, noVote()}, append(manyVotes(8, 0, 1), v)} {
				checkNumber(t, "a wrong vote", impl.PickValue(old, own), impl.IntResult{Code: impl.ErrRange})
			}
		}
	}
	for _, own := range []int64{farLow, -1, 0, 3, farHigh} {
		for _, old := range [][]impl.Vote{nil, {noVote()}, {ready(5)}, manyVotes(9, 0, 2)} {
			checkNumber(t, "a wrong own", impl.PickValue(old, own), impl.IntResult{Code: impl.ErrRange})
		}
	}
}
