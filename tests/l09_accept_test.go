package tests

import (
	"slices"
	"testing"

	"loop.example/g00203/impl"
)

func TestAcceptorConstants(t *testing.T) {
	if impl.MaxAcceptors != 5 || impl.MaxSlots != 60 {
		t.Errorf("MaxAcceptors %d, MaxSlots %d", impl.MaxAcceptors, impl.MaxSlots)
	}
}

func TestAcceptorFault(t *testing.T) {
	s, wrong := castOf(ready(3)), slotOf(2, ready(3))
	at := func(contract, shard int64) impl.Slot { return elsewhere(s, contract, shard) }
	cases := []struct {
		name  string
		slots []impl.Slot
		want  int64
	}{
		{"nil", nil, impl.OK},
		{"empty", []impl.Slot{}, impl.OK},
		{"one", slotsOf(s), impl.OK},
		{"one that cast nothing", slotsOf(slotOf(-1)), impl.OK},
		{"60", manyPlaces(60, 1), impl.OK},
		{"60 up to the last contract", manyPlaces(60, maxId-19), impl.OK},
		{"61", manyPlaces(61, 1), impl.ErrMany},
		{"very many", manyPlaces(5000, 1), impl.ErrMany},
		{"61 zero values", make([]impl.Slot, 61), impl.ErrMany},
		{"61 that are one", manySlots(61, s), impl.ErrMany},
		{"61, the first one wrong", append(slotsOf(wrong), manyPlaces(60, 8)...), impl.ErrMany},
		{"60 zero values", make([]impl.Slot, 60), impl.ErrRange},
		{"60 that are one", manySlots(60, s), impl.ErrForm},
		{"a zero value", make([]impl.Slot, 1), impl.ErrRange},
		{"three shards of a contract", slotsOf(at(7, 0), at(7, 1), at(7, 2)), impl.OK},
		{"contracts that rise", slotsOf(at(1, 0), at(7, 0), at(maxId, 0)), impl.OK},
		{"shards that fall by contracts that rise", slotsOf(at(7, 2), at(8, 1), at(9, 0)), impl.OK},
		{"contracts that fall", slotsOf(at(8, 1), at(7, 1)), impl.ErrForm},
		{"contracts that fall by shards that rise", slotsOf(at(8, 0), at(7, 2)), impl.ErrForm},
		{"shards that fall", slotsOf(at(7, 1), at(7, 0)), impl.ErrForm},
		{"shards that fall far behind", append(manyPlaces(58, 1), at(40, 2), at(40, 1)), impl.ErrForm},
		{"twice", slotsOf(s, s), impl.ErrForm},
		{"twice, with other votes", slotsOf(s, castOf(not(5))), impl.ErrForm},
		{"twice, others between", slotsOf(s, at(8, 1), s), impl.ErrForm},
		{"the last two are one", append(manyPlaces(59, 1), at(20, 1)), impl.ErrForm},
		{"a wrong one alone", slotsOf(wrong), impl.ErrForm},
		{"a wrong one last", append(manyPlaces(59, 1), at(40, 3)), impl.ErrRange},
		{"many votes between", slotsOf(at(6, 1), castOf(manyVotes(61, 0, 1)...), at(8, 1)), impl.ErrMany},
		{"60 votes between", slotsOf(at(6, 1), castOf(manyVotes(60, 0, 1)...), at(8, 1)), impl.OK},
		{"slot by slot: order, then range", slotsOf(at(8, 1), at(7, 1), at(0, 1)), impl.ErrForm},
		{"slot by slot: range, then order", slotsOf(at(8, 3), at(7, 1), at(6, 1)), impl.ErrRange},
		{"slot by slot: many, then order, then range", slotsOf(castOf(manyVotes(61, 0, 1)...), at(6, 1), at(0, 1)), impl.ErrMany},
		{"a slot's own fault ahead of its order", slotsOf(at(8, 1), elsewhere(castOf(vote(3, 3)), 7, 1)), impl.ErrRange},
		{"a slot's own many ahead of its order", slotsOf(at(8, 1), castOf(manyVotes(61, 0, 1)...)), impl.ErrMany},
		{"numbers far out", slotsOf(at(farLow, farHigh), at(farHigh, farLow)), impl.ErrRange},
		{"numbers far out behind a right one", slotsOf(s, at(farHigh, farHigh)), impl.ErrRange},
	}
	for _, c := range cases {
		a := acceptorOf(c.slots...)
		checkCode(t, c.name, impl.AcceptorFault(a), c.want)
		checkCode(t, c.name+", told once more", wantAcceptorFault(a), c.want)
		if c.want != impl.OK {
			checkAcceptorFaulted(t, c.name, a, c.want)
		}
	}
}

// The edges of contracts and shards: of a slot that is there, and of one that
// is asked for.
func TestPlacesOfAcceptors(t *testing.T) {
	for _, c := range placeCases {
		there := acceptorOf(elsewhere(castOf(ready(3)), c.contract, c.shard))
		if c.want == impl.OK {
			checkCode(t, c.name, impl.AcceptorFault(there), impl.OK)
			checkAcceptor(t, c.name+": PromiseAt", impl.PromiseAt(impl.Acceptor{}, c.contract, c.shard, 5), noVote(), elsewhere(slotOf(5), c.contract, c.shard))
			checkAcceptor(t, c.name+": AcceptAt", impl.AcceptAt(impl.Acceptor{}, c.contract, c.shard, 5, 2), noVote(), elsewhere(castOf(not(5)), c.contract, c.shard))
			checkSlotsResult(t, c.name, impl.SlotsFor(newAcceptors(1), c.contract, c.shard), impl.SlotsResult{Slots: slotsOf(elsewhere(slotOf(-1), c.contract, c.shard))})
			checkNumber(t, c.name, impl.ChosenAt(acceptorsOf(there), c.contract, c.shard), impl.IntResult{Value: 1})
			continue
		}
		checkAcceptorFaulted(t, c.name, there, c.want)
		// Also of one that has no room for a slot more.
		for _, a := range acceptorsOf(impl.Acceptor{}, acceptorOf(castOf(ready(3))), crowded()) {
			checkAcceptorCode(t, c.name+": PromiseAt", impl.PromiseAt(a, c.contract, c.shard, 5), c.want)
			checkAcceptorCode(t, c.name+": AcceptAt", impl.AcceptAt(a, c.contract, c.shard, 5, 1), c.want)
			list := acceptorsOf(a, impl.Acceptor{})
			checkSlotsResult(t, c.name, impl.SlotsFor(list, c.contract, c.shard), impl.SlotsResult{Code: c.want})
			checkNumber(t, c.name, impl.ChosenAt(list, c.contract, c.shard), impl.IntResult{Code: c.want})
			for _, reached := range [][]int64{nil, {0}, {0, 1}, {1, 0}, {0, 0}, {2}} {
				checkBallot(t, c.name, impl.RunBallot(list, reached, c.contract, c.shard, 5, 1), impl.AcceptorsResult{Code: c.want})
			}
		}
	}
}

// neighbours are slots around that of contract 7 and shard 1.
func neighbours() (ahead, behind []impl.Slot) {
	ahead = slotsOf(elsewhere(castOf(not(9)), 1, 2), elsewhere(slotOf(8, ready(4)), 7, 0))
	behind = slotsOf(elsewhere(castOf(ready(1), not(6)), 7, 2), elsewhere(slotOf(-1), maxId, 0))
	return ahead, behind
}

func TestPromiseAt(t *testing.T) {
	ahead, behind := neighbours()
	for _, own := range slotsOf(slotOf(-1), slotOf(3), slotOf(4, not(0), ready(3))) {
		after := cloneSlot(own)
		after.Promised = 6
		rest := [][2][]impl.Slot{{nil, nil}, {ahead, nil}, {nil, behind}, {ahead, behind}, {ahead[:1], behind[1:]}}
		for _, r := range rest {
			want := slices.Concat(r[0], slotsOf(after), r[1])
			there := acceptorOf(slices.Concat(r[0], slotsOf(own), r[1])...)
			checkAcceptor(t, "it is there", impl.PromiseAt(there, 7, 1, 6), own.Last, want...)
			if own.Promised == -1 {
				checkAcceptor(t, "it is not there", impl.PromiseAt(acceptorOf(slices.Concat(r[0], r[1])...), 7, 1, 6), noVote(), want...)
			}
		}
	}
}

func TestAcceptAt(t *testing.T) {
	ahead, behind := neighbours()
	for _, own := range slotsOf(slotOf(-1), slotOf(6), slotOf(4, not(0), ready(3)), castOf(ready(3), not(6))) {
		after := cloneSlot(own)
		after.Promised, after.Last = 6, not(6)
		if own.Last != not(6) {
			after.Cast = append(after.Cast, not(6))
		}
		rest := [][2][]impl.Slot{{nil, nil}, {ahead, nil}, {nil, behind}, {ahead, behind}, {ahead[:1], behind[1:]}}
		for _, r := range rest {
			want := slices.Concat(r[0], slotsOf(after), r[1])
			there := acceptorOf(slices.Concat(r[0], slotsOf(own), r[1])...)
			checkAcceptor(t, "it is there", impl.AcceptAt(there, 7, 1, 6, 2), own.Last, want...)
			if own.Promised == -1 {
				checkAcceptor(t, "it is not there", impl.AcceptAt(acceptorOf(slices.Concat(r[0], r[1])...), 7, 1, 6, 2), noVote(), want...)
			}
		}
	}
}

// Every slot of a full acceptor, and every place of one that is missing there.
func TestEveryPlaceOfAnAcceptor(t *testing.T) {
	all := manyPlaces(60, 1)
	for at, s := range all {
		promised, accepted := cloneSlot(s), castOf(ready(3), not(5))
		promised.Promised = 5
		accepted = elsewhere(accepted, s.Contract, s.Shard)
		with := func(own impl.Slot) []impl.Slot { return slices.Replace(slices.Clone(all), at, at+1, own) }
		full := acceptorOf(all...)
		checkAcceptor(t, "promise of one of 60", impl.PromiseAt(full, s.Contract, s.Shard, 5), ready(3), with(promised)...)
		checkAcceptor(t, "vote of one of 60", impl.AcceptAt(full, s.Contract, s.Shard, 5, 2), ready(3), with(accepted)...)
		fewer := acceptorOf(slices.Delete(slices.Clone(all), at, at+1)...)
		checkAcceptor(t, "promise of the 60th", impl.PromiseAt(fewer, s.Contract, s.Shard, 5), noVote(), with(elsewhere(slotOf(5), s.Contract, s.Shard))...)
		checkAcceptor(t, "vote of the 60th", impl.AcceptAt(fewer, s.Contract, s.Shard, 5, 2), noVote(), with(elsewhere(castOf(not(5)), s.Contract, s.Shard))...)
	}
}

func TestPromiseAtCodes(t *testing.T) {
	cases := []struct {
		name   string
		a      impl.Acceptor
		ballot int64
		want   int64
	}{
		{"of nothing, far below", impl.Acceptor{}, farLow, impl.ErrRange},
		{"of nothing, -1", impl.Acceptor{}, -1, impl.ErrRange},
		{"of nothing, 0", impl.Acceptor{}, 0, impl.OK},
		{"of nothing, MaxBallot", impl.Acceptor{}, maxBallot, impl.OK},
		{"of nothing, MaxBallot and 1", impl.Acceptor{}, maxBallot + 1, impl.ErrRange},
		{"of nothing, far above", impl.Acceptor{}, farHigh, impl.ErrRange},
		{"-1, ahead of busy", acceptorOf(slotOf(5)), -1, impl.ErrRange},
		{"one below", acceptorOf(slotOf(5)), 4, impl.ErrBusy},
		{"the same", acceptorOf(slotOf(5)), 5, impl.OK},
		{"another slot promised more", acceptorOf(elsewhere(slotOf(9), 7, 0), elsewhere(slotOf(9), 8, 1)), 5, impl.OK},
		{"60 votes cast", acceptorOf(castOf(manyVotes(60, 0, 1)...)), 60, impl.OK},
		{"no room", crowded(), 5, impl.ErrMany},
		{"no room, 0", crowded(), 0, impl.ErrMany},
		{"no room, and -1", crowded(), -1, impl.ErrRange},
		{"no room, and MaxBallot and 1", crowded(), maxBallot + 1, impl.ErrRange},
		{"no room, and far above", crowded(), farHigh, impl.ErrRange},
		{"one of 60", crowdedBeside(slotOf(5)), 5, impl.OK},
		{"one of 60, one below", crowdedBeside(slotOf(5)), 4, impl.ErrBusy},
		{"one of 60, -1", crowdedBeside(slotOf(5)), -1, impl.ErrRange},
	}
	for _, c := range cases {
		got, want := impl.PromiseAt(c.a, 7, 1, c.ballot), wantPromiseAt(c.a, 7, 1, c.ballot)
		checkCode(t, c.name, got.Code, c.want)
		checkAcceptorResult(t, c.name, got, want)
	}
}

func TestAcceptAtCodes(t *testing.T) {
	full := castOf(manyVotes(60, 0, 1)...)
	cases := []struct {
		name string
		a    impl.Acceptor
		v    impl.Vote
		want int64
	}{
		{"of nothing, ballot far below", impl.Acceptor{}, ready(farLow), impl.ErrRange},
		{"of nothing, ballot -1", impl.Acceptor{}, ready(-1), impl.ErrRange},
		{"of nothing, ballot 0", impl.Acceptor{}, not(0), impl.OK},
		{"of nothing, MaxBallot", impl.Acceptor{}, ready(maxBallot), impl.OK},
		{"of nothing, MaxBallot and 1", impl.Acceptor{}, ready(maxBallot + 1), impl.ErrRange},
		{"of nothing, ballot far above", impl.Acceptor{}, ready(farHigh), impl.ErrRange},
		{"of nothing, value far below", impl.Acceptor{}, vote(5, farLow), impl.ErrRange},
		{"of nothing, value 0", impl.Acceptor{}, vote(5, 0), impl.ErrRange},
		{"of nothing, value 1", impl.Acceptor{}, vote(5, 1), impl.OK},
		{"of nothing, value 2", impl.Acceptor{}, vote(5, 2), impl.OK},
		{"of nothing, value 3", impl.Acceptor{}, vote(5, 3), impl.ErrRange},
		{"of nothing, value far above", impl.Acceptor{}, vote(5, farHigh), impl.ErrRange},
		{"value 3, ahead of busy", acceptorOf(slotOf(5)), vote(4, 3), impl.ErrRange},
		{"one below what was promised", acceptorOf(slotOf(5)), ready(4), impl.ErrBusy},
		{"another value", acceptorOf(castOf(ready(5))), not(5), impl.ErrTaken},
		{"the same", acceptorOf(castOf(ready(5))), ready(5), impl.OK},
		{"other slots promised more", acceptorOf(elsewhere(slotOf(9), 7, 0), elsewhere(slotOf(9), 8, 1)), ready(5), impl.OK},
		{"other slots voted otherwise", acceptorOf(elsewhere(castOf(not(5)), 7, 0), elsewhere(castOf(not(5)), 8, 1)), ready(5), impl.OK},
		{"the 61st vote", acceptorOf(full), ready(60), impl.ErrMany},
		{"the 60th vote once more", acceptorOf(full), ready(59), impl.OK},
		{"no room", crowded(), ready(5), impl.ErrMany},
		{"no room, and ballot -1", crowded(), ready(-1), impl.ErrRange},
		{"no room, and MaxBallot and 1", crowded(), ready(maxBallot + 1), impl.ErrRange},
		{"no room, and value 0", crowded(), vote(5, 0), impl.ErrRange},
		{"no room, and value 3", crowded(), vote(5, 3), impl.ErrRange},
		{"one of 60", crowdedBeside(slotOf(5)), ready(5), impl.OK},
		{"one of 60, one below", crowdedBeside(slotOf(5)), ready(4), impl.ErrBusy},
		{"one of 60, another value", crowdedBeside(castOf(ready(5))), not(5), impl.ErrTaken},
		{"one of 60, value 3", crowdedBeside(castOf(ready(5))), vote(5, 3), impl.ErrRange},
		{"one of 60, the 61st vote", crowdedBeside(full), not(60), impl.ErrMany},
	}
	for _, c := range cases {
		got, want := impl.AcceptAt(c.a, 7, 1, c.v.Ballot, c.v.Value), wantAcceptAt(c.a, 7, 1, c.v.Ballot, c.v.Value)
		checkCode(t, c.name, got.Code, c.want)
		checkAcceptorResult(t, c.name, got, want)
	}
}

func TestListCodes(t *testing.T) {
	right := acceptorOf(castOf(ready(3)))
	many := acceptorOf(manyPlaces(61, 1)...)
	form := acceptorOf(castOf(ready(3)), castOf(ready(3)))
	far := acceptorOf(elsewhere(castOf(ready(3)), farHigh, farLow))
	cases := []struct {
		name string
		list []impl.Acceptor
		want int64
	}{
		{"nil", nil, impl.ErrMany},
		{"empty", []impl.Acceptor{}, impl.ErrMany},
		{"6", slices.Repeat(acceptorsOf(right), 6), impl.ErrMany},
		{"6 new ones", newAcceptors(6), impl.ErrMany},
		{"very many", newAcceptors(5000), impl.ErrMany},
		{"6, with faults", acceptorsOf(form, far, many, form, far, many), impl.ErrMany},
		{"many first", acceptorsOf(right, many, form, far), impl.ErrMany},
		{"form first", acceptorsOf(form, far, many), impl.ErrForm},
		{"range first", acceptorsOf(far, many, form), impl.ErrRange},
		{"the last of 5", append(newAcceptors(4), form), impl.ErrForm},
	}
	for _, c := range cases {
		checkListFaulted(t, c.name, c.list, c.want)
		checkCode(t, c.name+", told once more", wantListFault(c.list), c.want)
	}
	for n := 1; n <= impl.MaxAcceptors; n++ {
		checkCode(t, "right ones", impl.SlotsFor(slices.Repeat(acceptorsOf(right), n), 7, 1).Code, impl.OK)
		checkCode(t, "new ones", impl.SlotsFor(newAcceptors(n), 7, 1).Code, impl.OK)
	}
}

func TestSlotsFor(t *testing.T) {
	ahead, behind := neighbours()
	own, other := slotOf(9, ready(3), not(5)), castOf(not(5))
	with := acceptorOf(slices.Concat(ahead, slotsOf(own), behind)...)
	without := acceptorOf(slices.Concat(ahead, behind)...)
	cases := []struct {
		name string
		list []impl.Acceptor
		want []impl.Slot
	}{
		{"new ones", newAcceptors(5), manySlots(5, slotOf(-1))},
		{"one that has it", acceptorsOf(acceptorOf(own)), slotsOf(own)},
		{"one that has others", acceptorsOf(without), slotsOf(slotOf(-1))},
		{"some", acceptorsOf(without, with, impl.Acceptor{}, acceptorOf(other), crowded()), slotsOf(slotOf(-1), own, slotOf(-1), other, slotOf(-1))},
		{"all", acceptorsOf(acceptorOf(other), with), slotsOf(other, own)},
		{"full ones", acceptorsOf(crowdedBeside(own), crowded(), crowdedBeside(other)), slotsOf(own, slotOf(-1), other)},
	}
	for _, c := range cases {
		checkSlotsResult(t, c.name, impl.SlotsFor(c.list, 7, 1), impl.SlotsResult{Slots: c.want})
		checkSlotsResult(t, c.name+", told once more", wantSlotsFor(c.list, 7, 1), impl.SlotsResult{Slots: c.want})
	}
	full := acceptorOf(manyPlaces(60, 1)...)
	for _, s := range full.Slots {
		got := impl.SlotsFor(acceptorsOf(impl.Acceptor{}, full), s.Contract, s.Shard)
		checkSlotsResult(t, "each of 60", got, impl.SlotsResult{Slots: slotsOf(elsewhere(slotOf(-1), s.Contract, s.Shard), s)})
	}
}

func TestChosenAt(t *testing.T) {
	ahead, behind := neighbours()
	beside := func(s impl.Slot) impl.Acceptor { return acceptorOf(slices.Concat(ahead, slotsOf(s), behind)...) }
	none, three := impl.Acceptor{}, beside(castOf(ready(3)))
	cases := []struct {
		name string
		list []impl.Acceptor
		want impl.IntResult
	}{
		{"new ones", newAcceptors(5), impl.IntResult{Code: impl.ErrNone}},
		{"one of one", acceptorsOf(three), impl.IntResult{Value: 1}},
		{"one of two", acceptorsOf(three, none), impl.IntResult{Code: impl.ErrNone}},
		{"two of two", acceptorsOf(three, three), impl.IntResult{Value: 1}},
		{"one of three", acceptorsOf(none, three, none), impl.IntResult{Code: impl.ErrNone}},
		{"two of three", acceptorsOf(none, three, three), impl.IntResult{Value: 1}},
		{"two of four", acceptorsOf(none, three, three, none), impl.IntResult{Code: impl.ErrNone}},
		{"three of four", acceptorsOf(three, three, none, three), impl.IntResult{Value: 1}},
		{"two of five", acceptorsOf(three, none, none, three, none), impl.IntResult{Code: impl.ErrNone}},
		{"three of five", acceptorsOf(three, none, three, three, none), impl.IntResult{Value: 1}},
		{"not", acceptorsOf(beside(castOf(not(3))), beside(castOf(ready(1), not(3))), none), impl.IntResult{Value: 2}},
		{"two values in one ballot", acceptorsOf(three, beside(castOf(not(3))), none), impl.IntResult{Code: impl.ErrNone}},
		{"one value in two ballots", acceptorsOf(three, beside(castOf(ready(4))), none), impl.IntResult{Code: impl.ErrNone}},
		{"promised and not voted", acceptorsOf(three, beside(slotOf(3)), beside(slotOf(3))), impl.IntResult{Code: impl.ErrNone}},
		{"one vote over and over", acceptorsOf(beside(castOf(ready(3), ready(3), ready(3))), none, none), impl.IntResult{Code: impl.ErrNone}},
		{"what is not Last any more", acceptorsOf(beside(castOf(ready(3), not(5))), beside(castOf(ready(3), not(6))), none), impl.IntResult{Value: 1}},
		{"the least ballot of two", acceptorsOf(beside(castOf(not(2), ready(5))), beside(castOf(not(2), ready(5)))), impl.IntResult{Value: 2}},
		{"of other slots alone", acceptorsOf(acceptorOf(ahead...), acceptorOf(ahead...)), impl.IntResult{Code: impl.ErrNone}},
		{"a slot with a fault", acceptorsOf(three, three, beside(slotOf(2, ready(3)))), impl.IntResult{Code: impl.ErrForm}},
		{"another slot with a fault", acceptorsOf(three, three, acceptorOf(elsewhere(slotOf(2, ready(3)), 9, 1))), impl.IntResult{Code: impl.ErrForm}},
	}
	for _, c := range cases {
		checkNumber(t, c.name, impl.ChosenAt(c.list, 7, 1), c.want)
		checkNumber(t, c.name+", told once more", wantChosenAt(c.list, 7, 1), c.want)
	}
	list := acceptorsOf(three, three)
	for _, other := range [][2]int64{{7, 0}, {7, 2}, {1, 2}, {6, 1}, {8, 1}, {maxId, 0}} {
		want := impl.IntResult{Code: impl.ErrNone}
		if chosen := wantChosenIn(wantSlotsFor(list, other[0], other[1]).Slots); chosen.Code == impl.OK {
			want = impl.IntResult{Value: chosen.Vote.Value}
		}
		checkNumber(t, "another place", impl.ChosenAt(list, other[0], other[1]), want)
	}
}

func TestRunBallotCodes(t *testing.T) {
	cases := []struct {
		name        string
		n           int
		reached     []int64
		ballot, own int64
		want        int64
	}{
		{"ballot far below", 3, places(0, 1), farLow, 1, impl.ErrRange},
		{"ballot -1", 3, places(0, 1), -1, 1, impl.ErrRange},
		{"ballot 0", 3, places(0, 1), 0, 1, impl.OK},
		{"MaxBallot", 3, places(0, 1), maxBallot, 2, impl.OK},
		{"MaxBallot and 1", 3, places(0, 1), maxBallot + 1, 1, impl.ErrRange},
		{"ballot far above", 3, places(0, 1), farHigh, 1, impl.ErrRange},
		{"own far below", 3, places(0, 1), 5, farLow, impl.ErrRange},
		{"own 0", 3, places(0, 1), 5, 0, impl.ErrRange},
		{"own 1", 3, places(0, 1), 5, 1, impl.OK},
		{"own 2", 3, places(0, 1), 5, 2, impl.OK},
		{"own 3", 3, places(0, 1), 5, 3, impl.ErrRange},
		{"own far above", 3, places(0, 1), 5, farHigh, impl.ErrRange},
		{"own 0, nobody reached", 3, nil, 5, 0, impl.ErrRange},
		{"ballot -1, nobody reached", 3, nil, -1, 1, impl.ErrRange},
		{"place far below", 3, places(farLow), 5, 1, impl.ErrRange},
		{"place -1", 3, places(-1, 0, 1), 5, 1, impl.ErrRange},
		{"place 0", 1, places(0), 5, 1, impl.OK},
		{"the last place", 3, places(1, 2), 5, 1, impl.OK},
		{"the last of 5", 5, places(2, 3, 4), 5, 1, impl.OK},
		{"one place too far", 3, places(0, 1, 3), 5, 1, impl.ErrRange},
		{"place 5 of 5", 5, places(0, 1, 2, 3, 4, 5), 5, 1, impl.ErrRange},
		{"place far above", 3, places(0, 1, farHigh), 5, 1, impl.ErrRange},
		{"stays", 3, places(0, 0), 5, 1, impl.ErrTaken},
		{"stays later", 3, places(0, 1, 1), 5, 1, impl.ErrTaken},
		{"falls", 3, places(1, 0), 5, 1, impl.ErrTaken},
		{"falls later", 3, places(0, 2, 1), 5, 1, impl.ErrTaken},
		{"all and one twice", 3, places(0, 1, 2, 0), 5, 1, impl.ErrTaken},
		{"very many", 3, slices.Repeat(places(1), 5000), 5, 1, impl.ErrTaken},
		{"own ahead of taken", 3, places(1, 0), 5, 3, impl.ErrRange},
		{"ballot ahead of taken", 3, places(1, 0), -1, 1, impl.ErrRange},
		{"a place behind ones that fall", 3, places(1, 0, 3), 5, 1, impl.ErrRange},
		{"a place behind ones that stay", 3, places(1, 1, -1), 5, 1, impl.ErrRange},
		{"a place that falls", 3, places(2, farLow), 5, 1, impl.ErrRange},
	}
	for _, c := range cases {
		list := newAcceptors(c.n)
		got := impl.RunBallot(list, c.reached, 7, 1, c.ballot, c.own)
		checkCode(t, c.name, got.Code, c.want)
		checkBallot(t, c.name, got, wantRunBallot(list, c.reached, 7, 1, c.ballot, c.own))
		if c.want != impl.OK && len(got.Acceptors) != 0 {
			t.Errorf("%s: acceptors beside a code: %v", c.name, got)
		}
	}
}

// New acceptors, whoever of them is reached: fewer than a quorum promise and
// no more, a quorum and all cast the own value.
func TestRunBallotOfNewAcceptors(t *testing.T) {
	quorums := []int{0, 1, 2, 2, 3, 3}
	for n := 1; n <= impl.MaxAcceptors; n++ {
		for choice := range uint(1) << n {
			reached := placesIn(choice)
			for own := int64(1); own <= 2; own++ {
				want := impl.AcceptorsResult{Code: impl.ErrNone, Acceptors: newAcceptors(n)}
				s := slotOf(4)
				if len(reached) >= quorums[n] {
					want.Code, want.Value, s = impl.OK, own, castOf(vote(4, own))
				}
				for _, at := range reached {
					want.Acceptors[at] = acceptorOf(s)
				}
				checkBallot(t, "of new ones", impl.RunBallot(newAcceptors(n), reached, 7, 1, 4, own), want)
			}
		}
	}
}

func TestRunBallot(t *testing.T) {
	own := func(s impl.Slot) impl.Acceptor { return acceptorOf(s) }
	none := impl.Acceptor{}
	full := manyVotes(60, 0, 1)
	cases := []struct {
		name    string
		list    []impl.Acceptor
		reached []int64
		code    int64
		value   int64
		want    []impl.Acceptor
	}{
		{"a greater promise, no quorum without it", acceptorsOf(own(slotOf(6)), none, none), places(0, 1), impl.ErrNone, 0,
			acceptorsOf(own(slotOf(6)), own(slotOf(5)), none)},
		{"a greater promise, a quorum without it", acceptorsOf(own(slotOf(6)), none, none), places(0, 1, 2), impl.OK, 2,
			acceptorsOf(own(slotOf(6)), own(castOf(not(5))), own(castOf(not(5))))},
		{"a greater vote that did not promise is not picked", acceptorsOf(own(castOf(ready(6))), none, none), places(0, 1, 2), impl.OK, 2,
			acceptorsOf(own(castOf(ready(6))), own(castOf(not(5))), own(castOf(not(5))))},
		{"all have a greater promise", acceptorsOf(own(slotOf(6)), own(slotOf(7))), places(0, 1), impl.ErrNone, 0,
			acceptorsOf(own(slotOf(6)), own(slotOf(7)))},
		{"the same promise", acceptorsOf(own(slotOf(5)), own(slotOf(5)), none), places(0, 1), impl.OK, 2,
			acceptorsOf(own(castOf(not(5))), own(castOf(not(5))), none)},
		{"60 slots, no quorum without it", acceptorsOf(crowded(), none, none), places(0, 1), impl.ErrNone, 0,
			acceptorsOf(crowded(), own(slotOf(5)), none)},
		{"60 slots, a quorum without it", acceptorsOf(crowded(), none, none), places(0, 1, 2), impl.OK, 2,
			acceptorsOf(crowded(), own(castOf(not(5))), own(castOf(not(5))))},
		{"60 slots, the slot among them", acceptorsOf(crowdedBeside(castOf(ready(3))), none, none), places(0, 1), impl.OK, 1,
			acceptorsOf(crowdedBeside(castOf(ready(3), ready(5))), own(castOf(ready(5))), none)},
		{"one voted", acceptorsOf(none, own(castOf(ready(3))), none), places(0, 1), impl.OK, 1,
			acceptorsOf(own(castOf(ready(5))), own(castOf(ready(3), ready(5))), none)},
		{"one voted that is not reached", acceptorsOf(none, own(castOf(ready(3))), none), places(0, 2), impl.OK, 2,
			acceptorsOf(own(castOf(not(5))), own(castOf(ready(3))), own(castOf(not(5))))},
		{"the greatest ballot of those that voted", acceptorsOf(own(castOf(not(3))), own(castOf(ready(4))), own(castOf(not(2)))), places(0, 1, 2), impl.OK, 1,
			acceptorsOf(own(castOf(not(3), ready(5))), own(castOf(ready(4), ready(5))), own(castOf(not(2), ready(5))))},
		{"an earlier vote is not Last any more", acceptorsOf(own(castOf(not(3), ready(4))), none, none), places(0, 2), impl.OK, 1,
			acceptorsOf(own(castOf(not(3), ready(4), ready(5))), none, own(castOf(ready(5))))},
		{"the same ballot once more", acceptorsOf(own(castOf(ready(5))), own(castOf(ready(5))), none), places(1, 2), impl.OK, 1,
			acceptorsOf(own(castOf(ready(5))), own(castOf(ready(5))), own(castOf(ready(5))))},
		{"two values in this ballot, the second one is taken", acceptorsOf(own(castOf(ready(5))), own(castOf(not(5))), none), places(0, 1, 2), impl.OK, 1,
			acceptorsOf(own(castOf(ready(5))), own(castOf(not(5))), own(castOf(ready(5))))},
		{"two values in this ballot, the other way round", acceptorsOf(own(castOf(not(5))), own(castOf(ready(5))), none), places(0, 1, 2), impl.OK, 2,
			acceptorsOf(own(castOf(not(5))), own(castOf(ready(5))), own(castOf(not(5))))},
		{"of other slots nothing is picked", acceptorsOf(own(elsewhere(castOf(ready(3)), 7, 0)), own(elsewhere(castOf(ready(3)), 8, 1))), places(0, 1), impl.OK, 2,
			acceptorsOf(acceptorOf(elsewhere(castOf(ready(3)), 7, 0), castOf(not(5))), acceptorOf(castOf(not(5)), elsewhere(castOf(ready(3)), 8, 1)))},
		{"nobody reached", acceptorsOf(own(castOf(ready(3))), none), nil, impl.ErrNone, 0, acceptorsOf(own(castOf(ready(3))), none)},
	}
	for _, c := range cases {
		want := impl.AcceptorsResult{Code: c.code, Value: c.value, Acceptors: c.want}
		checkBallot(t, c.name, impl.RunBallot(c.list, c.reached, 7, 1, 5, 2), want)
		checkBallot(t, c.name+", told once more", wantRunBallot(c.list, c.reached, 7, 1, 5, 2), want)
	}
	// Without room for one more vote it promised, and its vote stands for what
	// it was.
	got := impl.RunBallot(acceptorsOf(own(castOf(full...)), none, none), places(0, 2), 7, 1, 80, 2)
	checkBallot(t, "60 votes cast", got, impl.AcceptorsResult{Value: 1, Acceptors: acceptorsOf(own(slotOf(80, full...)), none, own(castOf(ready(80))))})
	got = impl.RunBallot(acceptorsOf(own(castOf(full...))), places(0), 7, 1, 59, 2)
	checkBallot(t, "the 60th vote once more", got, impl.AcceptorsResult{Value: 1, Acceptors: acceptorsOf(own(castOf(full...)))})
	got = impl.RunBallot(acceptorsOf(own(castOf(full...))), places(0), 7, 1, 60, 2)
	checkBallot(t, "nobody casts it", got, impl.AcceptorsResult{Value: 1, Acceptors: acceptorsOf(own(slotOf(60, full...)))})
}

// chose are n acceptors all of which cast these values at the shards of
// contract 7, in one ballot; none where it is 0.
func chose(n int, values ...int64) []impl.Acceptor {
	list := newAcceptors(n)
	for i := range list {
		for shard, value := range values {
			if value != impl.ValueNone {
				list[i].Slots = append(list[i].Slots, elsewhere(castOf(vote(3, value)), 7, int64(shard)))
			}
		}
	}
	return list
}

// Every value at every shard, for contracts of every choice of shards.
func TestOutcomeOf(t *testing.T) {
	contracts := []impl.Contract{
		contract(7, leg(0, 0, 0, -5), leg(0, 1, 0, 5)),
		contract(7, leg(2, 0, 0, -5), leg(2, 1, 0, 5)),
		contract(7, leg(1, 0, 0, -5), leg(0, 1, 0, 5)),
		contract(7, leg(2, 0, 0, -5), leg(0, 1, 0, 5)),
		contract(7, leg(1, 0, 0, -5), leg(2, 1, 0, 3), leg(1, 1, 0, 2)),
		contract(7, leg(2, 0, 0, -5), leg(1, 1, 0, 3), leg(0, 1, 0, 2)),
		chain(7, 8),
	}
	told := map[int64]int{}
	for _, c := range contracts {
		for n := 1; n <= impl.MaxAcceptors; n++ {
			for way := range int64(27) {
				list := chose(n, way%3, way/3%3, way/9)
				got, want := impl.OutcomeOf(list, c), wantOutcomeOf(list, c)
				checkNumber(t, "OutcomeOf", got, want)
				told[got.Value]++
			}
			checkNumber(t, "of new ones", impl.OutcomeOf(newAcceptors(n), c), impl.IntResult{Value: impl.OutcomeNone})
			checkNumber(t, "all ready", impl.OutcomeOf(chose(n, 1, 1, 1), c), impl.IntResult{Value: impl.OutcomeDone})
			checkNumber(t, "all not", impl.OutcomeOf(chose(n, 2, 2, 2), c), impl.IntResult{Value: impl.OutcomeNot})
			other := c
			other.Id = 8
			checkNumber(t, "of another contract", impl.OutcomeOf(chose(n, 1, 1, 1), other), impl.IntResult{Value: impl.OutcomeNone})
		}
	}
	if len(told) != 3 || told[0] < 50 || told[1] < 50 || told[2] < 50 {
		t.Errorf("outcomes %v", told)
	}
}

func TestOutcomeOfSingly(t *testing.T) {
	c := contract(7, leg(0, 0, 0, -5), leg(1, 0, 0, 3), leg(2, 0, 0, 2))
	cases := []struct {
		name   string
		values [3]int64
		want   int64
	}{
		{"all are ready", [3]int64{1, 1, 1}, impl.OutcomeDone},
		{"the first one is not", [3]int64{2, 1, 1}, impl.OutcomeNot},
		{"the middle one is not", [3]int64{1, 2, 1}, impl.OutcomeNot},
		{"the last one is not", [3]int64{1, 1, 2}, impl.OutcomeNot},
		{"the first one is not chosen yet", [3]int64{0, 1, 1}, impl.OutcomeNone},
		{"the last one is not chosen yet", [3]int64{1, 1, 0}, impl.OutcomeNone},
		{"not, beside two that are not chosen yet", [3]int64{0, 0, 2}, impl.OutcomeNot},
		{"not, ahead of two that are not chosen yet", [3]int64{2, 0, 0}, impl.OutcomeNot},
		{"one of each", [3]int64{0, 1, 2}, impl.OutcomeNot},
		{"one of each, the other way round", [3]int64{2, 1, 0}, impl.OutcomeNot},
	}
	for _, x := range cases {
		list := chose(3, x.values[:]...)
		checkNumber(t, x.name, impl.OutcomeOf(list, c), impl.IntResult{Value: x.want})
		list[1] = impl.Acceptor{}
		checkNumber(t, x.name+", two of three", impl.OutcomeOf(list, c), impl.IntResult{Value: x.want})
		list[2] = impl.Acceptor{}
		checkNumber(t, x.name+", one of three", impl.OutcomeOf(list, c), impl.IntResult{Value: impl.OutcomeNone})
	}
	// One vote of each shard: those of one are not counted for another.
	apart := acceptorsOf(acceptorOf(elsewhere(castOf(ready(3)), 7, 0)), acceptorOf(elsewhere(castOf(ready(3)), 7, 1)), acceptorOf(elsewhere(castOf(ready(3)), 7, 2)))
	checkNumber(t, "one vote of each shard", impl.OutcomeOf(apart, c), impl.IntResult{Value: impl.OutcomeNone})
	// A value that is not chosen for the second shard stays uncounted there
	// where most cast it for the first one.
	list := chose(3, 1, 1, 1)
	list[0].Slots, list[1].Slots = list[0].Slots[:1], list[1].Slots[:1]
	checkNumber(t, "the first shard alone", impl.OutcomeOf(list, c), impl.IntResult{Value: impl.OutcomeNone})
}

func TestOutcomeOfCodes(t *testing.T) {
	list := chose(3, 1, 1, 1)
	cases := []struct {
		name string
		c    impl.Contract
		want int64
	}{
		{"contract 0", pair(0), impl.ErrRange},
		{"contract 1", pair(1), impl.OK},
		{"contract 10^9", pair(maxId), impl.OK},
		{"contract 10^9 and 1", pair(maxId + 1), impl.ErrRange},
		{"contract far below", pair(farLow), impl.ErrRange},
		{"contract far above", pair(farHigh), impl.ErrRange},
		{"no legs", contract(7), impl.ErrMany},
		{"one leg", contract(7, leg(0, 0, 0, 5)), impl.ErrMany},
		{"9 legs", chain(7, 9), impl.ErrMany},
		{"shard -1", contract(7, leg(-1, 0, 0, 5), leg(0, 0, 0, -5)), impl.ErrRange},
		{"shard MaxShards", contract(7, leg(0, 0, 0, 5), leg(3, 0, 0, -5)), impl.ErrRange},
		{"amount 0", contract(7, leg(0, 0, 0, 0), leg(1, 0, 0, 0)), impl.ErrForm},
		{"one leg twice", contract(7, leg(0, 0, 0, 5), leg(0, 0, 0, -5)), impl.ErrTaken},
		{"amounts that are not 0 together", contract(7, leg(0, 0, 0, 5), leg(1, 0, 0, -4)), impl.ErrForm},
	}
	for _, c := range cases {
		for _, list := range [][]impl.Acceptor{newAcceptors(1), newAcceptors(5), list, chose(3, 2, 2, 2)} {
			got := impl.OutcomeOf(list, c.c)
			checkCode(t, c.name, got.Code, c.want)
			checkNumber(t, c.name, got, wantOutcomeOf(list, c.c))
		}
	}
}
