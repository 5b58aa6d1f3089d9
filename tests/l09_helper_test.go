package tests

import (
	"slices"
	"testing"

	"loop.example/g00203/impl"
)

func acceptorOf(slots ...impl.Slot) impl.Acceptor {
	return impl.Acceptor{Slots: slots}
}

func acceptorsOf(list ...impl.Acceptor) []impl.Acceptor {
	return list
}

// newAcceptors were never asked anything.
func newAcceptors(n int) []impl.Acceptor {
	return make([]impl.Acceptor, n)
}

func places(list ...int64) []int64 {
	return list
}

// placesIn are the numbers of the bits of a choice, rising.
func placesIn(choice uint) []int64 {
	var list []int64
	for at := int64(0); choice>>at > 0; at++ {
		if choice>>at&1 == 1 {
			list = append(list, at)
		}
	}
	return list
}

// manyPlaces are n slots in order, three of a contract, that cast something.
func manyPlaces(n int, from int64) []impl.Slot {
	var list []impl.Slot
	for i := range n {
		list = append(list, elsewhere(slotOf(4, ready(3)), from+int64(i)/3, int64(i)%3))
	}
	return list
}

// crowded has 60 slots, none of them of contract 7.
func crowded() impl.Acceptor {
	return acceptorOf(manyPlaces(60, 8)...)
}

// crowdedBeside has 60 slots, that one among them.
func crowdedBeside(s impl.Slot) impl.Acceptor {
	return acceptorOf(append(slotsOf(s), manyPlaces(59, 8)...)...)
}

func cloneAcceptor(a impl.Acceptor) impl.Acceptor {
	var after impl.Acceptor
	for _, s := range a.Slots {
		after.Slots = append(after.Slots, cloneSlot(s))
	}
	return after
}

func cloneAcceptors(list []impl.Acceptor) []impl.Acceptor {
	var after []impl.Acceptor
	for _, a := range list {
		after = append(after, cloneAcceptor(a))
	}
	return after
}

func sameAcceptor(a, b impl.Acceptor) bool {
	return slices.EqualFunc(a.Slots, b.Slots, sameSlots)
}

// The want functions tell chapter 9 once more.
func wantAcceptorFault(a impl.Acceptor) int64 {
	if len(a.Slots) > 60 {
		return impl.ErrMany
	}
	last := int64(-1)
	for _, s := range a.Slots {
		if code := wantSlotFault(s); code != impl.OK {
			return code
		}
		place := s.Contract*3 + s.Shard
		if place <= last {
			return impl.ErrForm
		}
		last = place
	}
	return impl.OK
}

func wantListFault(list []impl.Acceptor) int64 {
	if len(list) == 0 || len(list) > 5 {
		return impl.ErrMany
	}
	for _, a := range list {
		if code := wantAcceptorFault(a); code != impl.OK {
			return code
		}
	}
	return impl.OK
}

// wantAskAt takes the acceptor apart at the slot that is asked.
func wantAskAt(a impl.Acceptor, contract, shard int64, ask func(s impl.Slot) impl.SlotResult) impl.AcceptorResult {
	if code := wantAcceptorFault(a); code != impl.OK {
		return impl.AcceptorResult{Code: code}
	}
	own := wantNewSlot(contract, shard)
	if own.Code != impl.OK {
		return impl.AcceptorResult{Code: own.Code}
	}
	var ahead, behind []impl.Slot
	for _, s := range cloneAcceptor(a).Slots {
		switch {
		case s.Contract == contract && s.Shard == shard:
			own.Slot = s
		case s.Contract < contract, s.Contract == contract && s.Shard < shard:
			ahead = append(ahead, s)
		default:
			behind = append(behind, s)
		}
	}
	r := ask(own.Slot)
	if r.Code != impl.OK {
		return impl.AcceptorResult{Code: r.Code}
	}
	if len(ahead)+len(behind) >= 60 {
		return impl.AcceptorResult{Code: impl.ErrMany}
	}
	return impl.AcceptorResult{Old: r.Old, Acceptor: acceptorOf(slices.Concat(ahead, slotsOf(r.Slot), behind)...)}
}

func wantPromiseAt(a impl.Acceptor, contract, shard, ballot int64) impl.AcceptorResult {
	return wantAskAt(a, contract, shard, func(s impl.Slot) impl.SlotResult { return wantPromiseSlot(s, ballot) })
}

func wantAcceptAt(a impl.Acceptor, contract, shard, ballot, value int64) impl.AcceptorResult {
	return wantAskAt(a, contract, shard, func(s impl.Slot) impl.SlotResult { return wantAcceptSlot(s, ballot, value) })
}

func wantSlotsFor(list []impl.Acceptor, contract, shard int64) impl.SlotsResult {
	if code := wantListFault(list); code != impl.OK {
		return impl.SlotsResult{Code: code}
	}
	fresh := wantNewSlot(contract, shard)
	if fresh.Code != impl.OK {
		return impl.SlotsResult{Code: fresh.Code}
	}
	slots := manySlots(len(list), fresh.Slot)
	for i, a := range list {
		for _, s := range a.Slots {
			if s.Contract == contract && s.Shard == shard {
				slots[i] = s
			}
		}
	}
	return impl.SlotsResult{Slots: slots}
}

func wantChosenAt(list []impl.Acceptor, contract, shard int64) impl.IntResult {
	slots := wantSlotsFor(list, contract, shard)
	if slots.Code != impl.OK {
		return impl.IntResult{Code: slots.Code}
	}
	chosen := wantChosenIn(slots.Slots)
	return impl.IntResult{Code: chosen.Code, Value: chosen.Vote.Value}
}

func wantBallotFault(list []impl.Acceptor, reached []int64, contract, shard, ballot, own int64) int64 {
	if code := wantListFault(list); code != impl.OK {
		return code
	}
	if wantNewSlot(contract, shard).Code != impl.OK || ballot < 0 || ballot > 1000 || own != 1 && own != 2 {
		return impl.ErrRange
	}
	if len(reached) > 0 && (slices.Min(reached) < 0 || slices.Max(reached) >= int64(len(list))) {
		return impl.ErrRange
	}
	sorted := slices.Compact(slices.Sorted(slices.Values(reached)))
	if !slices.Equal(reached, sorted) {
		return impl.ErrTaken
	}
	return impl.OK
}

func wantRunBallot(list []impl.Acceptor, reached []int64, contract, shard, ballot, own int64) impl.AcceptorsResult {
	if code := wantBallotFault(list, reached, contract, shard, ballot, own); code != impl.OK {
		return impl.AcceptorsResult{Code: code}
	}
	after := cloneAcceptors(list)
	var old []impl.Vote
	var promised []int64
	for at, a := range list {
		r := wantPromiseAt(a, contract, shard, ballot)
		if slices.Contains(reached, int64(at)) && r.Code == impl.OK {
			after[at], old, promised = r.Acceptor, append(old, r.Old), append(promised, int64(at))
		}
	}
	if 2*len(promised) <= len(list) {
		return impl.AcceptorsResult{Code: impl.ErrNone, Acceptors: after}
	}
	value := wantPickValue(old, own).Value
	for _, at := range promised {
		if r := wantAcceptAt(after[at], contract, shard, ballot, value); r.Code == impl.OK {
			after[at] = r.Acceptor
		}
	}
	return impl.AcceptorsResult{Value: value, Acceptors: after}
}

func wantOutcomeOf(list []impl.Acceptor, c impl.Contract) impl.IntResult {
	if code := wantListFault(list); code != impl.OK {
		return impl.IntResult{Code: code}
	}
	if code := wantContractFault(c); code != impl.OK {
		return impl.IntResult{Code: code}
	}
	var told [3]int
	for _, l := range c.Legs {
		told[wantChosenAt(list, c.Id, l.Shard).Value]++
	}
	switch {
	case told[impl.ValueNot] > 0:
		return impl.IntResult{Value: impl.OutcomeNot}
	case told[impl.ValueReady] == len(c.Legs):
		return impl.IntResult{Value: impl.OutcomeDone}
	}
	return impl.IntResult{Value: impl.OutcomeNone}
}

func checkAcceptorResult(t *testing.T, what string, got, want impl.AcceptorResult) {
	t.Helper()
	if got.Code != want.Code || got.Old != want.Old || !sameAcceptor(got.Acceptor, want.Acceptor) {
		t.Errorf("%s:\ngot  %v\nwant %v", what, got, want)
	}
}

func checkAcceptorCode(t *testing.T, what string, got impl.AcceptorResult, code int64) {
	t.Helper()
	checkAcceptorResult(t, what, got, impl.AcceptorResult{Code: code})
}

// checkAcceptor is of a call without a code.
func checkAcceptor(t *testing.T, what string, got impl.AcceptorResult, old impl.Vote, slots ...impl.Slot) {
	t.Helper()
	checkAcceptorResult(t, what, got, impl.AcceptorResult{Old: old, Acceptor: acceptorOf(slots...)})
	checkCode(t, what+": AcceptorFault", impl.AcceptorFault(got.Acceptor), impl.OK)
}

func checkBallot(t *testing.T, what string, got, want impl.AcceptorsResult) {
	t.Helper()
	if got.Code != want.Code || got.Value != want.Value || !slices.EqualFunc(got.Acceptors, want.Acceptors, sameAcceptor) {
		t.Errorf("%s:\ngot  %v\nwant %v", what, got, want)
	}
	for _, a := range got.Acceptors {
		checkCode(t, what+": AcceptorFault", impl.AcceptorFault(a), impl.OK)
	}
}

func checkSlotsResult(t *testing.T, what string, got, want impl.SlotsResult) {
	t.Helper()
	if got.Code != want.Code || !slices.EqualFunc(got.Slots, want.Slots, sameSlots) {
		t.Errorf("%s:\ngot  %v\nwant %v", what, got, want)
	}
}

// checkListFaulted holds all functions that ask the list first against its
// code, whatever else they are given.
func checkListFaulted(t *testing.T, what string, list []impl.Acceptor, code int64) {
	t.Helper()
	alone := impl.IntResult{Code: code}
	for _, n := range []int64{farLow, -1, 0, 1, 2, 7, maxId + 1, farHigh} {
		checkSlotsResult(t, what+": SlotsFor", impl.SlotsFor(list, n, 1), impl.SlotsResult{Code: code})
		checkSlotsResult(t, what+": SlotsFor", impl.SlotsFor(list, 7, n), impl.SlotsResult{Code: code})
		checkNumber(t, what+": ChosenAt", impl.ChosenAt(list, n, 1), alone)
		checkNumber(t, what+": ChosenAt", impl.ChosenAt(list, 7, n), alone)
		for _, reached := range [][]int64{nil, {0}, {n}, {0, 0}, {1, 0}, {0, 1, 2, 3, 4}} {
			for _, args := range [][4]int64{{7, 1, 5, 1}, {n, 1, 5, 1}, {7, n, 5, 1}, {7, 1, n, 1}, {7, 1, 5, n}} {
				got := impl.RunBallot(list, reached, args[0], args[1], args[2], args[3])
				checkBallot(t, what+": RunBallot", got, impl.AcceptorsResult{Code: code})
			}
		}
	}
	for _, c := range []impl.Contract{pair(7), pair(0), pair(farHigh), {Id: 7}, contract(7, leg(0, 0, 0, 5), leg(1, 0, 0, 5)), contract(7, leg(0, 0, 0, 5), leg(0, 0, 0, 5))} {
		checkNumber(t, what+": OutcomeOf", impl.OutcomeOf(list, c), alone)
	}
}

// checkAcceptorFaulted holds all functions that ask the AcceptorFault first
// against its code, the acceptor being alone or at any place of a list.
func checkAcceptorFaulted(t *testing.T, what string, a impl.Acceptor, code int64) {
	t.Helper()
	checkCode(t, what+": AcceptorFault", impl.AcceptorFault(a), code)
	for _, n := range []int64{farLow, -1, 0, 1, 5, maxBallot + 1, farHigh} {
		for _, args := range [][4]int64{{7, 1, 5, 1}, {n, 1, 5, 1}, {7, n, 5, 1}, {7, 1, n, 1}, {7, 1, 5, n}, {n, n, n, n}} {
			checkAcceptorCode(t, what+": PromiseAt", impl.PromiseAt(a, args[0], args[1], args[2]), code)
			checkAcceptorCode(t, what+": AcceptAt", impl.AcceptAt(a, args[0], args[1], args[2], args[3]), code)
		}
	}
	for n := 1; n <= impl.MaxAcceptors; n++ {
		for at := range n {
			list := newAcceptors(n)
			list[at] = a
			checkListFaulted(t, what, list, code)
		}
	}
}
