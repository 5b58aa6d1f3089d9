package tests

import (
	"slices"
	"testing"

	"loop.example/g00203/impl"
)

const maxBallot = 1000

func vote(ballot, value int64) impl.Vote {
	return impl.Vote{Ballot: ballot, Value: value}
}

func votes(list ...impl.Vote) []impl.Vote {
	return list
}

func ready(ballot int64) impl.Vote {
	return vote(ballot, impl.ValueReady)
}

func not(ballot int64) impl.Vote {
	return vote(ballot, impl.ValueNot)
}

// noVote is the vote of who never gave one.
func noVote() impl.Vote {
	return impl.Vote{Ballot: -1, Value: impl.ValueNone}
}

// slotOf is one of contract 7 and shard 1 whose Last is the last of Cast.
func slotOf(promised int64, cast ...impl.Vote) impl.Slot {
	s := impl.Slot{Contract: 7, Shard: 1, Promised: promised, Last: noVote(), Cast: cast}
	if len(cast) > 0 {
		s.Last = cast[len(cast)-1]
	}
	return s
}

// castOf promised no more than it cast.
func castOf(cast ...impl.Vote) impl.Slot {
	s := slotOf(-1, cast...)
	s.Promised = s.Last.Ballot
	return s
}

func slotsOf(list ...impl.Slot) []impl.Slot {
	return list
}

// elsewhere is the same slot of another contract and shard.
func elsewhere(s impl.Slot, contract, shard int64) impl.Slot {
	s.Contract, s.Shard = contract, shard
	return s
}

// manyVotes are of one value, their ballots rise by 1.
func manyVotes(n int, from, value int64) []impl.Vote {
	var list []impl.Vote
	for i := range n {
		list = append(list, vote(from+int64(i), value))
	}
	return list
}

func manySlots(n int, s impl.Slot) []impl.Slot {
	var list []impl.Slot
	for range n {
		list = append(list, cloneSlot(s))
	}
	return list
}

func cloneSlot(s impl.Slot) impl.Slot {
	s.Cast = slices.Clone(s.Cast)
	return s
}

func sameSlots(a, b impl.Slot) bool {
	return a.Contract == b.Contract && a.Shard == b.Shard && a.Promised == b.Promised && a.Last == b.Last && slices.Equal(a.Cast, b.Cast)
}

// The want functions tell chapter 8 once more.
func wantRightVote(v impl.Vote) bool {
	return v.Ballot >= 0 && v.Ballot <= 1000 && (v.Value == 1 || v.Value == 2)
}

func wantCastFault(cast []impl.Vote) int64 {
	for i, v := range cast {
		if !wantRightVote(v) {
			return impl.ErrRange
		}
		if i == 0 {
			continue
		}
		if ahead := cast[i-1]; v != ahead && v.Ballot <= ahead.Ballot {
			return impl.ErrForm
		}
	}
	return impl.OK
}

func wantSlotFault(s impl.Slot) int64 {
	if s.Contract < 1 || s.Contract > 1000000000 || s.Shard < 0 || s.Shard > 2 || s.Promised < -1 || s.Promised > 1000 {
		return impl.ErrRange
	}
	if len(s.Cast) > 60 {
		return impl.ErrMany
	}
	if code := wantCastFault(s.Cast); code != impl.OK {
		return code
	}
	if len(s.Cast) == 0 && s.Last != noVote() || len(s.Cast) > 0 && s.Last != s.Cast[len(s.Cast)-1] || s.Last.Ballot > s.Promised {
		return impl.ErrForm
	}
	return impl.OK
}

func wantNewSlot(contract, shard int64) impl.SlotResult {
	if contract < 1 || contract > 1000000000 || shard < 0 || shard > 2 {
		return impl.SlotResult{Code: impl.ErrRange}
	}
	return impl.SlotResult{Slot: impl.Slot{Contract: contract, Shard: shard, Promised: -1, Last: impl.Vote{Ballot: -1}}}
}

func wantPromiseSlot(s impl.Slot, ballot int64) impl.SlotResult {
	switch code := wantSlotFault(s); {
	case code != impl.OK:
		return impl.SlotResult{Code: code}
	case ballot < 0 || ballot > 1000:
		return impl.SlotResult{Code: impl.ErrRange}
	case ballot < s.Promised:
		return impl.SlotResult{Code: impl.ErrBusy}
	}
	after := cloneSlot(s)
	after.Promised = ballot
	return impl.SlotResult{Old: s.Last, Slot: after}
}

func wantAcceptSlot(s impl.Slot, ballot, value int64) impl.SlotResult {
	v := vote(ballot, value)
	again := v == s.Last
	switch code := wantSlotFault(s); {
	case code != impl.OK:
		return impl.SlotResult{Code: code}
	case !wantRightVote(v):
		return impl.SlotResult{Code: impl.ErrRange}
	case ballot < s.Promised:
		return impl.SlotResult{Code: impl.ErrBusy}
	case ballot == s.Last.Ballot && !again:
		return impl.SlotResult{Code: impl.ErrTaken}
	case len(s.Cast) == 60 && !again:
		return impl.SlotResult{Code: impl.ErrMany}
	}
	after := cloneSlot(s)
	after.Promised, after.Last = ballot, v
	if !again {
		after.Cast = append(after.Cast, v)
	}
	return impl.SlotResult{Old: s.Last, Slot: after}
}

func wantSlotsFault(slots []impl.Slot) int64 {
	for _, s := range slots {
		if code := wantSlotFault(s); code != impl.OK {
			return code
		}
	}
	if len(slots) == 0 || len(slots) > 9 {
		return impl.ErrMany
	}
	for _, a := range slots {
		for _, b := range slots {
			if a.Contract != b.Contract || a.Shard != b.Shard {
				return impl.ErrForm
			}
		}
	}
	return impl.OK
}

// wantChosen are the votes that more than the half of the slots cast; it may
// tell one several times, and in any order.
func wantChosen(slots []impl.Slot) []impl.Vote {
	var list []impl.Vote
	for _, s := range slots {
		for _, v := range s.Cast {
			count := 0
			for _, other := range slots {
				if slices.Contains(other.Cast, v) {
					count++
				}
			}
			if 2*count > len(slots) {
				list = append(list, v)
			}
		}
	}
	return list
}

func wantChosenIn(slots []impl.Slot) impl.VoteResult {
	if code := wantSlotsFault(slots); code != impl.OK {
		return impl.VoteResult{Code: code}
	}
	least := impl.VoteResult{Code: impl.ErrNone}
	for _, v := range wantChosen(slots) {
		if least.Code != impl.OK || v.Ballot < least.Vote.Ballot {
			least = impl.VoteResult{Vote: v}
		}
	}
	return least
}

func wantAgreeSlots(slots []impl.Slot) bool {
	if wantSlotsFault(slots) != impl.OK {
		return false
	}
	values := map[int64]int{}
	for _, v := range wantChosen(slots) {
		values[v.Value]++
	}
	return len(values) < 2
}

func wantPickValue(old []impl.Vote, own int64) impl.IntResult {
	if len(old) > 9 {
		return impl.IntResult{Code: impl.ErrMany}
	}
	for _, v := range old {
		if v != noVote() && !wantRightVote(v) {
			return impl.IntResult{Code: impl.ErrRange}
		}
	}
	if own != 1 && own != 2 {
		return impl.IntResult{Code: impl.ErrRange}
	}
	for ballot := int64(1000); ballot >= 0; ballot-- {
		for _, v := range old {
			if v.Ballot == ballot {
				return impl.IntResult{Value: v.Value}
			}
		}
	}
	return impl.IntResult{Value: own}
}

func checkSlotResult(t *testing.T, what string, got, want impl.SlotResult) {
	t.Helper()
	if got.Code != want.Code || got.Old != want.Old || !sameSlots(got.Slot, want.Slot) {
		t.Errorf("%s:\ngot  %v\nwant %v", what, got, want)
	}
}

func checkSlotCode(t *testing.T, what string, got impl.SlotResult, code int64) {
	t.Helper()
	checkSlotResult(t, what, got, impl.SlotResult{Code: code})
}

// checkSlot is of a call without a code.
func checkSlot(t *testing.T, what string, got impl.SlotResult, old impl.Vote, want impl.Slot) {
	t.Helper()
	checkSlotResult(t, what, got, impl.SlotResult{Old: old, Slot: want})
	checkCode(t, what+": SlotFault", impl.SlotFault(got.Slot), impl.OK)
}

func checkChosen(t *testing.T, what string, slots []impl.Slot, want impl.Vote) {
	t.Helper()
	if got := impl.ChosenIn(slots); got != (impl.VoteResult{Vote: want}) {
		t.Errorf("%s: ChosenIn %v, want %v", what, got, want)
	}
}

func checkChosenCode(t *testing.T, what string, slots []impl.Slot, code int64) {
	t.Helper()
	if got := impl.ChosenIn(slots); got != (impl.VoteResult{Code: code}) {
		t.Errorf("%s: ChosenIn %v, want code %d alone", what, got, code)
	}
}

func checkAgree(t *testing.T, what string, slots []impl.Slot, want bool) {
	t.Helper()
	if got := impl.AgreeSlots(slots); got != want {
		t.Errorf("%s: AgreeSlots %v", what, got)
	}
}

func checkNumber(t *testing.T, what string, got, want impl.IntResult) {
	t.Helper()
	if got != want {
		t.Errorf("%s: %v, want %v", what, got, want)
	}
}

// checkSlotFaulted holds all functions that ask the SlotFault first against
// its code, whatever else they are given.
func checkSlotFaulted(t *testing.T, what string, s impl.Slot, code int64) {
	t.Helper()
	checkCode(t, what+": SlotFault", impl.SlotFault(s), code)
	for _, ballot := range []int64{farLow, -1, 0, 5, maxBallot, maxBallot + 1, farHigh} {
		checkSlotCode(t, what+": PromiseSlot", impl.PromiseSlot(s, ballot), code)
		for _, value := range []int64{farLow, 0, 1, 2, 3, farHigh} {
			checkSlotCode(t, what+": AcceptSlot", impl.AcceptSlot(s, ballot, value), code)
		}
	}
	for n := range 11 {
		others := manySlots(n, castOf(ready(3)))
		for at := range n + 1 {
			slots := slices.Insert(slices.Clone(others), at, s)
			checkChosenCode(t, what, slots, code)
			checkAgree(t, what, slots, false)
		}
	}
}
