package tests

import (
	"math/bits"
	"reflect"
	"slices"
	"testing"

	"loop.example/g00203/impl"
)

// checkBound asks promise 9 of a slot: it promises and accepts none of these
// ballots.
func checkBound(t *testing.T, s impl.Slot, ballots ...int64) {
	t.Helper()
	for _, ballot := range ballots {
		if r := impl.PromiseSlot(s, ballot); !reflect.DeepEqual(r, impl.SlotResult{Code: impl.ErrBusy}) {
			t.Fatalf("%v promises %d: %v", s, ballot, r)
		}
		for value := int64(1); value <= 2; value++ {
			if r := impl.AcceptSlot(s, ballot, value); !reflect.DeepEqual(r, impl.SlotResult{Code: impl.ErrBusy}) {
				t.Fatalf("%v accepts %d, %d: %v", s, ballot, value, r)
			}
		}
	}
}

func ballotsBelow(n int64) []int64 {
	var list []int64
	for ballot := range n {
		list = append(list, ballot)
	}
	return list
}

// checkSlotStep holds a call against chapter 8 told once more, and asks what
// holds behind every call without a code.
func checkSlotStep(t *testing.T, before impl.Slot, c slotCall) impl.SlotResult {
	t.Helper()
	r := c.run(before)
	checkSlotResult(t, "a step", r, c.want(before))
	if r.Code != impl.OK {
		return r
	}
	checkCode(t, "SlotFault", impl.SlotFault(r.Slot), impl.OK)
	if r.Slot.Promised != c.ballot || r.Slot.Promised < before.Promised || r.Old != before.Last {
		t.Errorf("%v, %v: %v", before, c, r)
	}
	if n := len(before.Cast); !slices.Equal(r.Slot.Cast[:n], before.Cast) || len(r.Slot.Cast) > n+1 || !c.accepts && len(r.Slot.Cast) > n {
		t.Errorf("%v, %v: cast %v", before, c, r.Slot.Cast)
	}
	if t.Failed() {
		t.Fatalf("%v, %v", before, c)
	}
	return r
}

// Promise 9, for every slot that a few ballots can make, and every call.
func TestEverySlotOfAFewBallots(t *testing.T) {
	calls := slotCalls(5)
	slots := everySlot(calls)
	for _, s := range slots {
		for _, c := range calls {
			if r := checkSlotStep(t, s, c); r.Code == impl.OK {
				checkBound(t, r.Slot, ballotsBelow(c.ballot)...)
			}
		}
	}
	// 6 that cast nothing; with Last in ballot k 2 times 3 to the k ways of
	// Cast, and 5 less k of Promised.
	if len(slots) != 364 {
		t.Errorf("%d slots", len(slots))
	}
}

// Promise 9, for every ballot that may be promised.
func TestWhoPromisedAcceptsNoneThatIsLess(t *testing.T) {
	cast := slotOf(3, ready(0), not(3))
	for ballot := range int64(maxBallot + 1) {
		fresh := impl.PromiseSlot(impl.NewSlot(1, 0).Slot, ballot)
		checkCode(t, "of a new one", fresh.Code, impl.OK)
		checkCode(t, "SlotFault", impl.SlotFault(fresh.Slot), impl.OK)
		checkBound(t, fresh.Slot, ballotsBelow(ballot)...)
		if ballot < 3 {
			checkBound(t, cast, ballot)
			continue
		}
		later := impl.PromiseSlot(cast, ballot)
		checkCode(t, "of one that cast", later.Code, impl.OK)
		checkCode(t, "SlotFault", impl.SlotFault(later.Slot), impl.OK)
		checkBound(t, later.Slot, ballotsBelow(ballot)...)
	}
}

// Promise 9, behind further promises and votes, also where there is no room
// for more of these.
func TestPromisesHoldBehindFurtherOnes(t *testing.T) {
	d := dice(111)
	full, high := 0, 0
	for walk := range 60 {
		s := impl.NewSlot(1+d.below(maxId), d.below(3)).Slot
		stride := 2 + int64(walk%4)*12
		greatest := int64(-1)
		for range 150 {
			c := d.slotCall(max(0, s.Promised-2), stride)
			r := checkSlotStep(t, s, c)
			if r.Code == impl.ErrMany {
				full++
			}
			if r.Code != impl.OK {
				continue
			}
			s = r.Slot
			greatest = max(greatest, c.ballot)
			if s.Promised > 0 {
				checkBound(t, s, s.Promised-1, d.below(s.Promised))
			}
		}
		checkBound(t, s, ballotsBelow(max(0, greatest))...)
		if s.Promised > 900 {
			high++
		}
	}
	if full < 50 || high < 5 {
		t.Errorf("%d times no room, %d times far up only", full, high)
	}
}

// Promise 9: two quorums have somebody in common.
func TestTwoQuorumsMeet(t *testing.T) {
	for n := int64(1); n <= 9; n++ {
		quorum := impl.QuorumOf(n)
		if quorum.Code != impl.OK || quorum.Value < 1 || quorum.Value > n {
			t.Fatalf("QuorumOf(%d): %v", n, quorum)
		}
		var choices []uint
		for choice := range uint(1) << n {
			if int64(bits.OnesCount(choice)) == quorum.Value {
				choices = append(choices, choice)
			}
		}
		for _, a := range choices {
			for _, b := range choices {
				if a&b == 0 {
					t.Fatalf("of %d: %b and %b have nobody in common", n, a, b)
				}
			}
		}
	}
}

// Promise 9: no two values are chosen in one ballot, whoever cast which, as
// their quorums would have somebody in common.
func TestOneBallotChoosesOneValue(t *testing.T) {
	for n := int64(1); n <= 9; n++ {
		quorum := int(impl.QuorumOf(n).Value)
		for chose := range uint(1) << n {
			slots := manySlots(int(n), impl.NewSlot(7, 1).Slot)
			for i := range slots {
				value := int64(impl.ValueNot)
				if chose>>i&1 == 1 {
					value = impl.ValueReady
				}
				slots[i] = impl.AcceptSlot(slots[i], 4, value).Slot
			}
			ones := bits.OnesCount(chose)
			want := impl.VoteResult{Code: impl.ErrNone}
			if ones >= quorum {
				want = impl.VoteResult{Vote: ready(4)}
			} else if int(n)-ones >= quorum {
				want = impl.VoteResult{Vote: not(4)}
			}
			if got := impl.ChosenIn(slots); got != want || !impl.AgreeSlots(slots) {
				t.Fatalf("%b of %d: %v, want %v", chose, n, got, want)
			}
		}
	}
}

// Slots that count for one another, for every three that a few ballots can
// make.
func TestEveryThreeSlotsOfAFewBallots(t *testing.T) {
	// What they promised beyond their votes is not counted.
	slots := slices.DeleteFunc(everySlot(slotCalls(3)), func(s impl.Slot) bool { return s.Promised != s.Last.Ballot })
	agree := map[bool]int{}
	for _, a := range slots {
		for _, b := range slots {
			for _, c := range slots {
				list := slotsOf(a, b, c)
				if got, want := impl.ChosenIn(list), wantChosenIn(list); got != want {
					t.Fatalf("%v: ChosenIn %v, want %v", list, got, want)
				}
				got := impl.AgreeSlots(list)
				if got != wantAgreeSlots(list) {
					t.Fatalf("%v: AgreeSlots %v", list, got)
				}
				agree[got]++
			}
		}
	}
	if len(slots) != 27 || agree[true] < 1000 || agree[false] < 1000 {
		t.Errorf("%d slots, %v", len(slots), agree)
	}
}

// slotArgs are right and wrong ones for the functions of chapter 8.
func slotArgs() []impl.Slot {
	d := dice(112)
	list := []impl.Slot{
		{}, slotOf(-1), slotOf(5), castOf(ready(3)), slotOf(9, ready(3), not(5)),
		{Contract: 7, Shard: 1, Promised: -1, Last: noVote(), Cast: []impl.Vote{}},
		{Contract: farLow, Shard: farHigh, Promised: farLow, Last: vote(farHigh, farLow), Cast: votes(vote(farLow, farHigh))},
		castOf(vote(farHigh, farLow)), slotOf(2, ready(3)), castOf(ready(3), ready(2)), castOf(ready(3), ready(3)),
		castOf(manyVotes(59, 0, 1)...), castOf(manyVotes(60, 0, 1)...), castOf(manyVotes(61, 0, 1)...),
	}
	for range 60 {
		list = append(list, d.slot(), d.anySlot())
	}
	return list
}

// Promise 1: an answer at every argument that hangs on it alone, in new memory.
func TestSlotAnswersAreNewMemory(t *testing.T) {
	numbers := []int64{farLow, -2, -1, 0, 1, 2, 3, 5, 60, maxBallot, maxBallot + 1, maxId, maxId + 1, farHigh}
	for _, s := range slotArgs() {
		checkPure(t, "SlotFault", impl.SlotFault, s)
		for _, ballot := range append(numbers, s.Promised, s.Last.Ballot) {
			checkPure(t, "PromiseSlot", impl.PromiseSlot, s, ballot)
			for _, value := range []int64{farLow, 0, 1, 2, 3, farHigh} {
				checkPure(t, "AcceptSlot", impl.AcceptSlot, s, ballot, value)
			}
		}
	}
	for _, a := range numbers {
		checkPure(t, "QuorumOf", impl.QuorumOf, a)
		for _, b := range numbers {
			checkPure(t, "NewSlot", impl.NewSlot, a, b)
		}
	}
}

func TestAnswersOfManySlotsAreNewMemory(t *testing.T) {
	d := dice(113)
	lists := [][]impl.Slot{
		nil, {}, make([]impl.Slot, 3), make([]impl.Slot, 10), slotArgs(),
		manySlots(9, castOf(manyVotes(60, 0, 1)...)), manySlots(10, castOf(ready(3))), slotsOf(castOf(ready(3), not(5)), castOf(ready(3), not(5))),
		slotsOf(castOf(vote(farHigh, farLow))), slotsOf(castOf(ready(3)), elsewhere(castOf(ready(3)), 8, 0)),
	}
	for range 300 {
		lists = append(lists, d.anySlots())
	}
	for _, slots := range lists {
		checkPure(t, "ChosenIn", impl.ChosenIn, slots)
		checkPure(t, "AgreeSlots", impl.AgreeSlots, slots)
	}
	for range 300 {
		old := d.anyVotes()
		for _, own := range []int64{farLow, 0, 1, 2, 3, farHigh} {
			checkPure(t, "PickValue", impl.PickValue, old, own)
		}
	}
}

// Slots whose votes lie in one piece of memory, each the room behind the one
// ahead, are not changed, and answers of one slot are none of another.
func TestSlotsOfOneMemoryAreNotChanged(t *testing.T) {
	d := dice(114)
	for range 300 {
		own := d.slots(3)
		line := slices.Concat(own[0].Cast, own[1].Cast, own[2].Cast, votes(ready(77), not(78)))
		before := slices.Clone(line)
		shared, at := slices.Clone(own), 0
		for i, s := range own {
			shared[i].Cast = line[at : at+len(s.Cast)]
			at += len(s.Cast)
		}
		for i, s := range shared {
			for _, c := range slotCalls(8) {
				first, second := c.run(s), slotCall{maxBallot, 1, true}.run(s)
				checkSlotResult(t, "of one memory", first, c.run(own[i]))
				checkSlotResult(t, "of one memory, MaxBallot", second, slotCall{maxBallot, 1, true}.run(own[i]))
			}
		}
		if got := impl.ChosenIn(shared); got != impl.ChosenIn(own) || impl.AgreeSlots(shared) != impl.AgreeSlots(own) {
			t.Fatalf("%v: ChosenIn %v", own, got)
		}
		if !slices.Equal(line, before) {
			t.Fatalf("%v: changed", own)
		}
	}
}

// Two votes behind one slot are two slots: neither is seen in the other.
func TestTwoVotesBehindOneSlot(t *testing.T) {
	s := impl.AcceptSlot(impl.NewSlot(7, 1).Slot, 0, 1).Slot
	for range 5 {
		ballot := s.Promised + 1
		a, b := impl.AcceptSlot(s, ballot, 1), impl.AcceptSlot(s, ballot, 2)
		promised := impl.PromiseSlot(s, ballot+4)
		cast := append(slices.Clone(s.Cast), ready(ballot))
		checkSlot(t, "ready", a, s.Last, castOf(cast...))
		checkSlot(t, "not", b, s.Last, castOf(append(slices.Clone(s.Cast), not(ballot))...))
		checkSlot(t, "promised", promised, s.Last, slotOf(ballot+4, s.Cast...))
		s = a.Slot
	}
}

// Nil and what is empty are one value: they have one answer.
func TestSlotsOfNilAndEmpty(t *testing.T) {
	none, empty := slotOf(-1), slotOf(-1)
	empty.Cast = make([]impl.Vote, 0, 3)
	calls := []func(s impl.Slot) any{
		func(s impl.Slot) any { return impl.SlotFault(s) },
		func(s impl.Slot) any { return impl.PromiseSlot(s, 3) },
		func(s impl.Slot) any { return impl.PromiseSlot(s, -1) },
		func(s impl.Slot) any { return impl.AcceptSlot(s, 3, 1) },
		func(s impl.Slot) any { return impl.AcceptSlot(s, 3, 3) },
		func(s impl.Slot) any { return impl.ChosenIn(slotsOf(s, s)) },
		func(s impl.Slot) any { return impl.AgreeSlots(slotsOf(s)) },
	}
	for i, call := range calls {
		if a, b := call(none), call(empty); !reflect.DeepEqual(a, b) {
			t.Errorf("call %d: nil %v, empty %v", i, a, b)
		}
	}
	if a, b := impl.ChosenIn(nil), impl.ChosenIn([]impl.Slot{}); a != b {
		t.Errorf("ChosenIn: nil %v, empty %v", a, b)
	}
	if impl.AgreeSlots(nil) || impl.AgreeSlots([]impl.Slot{}) {
		t.Error("no slots agree")
	}
	if a, b := impl.PickValue(nil, 2), impl.PickValue([]impl.Vote{}, 2); a != b {
		t.Errorf("PickValue: nil %v, empty %v", a, b)
	}
}
