package tests

import (
	"fmt"
	"slices"
	"testing"

	"loop.example/g00203/impl"
)

// slotCall is a call that makes a slot of another; one that does not accept
// asks for a promise of the ballot alone.
type slotCall struct {
	ballot  int64
	value   int64
	accepts bool
}

func (c slotCall) run(s impl.Slot) impl.SlotResult {
	if c.accepts {
		return impl.AcceptSlot(s, c.ballot, c.value)
	}
	return impl.PromiseSlot(s, c.ballot)
}

func (c slotCall) want(s impl.Slot) impl.SlotResult {
	if c.accepts {
		return wantAcceptSlot(s, c.ballot, c.value)
	}
	return wantPromiseSlot(s, c.ballot)
}

// slotCalls are all with ballots below that one.
func slotCalls(ballots int64) []slotCall {
	var list []slotCall
	for ballot := range ballots {
		list = append(list, slotCall{ballot: ballot})
		list = append(list, slotCall{ballot, 1, true}, slotCall{ballot, 2, true})
	}
	return list
}

// everySlot tells all slots that these calls can make out of a new one.
func everySlot(calls []slotCall) []impl.Slot {
	list := []impl.Slot{impl.NewSlot(7, 1).Slot}
	seen := map[string]int{fmt.Sprint(list[0]): 1}
	for at := 0; at < len(list); at++ {
		for _, c := range calls {
			r := c.run(list[at])
			if r.Code != impl.OK {
				continue
			}
			if seen[fmt.Sprint(r.Slot)]++; seen[fmt.Sprint(r.Slot)] == 1 {
				list = append(list, r.Slot)
			}
		}
	}
	return list
}

// slotCall throws one of the ballots from there on.
func (d *dice) slotCall(from, ballots int64) slotCall {
	return slotCall{from + d.below(ballots), 1 + d.below(2), d.below(3) > 0}
}

// slot throws one without a fault. Its ballots are few, so that several slots
// have some in common; some of its votes stand there over and over.
func (d *dice) slot() impl.Slot {
	s := impl.NewSlot(7, 1).Slot
	for range d.below(12) {
		if r := d.slotCall(max(0, s.Promised), 3).run(s); r.Code == impl.OK {
			s = r.Slot
		}
	}
	if len(s.Cast) > 0 && d.below(4) == 0 {
		at := int(d.below(int64(len(s.Cast))))
		s.Cast = slices.Insert(s.Cast, at, s.Cast[at])
	}
	return s
}

// fullSlot throws one with 57 to 60 of Cast.
func (d *dice) fullSlot() impl.Slot {
	s := castOf(manyVotes(57+int(d.below(4)), d.below(900), 1+d.below(2))...)
	s.Promised += d.below(3)
	return s
}

// anySlot throws one that may have faults of every kind.
func (d *dice) anySlot() impl.Slot {
	s := d.slot()
	if d.below(8) == 0 {
		s = d.fullSlot()
	}
	for range d.below(3) {
		d.spoilSlot(&s)
	}
	return s
}

func (d *dice) spoilSlot(s *impl.Slot) {
	odd := []int64{farLow, -2, -1, 0, 1, 2, 3, maxBallot, maxBallot + 1, maxId, maxId + 1, farHigh}
	n := odd[d.below(int64(len(odd)))]
	switch d.below(9) {
	case 0:
		s.Contract = n
	case 1:
		s.Shard = n
	case 2:
		s.Promised = n
	case 3:
		s.Last.Ballot = n
	case 4:
		s.Last.Value = n
	default:
		s.Cast = d.spoiledVotes(s.Cast, n)
		// Otherwise nothing but Last would ever be wrong.
		if d.below(2) == 0 && len(s.Cast) > 0 {
			s.Last = s.Cast[len(s.Cast)-1]
		}
	}
}

func (d *dice) spoiledVotes(list []impl.Vote, n int64) []impl.Vote {
	if len(list) == 0 {
		return append(list, vote(n, 1+d.below(2)))
	}
	at, other := d.below(int64(len(list))), d.below(int64(len(list)))
	switch d.below(7) {
	case 0:
		list[at].Ballot = n
	case 1:
		list[at].Value = n
	case 2:
		list[at].Value = 3 - list[at].Value
	case 3:
		list[at], list[other] = list[other], list[at]
	case 4:
		list = slices.Insert(list, int(at), list[other])
	case 5:
		list = slices.Delete(list, int(at), int(at)+1)
	case 6:
		list = append(list, slices.Repeat(list[len(list)-1:], max(0, 59+int(d.below(3))-len(list)))...)
	}
	return list
}

// slots throws some of one contract and shard without a fault.
func (d *dice) slots(n int64) []impl.Slot {
	var list []impl.Slot
	for range n {
		list = append(list, d.slot())
	}
	return list
}

// anySlots throws a list that may have faults of every kind.
func (d *dice) anySlots() []impl.Slot {
	list := d.slots(d.below(12))
	if len(list) == 0 {
		return list
	}
	at := d.below(int64(len(list)))
	switch d.below(6) {
	case 0:
		list[at] = d.anySlot()
	case 1:
		list[at] = elsewhere(list[at], 7+d.below(2), d.below(3))
	case 2:
		list[at] = list[d.below(int64(len(list)))]
	}
	return list
}

func (d *dice) anyVotes() []impl.Vote {
	odd := []int64{farLow, -2, -1, 0, 1, 2, 3, maxBallot, maxBallot + 1, farHigh}
	var list []impl.Vote
	for range d.below(12) {
		switch d.below(16) {
		case 0:
			list = append(list, vote(odd[d.below(10)], odd[d.below(10)]))
		case 1, 2, 3, 4:
			list = append(list, noVote())
		default:
			list = append(list, vote(d.below(5), 1+d.below(2)))
		}
	}
	return list
}

// Chapter 8 told twice, for slots that are thrown: right ones, and such with
// faults of every kind.
func TestSlotsThatAreThrown(t *testing.T) {
	d := dice(101)
	told, asked := map[int64]int{}, map[int64]int{}
	odd := []int64{farLow, -1, 0, 1, 2, 3, maxBallot, maxBallot + 1, farHigh}
	for range 8000 {
		s := d.anySlot()
		told[wantSlotFault(s)]++
		checkCode(t, "SlotFault", impl.SlotFault(s), wantSlotFault(s))
		for range 4 {
			c := d.slotCall(max(0, min(s.Promised, maxBallot)-1), 4)
			if d.below(6) == 0 {
				c.ballot = odd[d.below(9)]
			}
			if d.below(8) == 0 {
				c.value = odd[d.below(9)]
			}
			r := c.run(s)
			asked[r.Code]++
			checkSlotResult(t, fmt.Sprintf("%+v", c), r, c.want(s))
		}
		if t.Failed() {
			t.Fatalf("of %v", s)
		}
	}
	for _, code := range []int64{impl.OK, impl.ErrMany, impl.ErrForm, impl.ErrRange} {
		if told[code] < 50 {
			t.Errorf("SlotFault %d %d times only", code, told[code])
		}
	}
	for _, code := range []int64{impl.OK, impl.ErrMany, impl.ErrForm, impl.ErrRange, impl.ErrBusy, impl.ErrTaken} {
		if asked[code] < 50 {
			t.Errorf("code %d %d times only", code, asked[code])
		}
	}
}

func TestListsOfSlotsThatAreThrown(t *testing.T) {
	d := dice(102)
	chosen, agreed := map[int64]int{}, map[bool]int{}
	for range 20000 {
		slots := d.anySlots()
		got := impl.ChosenIn(slots)
		chosen[got.Code]++
		if want := wantChosenIn(slots); got != want {
			t.Fatalf("%v: ChosenIn %v, want %v", slots, got, want)
		}
		agree := impl.AgreeSlots(slots)
		if got.Code == impl.OK {
			agreed[agree]++
		}
		if want := wantAgreeSlots(slots); agree != want {
			t.Fatalf("%v: AgreeSlots %v", slots, agree)
		}
	}
	for _, code := range []int64{impl.OK, impl.ErrMany, impl.ErrForm, impl.ErrRange, impl.ErrNone} {
		if chosen[code] < 50 {
			t.Errorf("ChosenIn %d %d times only", code, chosen[code])
		}
	}
	if agreed[true] < 50 || agreed[false] < 50 {
		t.Errorf("agreed: %v", agreed)
	}
}

func TestVotesThatAreThrown(t *testing.T) {
	d := dice(103)
	told := map[impl.IntResult]int{}
	for range 20000 {
		old, own := d.anyVotes(), []int64{farLow, 0, 1, 1, 1, 2, 2, 2, 3, farHigh}[d.below(10)]
		got := impl.PickValue(old, own)
		told[got]++
		if want := wantPickValue(old, own); got != want {
			t.Fatalf("PickValue(%v, %d): %v, want %v", old, own, got, want)
		}
	}
	for _, r := range []impl.IntResult{{Value: 1}, {Value: 2}, {Code: impl.ErrMany}, {Code: impl.ErrRange}} {
		if told[r] < 500 {
			t.Errorf("%v %d times only", r, told[r])
		}
	}
}
