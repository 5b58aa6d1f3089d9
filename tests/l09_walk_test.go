package tests

import (
	"fmt"
	"slices"
	"testing"

	"loop.example/g00203/impl"
)

// ballotCall is a ballot that is run over some of the acceptors.
type ballotCall struct {
	reached         []int64
	contract, shard int64
	ballot, own     int64
}

func (b ballotCall) run(list []impl.Acceptor) impl.AcceptorsResult {
	return impl.RunBallot(list, b.reached, b.contract, b.shard, b.ballot, b.own)
}

func (b ballotCall) want(list []impl.Acceptor) impl.AcceptorsResult {
	return wantRunBallot(list, b.reached, b.contract, b.shard, b.ballot, b.own)
}

// ballotCalls are all of contract 7 and shard 1 with ballots below that one,
// whoever of n acceptors is reached.
func ballotCalls(n int, ballots int64) []ballotCall {
	var list []ballotCall
	for choice := range uint(1) << n {
		for ballot := range ballots {
			list = append(list, ballotCall{placesIn(choice), 7, 1, ballot, 1}, ballotCall{placesIn(choice), 7, 1, ballot, 2})
		}
	}
	return list
}

func (d *dice) reached(n int) []int64 {
	return placesIn(uint(d.below(1 << n)))
}

// acceptor throws one without a fault. Its slots lie at few places, so that
// several acceptors have some in common; some of them have no room.
func (d *dice) acceptor() impl.Acceptor {
	var a impl.Acceptor
	for contract := int64(6); contract <= 8; contract++ {
		for shard := range int64(3) {
			if d.below(3) == 0 {
				a.Slots = append(a.Slots, elsewhere(d.slot(), contract, shard))
			}
		}
	}
	if d.below(8) == 0 {
		a.Slots = append(a.Slots, manyPlaces(60-len(a.Slots), 9)...)
	}
	if d.below(12) == 0 && len(a.Slots) > 0 {
		at := d.below(int64(len(a.Slots)))
		a.Slots[at] = elsewhere(castOf(manyVotes(60, 0, 1+d.below(2))...), a.Slots[at].Contract, a.Slots[at].Shard)
	}
	return a
}

func (d *dice) acceptors(n int64) []impl.Acceptor {
	var list []impl.Acceptor
	for range n {
		list = append(list, d.acceptor())
	}
	return list
}

// anyAcceptor throws one that may have faults of every kind.
func (d *dice) anyAcceptor() impl.Acceptor {
	a := d.acceptor()
	for range d.below(3) {
		d.spoilAcceptor(&a)
	}
	return a
}

func (d *dice) spoilAcceptor(a *impl.Acceptor) {
	if len(a.Slots) == 0 {
		return
	}
	at, other := d.below(int64(len(a.Slots))), d.below(int64(len(a.Slots)))
	switch d.below(5) {
	case 0:
		a.Slots[at], a.Slots[other] = a.Slots[other], a.Slots[at]
	case 1:
		a.Slots = slices.Insert(a.Slots, int(at), cloneSlot(a.Slots[other]))
	case 2:
		d.spoilSlot(&a.Slots[at])
	case 3:
		a.Slots = append(a.Slots, manyPlaces(max(0, 61-len(a.Slots)), 9)...)
	case 4:
		a.Slots[at] = elsewhere(d.anySlot(), a.Slots[at].Contract, a.Slots[at].Shard)
	}
}

// anyAcceptors throws a list that may have faults of every kind.
func (d *dice) anyAcceptors() []impl.Acceptor {
	list := d.acceptors(1 + d.below(5))
	switch d.below(12) {
	case 0:
		list = d.acceptors(6)
	case 1:
		list = nil
	case 2, 3:
		list[d.below(int64(len(list)))] = d.anyAcceptor()
	case 4:
		list[0], list[len(list)-1] = d.anyAcceptor(), d.anyAcceptor()
	}
	return list
}

// ballotCall throws one around the ballots and places of thrown acceptors.
func (d *dice) ballotCall(n int) ballotCall {
	return ballotCall{d.reached(n), 6 + d.below(3), d.below(3), d.below(14), 1 + d.below(2)}
}

// anyBallotCall throws one that may have faults of every kind.
func (d *dice) anyBallotCall(n int) ballotCall {
	odd := []int64{farLow, -1, 0, 1, 2, 3, 4, 5, 60, 61, maxBallot, maxBallot + 1, maxId, maxId + 1, farHigh}
	b := d.ballotCall(n)
	for range d.below(2) {
		number := odd[d.below(int64(len(odd)))]
		switch d.below(7) {
		case 0:
			b.contract = number
		case 1:
			b.shard = number
		case 2:
			b.ballot = number
		case 3:
			b.own = number
		case 4:
			b.reached = append(b.reached, number)
		case 5:
			slices.Reverse(b.reached)
		case 6:
			b.reached = append(b.reached, b.reached...)
		}
	}
	return b
}

// Chapter 9 told twice, for acceptors that are thrown: right ones, and such
// with faults of every kind.
func TestAcceptorsThatAreThrown(t *testing.T) {
	d := dice(121)
	told, promised, accepted := map[int64]int{}, map[int64]int{}, map[int64]int{}
	for range 10000 {
		a := d.anyAcceptor()
		code := impl.AcceptorFault(a)
		told[code]++
		checkCode(t, "AcceptorFault", code, wantAcceptorFault(a))
		for range 5 {
			b := d.anyBallotCall(0)
			p := impl.PromiseAt(a, b.contract, b.shard, b.ballot)
			checkAcceptorResult(t, "PromiseAt", p, wantPromiseAt(a, b.contract, b.shard, b.ballot))
			v := impl.AcceptAt(a, b.contract, b.shard, b.ballot, b.own)
			checkAcceptorResult(t, "AcceptAt", v, wantAcceptAt(a, b.contract, b.shard, b.ballot, b.own))
			promised[p.Code]++
			accepted[v.Code]++
			if t.Failed() {
				t.Fatalf("%+v of %v", b, a)
			}
		}
	}
	for _, code := range []int64{impl.OK, impl.ErrForm, impl.ErrMany, impl.ErrRange} {
		if told[code] < 50 || promised[code] < 50 || accepted[code] < 50 {
			t.Errorf("code %d only %d, %d and %d times", code, told[code], promised[code], accepted[code])
		}
	}
	if promised[impl.ErrBusy] < 50 || accepted[impl.ErrBusy] < 50 || accepted[impl.ErrTaken] < 50 {
		t.Errorf("promised %v, accepted %v", promised, accepted)
	}
}

func TestBallotsThatAreThrown(t *testing.T) {
	d := dice(122)
	ran, values := map[int64]int{}, map[int64]int{}
	for range 10000 {
		list := d.anyAcceptors()
		for range 5 {
			b := d.anyBallotCall(len(list))
			r := b.run(list)
			ran[r.Code]++
			values[r.Value]++
			checkBallot(t, "RunBallot", r, b.want(list))
			checkSlotsResult(t, "SlotsFor", impl.SlotsFor(list, b.contract, b.shard), wantSlotsFor(list, b.contract, b.shard))
			checkNumber(t, "ChosenAt", impl.ChosenAt(list, b.contract, b.shard), wantChosenAt(list, b.contract, b.shard))
			if t.Failed() {
				t.Fatalf("%+v of %v", b, list)
			}
		}
	}
	for _, code := range []int64{impl.OK, impl.ErrForm, impl.ErrMany, impl.ErrRange, impl.ErrNone, impl.ErrTaken} {
		if ran[code] < 50 {
			t.Errorf("RunBallot %d %d times only", code, ran[code])
		}
	}
	if values[1] < 500 || values[2] < 500 {
		t.Errorf("values %v", values)
	}
}

func TestOutcomesThatAreThrown(t *testing.T) {
	d := dice(123)
	told := map[impl.IntResult]int{}
	for range 10000 {
		list := d.anyAcceptors()
		for contract := range int64(3) {
			c := d.anyContract()
			if d.below(4) > 0 {
				c = d.rightContract()
				c.Id = 6 + contract
			}
			got := impl.OutcomeOf(list, c)
			told[got]++
			if want := wantOutcomeOf(list, c); got != want {
				t.Fatalf("%v of %v: %v, want %v", c, list, got, want)
			}
		}
	}
	for _, r := range []impl.IntResult{{}, {Value: impl.OutcomeDone}, {Value: impl.OutcomeNot}, {Code: impl.ErrForm}, {Code: impl.ErrMany}, {Code: impl.ErrRange}, {Code: impl.ErrTaken}} {
		if told[r] < 50 {
			t.Errorf("%v %d times only", r, told[r])
		}
	}
}

// everyAcceptors tells all that these ballots can make out of new ones.
func everyAcceptors(n int, calls []ballotCall) [][]impl.Acceptor {
	list := [][]impl.Acceptor{newAcceptors(n)}
	seen := map[string]int{fmt.Sprint(list[0]): 1}
	for at := 0; at < len(list); at++ {
		for _, b := range calls {
			after := b.run(list[at]).Acceptors
			name := fmt.Sprint(after)
			if seen[name]++; seen[name] == 1 {
				list = append(list, after)
			}
		}
	}
	return list
}
