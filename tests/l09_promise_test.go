package tests

import (
	"reflect"
	"slices"
	"testing"

	"loop.example/g00203/impl"
)

// checkOneValue asks promise 10 at a point: no two votes that most acceptors
// cast for a contract and shard have two values; ChosenAt tells that value, or
// ErrNone alone. It tells the value, 0 without one.
func checkOneValue(t *testing.T, list []impl.Acceptor, contract, shard int64) int64 {
	t.Helper()
	got := impl.ChosenAt(list, contract, shard)
	chosen := wantChosen(wantSlotsFor(list, contract, shard).Slots)
	if len(chosen) == 0 {
		checkNumber(t, "nothing is chosen", got, impl.IntResult{Code: impl.ErrNone})
		return impl.ValueNone
	}
	for _, v := range chosen {
		checkNumber(t, "a vote that most cast", got, impl.IntResult{Value: v.Value})
	}
	if !impl.AgreeSlots(impl.SlotsFor(list, contract, shard).Slots) {
		t.Errorf("the slots of %d and %d do not agree", contract, shard)
	}
	if t.Failed() {
		t.Fatalf("contract %d, shard %d: %v", contract, shard, list)
	}
	return got.Value
}

// checkBallotStep asks what holds behind every ballot: it is as chapter 9 told
// once more has it, no other slot changes, and what was chosen stays so.
func checkBallotStep(t *testing.T, before []impl.Acceptor, b ballotCall) []impl.Acceptor {
	t.Helper()
	r := b.run(before)
	checkBallot(t, "a step", r, b.want(before))
	if r.Code != impl.OK && r.Code != impl.ErrNone {
		t.Errorf("code %d", r.Code)
	}
	for i, a := range r.Acceptors {
		here := func(s impl.Slot) bool { return s.Contract == b.contract && s.Shard == b.shard }
		if !slices.Contains(b.reached, int64(i)) && !sameAcceptor(a, before[i]) {
			t.Errorf("%d was not reached and is another one", i)
		}
		others := slices.DeleteFunc(slices.Clone(a.Slots), here)
		if !slices.EqualFunc(others, slices.DeleteFunc(slices.Clone(before[i].Slots), here), sameSlots) {
			t.Errorf("other slots of %d changed", i)
		}
	}
	was := checkOneValue(t, before, b.contract, b.shard)
	if now := checkOneValue(t, r.Acceptors, b.contract, b.shard); was != impl.ValueNone && now != was || r.Code == impl.OK && was != impl.ValueNone && r.Value != was {
		t.Errorf("%d was chosen, then %d, and %d is told", was, now, r.Value)
	}
	if t.Failed() {
		t.Fatalf("%+v of %v", b, before)
	}
	return r.Acceptors
}

// Promise 10, for all that a few ballots can make of new acceptors, and every
// further ballot.
func TestEveryAcceptorsOfAFewBallots(t *testing.T) {
	worlds := []struct {
		n       int
		ballots int64
		least   int
	}{
		{1, 5, 50}, {2, 4, 100}, {3, 3, 1000}, {4, 2, 400}, {5, 1, 40},
	}
	for _, w := range worlds {
		calls := ballotCalls(w.n, w.ballots)
		every := everyAcceptors(w.n, calls)
		values := map[int64]int{}
		for _, list := range every {
			values[checkOneValue(t, list, 7, 1)]++
			for _, b := range calls {
				checkBallotStep(t, list, b)
			}
		}
		if len(every) < w.least || len(values) != 3 {
			t.Errorf("%d acceptors: %d lists, values %v", w.n, len(every), values)
		}
	}
}

// Promise 10, for all that two ballots can make of five new acceptors.
func TestFiveAcceptorsOfTwoBallots(t *testing.T) {
	values := map[int64]int{}
	for _, list := range everyAcceptors(5, ballotCalls(5, 2)) {
		values[checkOneValue(t, list, 7, 1)]++
	}
	if len(values) != 3 || values[1] < 1000 || values[2] < 1000 {
		t.Errorf("values %v", values)
	}
}

// ballotWorld is how ballots are thrown: over how many contracts, how far
// above those that were promised, and whether few or most are reached.
type ballotWorld struct {
	contracts, spread int64
	steps             int
	most              bool
}

var ballotWorlds = []ballotWorld{
	{1, 2, 120, false}, {1, 3, 120, true}, {1, 1, 400, true}, {2, 4, 150, false}, {2, 2, 150, true}, {24, 3, 260, true},
}

// step throws a ballot that is at most a little below or above the greatest
// one so far.
func (w ballotWorld) step(d *dice, n int, greatest int64) ballotCall {
	b := ballotCall{d.reached(n), 7 + d.below(w.contracts), d.below(3), max(0, greatest+d.below(2*w.spread+1)-w.spread+d.below(2)), 1 + d.below(2)}
	if w.most && d.below(3) > 0 {
		b.reached = placesIn(1<<n - 1)
	}
	return b
}

// outcomes keeps what was clear, and asks promise 10 of it ever after.
type outcomes map[int64]int64

func (o outcomes) check(t *testing.T, list []impl.Acceptor, c impl.Contract) {
	t.Helper()
	got := impl.OutcomeOf(list, c)
	checkNumber(t, "OutcomeOf", got, wantOutcomeOf(list, c))
	if was := o[c.Id]; got.Code != impl.OK || was != impl.OutcomeNone && got.Value != was {
		t.Fatalf("contract %d: %d was clear, then %v: %v", c.Id, was, got, list)
	}
	o[c.Id] = got.Value
}

// Promise 10, behind very many ballots that are thrown, over several contracts
// and shards: also where acceptors have no room for slots or votes any more.
func TestWhatIsChosenStaysChosen(t *testing.T) {
	d := dice(131)
	told, crowdedOnes, fullOnes := map[int64]int{}, 0, 0
	for walk := range 48 {
		w, n := ballotWorlds[walk%len(ballotWorlds)], 1+walk/len(ballotWorlds)%impl.MaxAcceptors
		list, known, greatest := newAcceptors(n), outcomes{}, int64(0)
		shards := []impl.Contract{contract(0, leg(0, 0, 0, -5), leg(1, 0, 0, 3), leg(2, 0, 0, 2)), pair(0), contract(0, leg(2, 0, 0, 5), leg(2, 1, 0, -5))}
		for range w.steps {
			b := w.step(&d, n, greatest)
			list = checkBallotStep(t, list, b)
			greatest = max(greatest, b.ballot)
			c := shards[b.contract%3]
			c.Id = b.contract
			known.check(t, list, c)
		}
		for _, outcome := range known {
			told[outcome]++
		}
		for _, a := range list {
			crowdedOnes += len(a.Slots) / impl.MaxSlots
			fullOnes += len(slices.DeleteFunc(a.Slots, func(s impl.Slot) bool { return len(s.Cast) < 60 }))
		}
	}
	if told[impl.OutcomeDone] < 5 || told[impl.OutcomeNot] < 20 || crowdedOnes < 5 || fullOnes < 5 {
		t.Errorf("outcomes %v, %d times 60 slots, %d times 60 votes", told, crowdedOnes, fullOnes)
	}
}

// Promise 10: an outcome that is clear stays so, for all that a few ballots of
// both shards can make of two acceptors.
func TestEveryOutcomeOfAFewBallots(t *testing.T) {
	calls := ballotCalls(2, 2)
	for _, b := range ballotCalls(2, 2) {
		b.shard = 0
		calls = append(calls, b)
	}
	told := map[int64]int{}
	c := pair(7)
	for _, list := range everyAcceptors(2, calls) {
		was := impl.OutcomeOf(list, c)
		checkNumber(t, "OutcomeOf", was, wantOutcomeOf(list, c))
		told[was.Value]++
		for _, b := range calls {
			now := impl.OutcomeOf(b.run(list).Acceptors, c)
			if was.Value != impl.OutcomeNone && now != was {
				t.Fatalf("%v: %v was clear, behind %+v %v", list, was, b, now)
			}
		}
	}
	if told[impl.OutcomeNone] < 30 || told[impl.OutcomeDone] < 30 || told[impl.OutcomeNot] < 30 {
		t.Errorf("outcomes %v", told)
	}
}

// Promise 10, without room for a vote more: the acceptors promise, cast
// nothing, and what is chosen stays so, whoever is reached.
func TestFullVotesChooseOneValue(t *testing.T) {
	list := newAcceptors(3)
	for ballot := range int64(60) {
		reached := places(0, 1)
		if ballot%7 == 6 {
			reached = places(0, 2)
		}
		list = checkBallotStep(t, list, ballotCall{reached, 7, 1, ballot, 1 + ballot%2})
	}
	if n := len(list[0].Slots[0].Cast); n != 60 {
		t.Fatalf("%d votes", n)
	}
	for choice := range uint(8) {
		for own := int64(1); own <= 2; own++ {
			after := list
			for ballot := int64(59); ballot < 130; ballot += 1 + ballot%3 {
				after = checkBallotStep(t, after, ballotCall{placesIn(choice), 7, 1, ballot, own})
				after = checkBallotStep(t, after, ballotCall{placesIn(7), 7, 1, ballot, 3 - own})
			}
		}
	}
}

// acceptorArgs are right and wrong ones for the functions of chapter 9.
func acceptorArgs() []impl.Acceptor {
	d := dice(132)
	list := acceptorsOf(
		impl.Acceptor{}, impl.Acceptor{Slots: []impl.Slot{}}, acceptorOf(castOf(ready(3))), acceptorOf(impl.Slot{}),
		crowded(), crowdedBeside(castOf(ready(3))), acceptorOf(manyPlaces(61, 1)...), acceptorOf(castOf(manyVotes(60, 0, 1)...)),
		acceptorOf(castOf(ready(3)), castOf(ready(3))), acceptorOf(elsewhere(castOf(vote(farHigh, farLow)), farLow, farHigh)),
	)
	for range 25 {
		list = append(list, d.acceptor(), d.anyAcceptor())
	}
	return list
}

// Promise 1: an answer at every argument that hangs on it alone, in new memory.
func TestAcceptorAnswersAreNewMemory(t *testing.T) {
	numbers := []int64{farLow, -1, 0, 1, 2, 3, 6, 8, 60, maxBallot, maxBallot + 1, maxId, maxId + 1, farHigh}
	for _, a := range acceptorArgs() {
		checkPure(t, "AcceptorFault", impl.AcceptorFault, a)
		for _, n := range numbers {
			checkPure(t, "PromiseAt", impl.PromiseAt, a, n, int64(1), int64(5))
			checkPure(t, "PromiseAt", impl.PromiseAt, a, int64(7), n, int64(5))
			checkPure(t, "PromiseAt", impl.PromiseAt, a, int64(7), int64(1), n)
			checkPure(t, "AcceptAt", impl.AcceptAt, a, n, int64(1), int64(5), int64(1))
			checkPure(t, "AcceptAt", impl.AcceptAt, a, int64(7), n, int64(5), int64(1))
			checkPure(t, "AcceptAt", impl.AcceptAt, a, int64(7), int64(1), n, int64(1))
			checkPure(t, "AcceptAt", impl.AcceptAt, a, int64(7), int64(1), int64(5), n)
		}
	}
}

// listArgs are right and wrong lists for the functions of chapter 9.
func listArgs() [][]impl.Acceptor {
	d := dice(133)
	right := acceptorOf(slotOf(4, ready(3)), elsewhere(castOf(not(2)), 9, 0))
	lists := [][]impl.Acceptor{
		nil, {}, newAcceptors(1), newAcceptors(5), newAcceptors(6), make([]impl.Acceptor, 0, 4),
		acceptorsOf(right), acceptorsOf(right, impl.Acceptor{}, right), acceptorsOf(crowded(), crowdedBeside(castOf(ready(3))), right),
		chose(3, 1, 1, 1), chose(3, 1, 2, 0), chose(5, 1, 1, 0),
	}
	for range 20 {
		lists = append(lists, d.anyAcceptors())
	}
	return lists
}

func TestAnswersOfManyAcceptorsAreNewMemory(t *testing.T) {
	d := dice(134)
	for _, list := range listArgs() {
		for _, place := range [][2]int64{{7, 1}, {6, 0}, {8, 2}, {9, 0}, {0, 0}, {7, 3}, {farLow, farHigh}, {farHigh, farLow}} {
			checkPure(t, "SlotsFor", impl.SlotsFor, list, place[0], place[1])
			checkPure(t, "ChosenAt", impl.ChosenAt, list, place[0], place[1])
		}
		for _, c := range []impl.Contract{{}, pair(7), pair(6), pair(farLow), chain(7, 8), chain(7, 9), d.rightContract(), d.anyContract()} {
			checkPure(t, "OutcomeOf", impl.OutcomeOf, list, c)
		}
		for _, reached := range [][]int64{nil, {}, {0}, {0, 1}, {0, 1, 2}, {0, 1, 2, 3, 4}, {1, 0}, {0, 0}, {farLow, farHigh}} {
			checkPure(t, "RunBallot", impl.RunBallot, list, reached, int64(7), int64(1), int64(5), int64(1))
		}
		for range 12 {
			b := d.anyBallotCall(len(list))
			checkPure(t, "RunBallot", impl.RunBallot, list, b.reached, b.contract, b.shard, b.ballot, b.own)
		}
	}
}

// Acceptors that are one in memory, slots and votes too, are not changed, and
// each one of an answer is for itself, those that were not reached among them.
func TestAcceptorsOfOneMemoryAreNotChanged(t *testing.T) {
	d := dice(135)
	for range 200 {
		a := d.acceptor()
		a.Slots = slices.Grow(a.Slots, 4)
		n := 1 + int(d.below(5))
		one, own := slices.Repeat(acceptorsOf(a), n), cloneAcceptors(slices.Repeat(acceptorsOf(a), n))
		before := whole(reflect.ValueOf(one))
		for range 6 {
			b := d.ballotCall(n)
			got := b.run(one)
			checkBallot(t, "of one memory", got, b.want(own))
			slots := impl.SlotsFor(one, b.contract, b.shard)
			checkSlotsResult(t, "of one memory", slots, wantSlotsFor(own, b.contract, b.shard))
			checkApart(t, reflect.ValueOf(got), reflect.ValueOf(one))
			checkApart(t, reflect.ValueOf(slots), reflect.ValueOf(one))
			if !reflect.DeepEqual(whole(reflect.ValueOf(one)), before) {
				t.Fatalf("%+v of %v: changed", b, own)
			}
		}
	}
}

// checkApart asks that no two lists of an answer, nor one of it and of its
// argument, lie on one another.
func checkApart(t *testing.T, answer, argument reflect.Value) {
	t.Helper()
	lists := memoryOf(answer)
	for i := range lists {
		if overlap(lists[i:i+1], lists[i+1:]) {
			t.Fatalf("two lists of one answer share memory: %v", answer)
		}
	}
	if overlap(lists, memoryOf(argument)) {
		t.Fatalf("the answer shares memory with an argument: %v", answer)
	}
}

// Two ballots behind one list are two lists: neither is seen in the other, nor
// in what came ahead.
func TestTwoBallotsBehindOneList(t *testing.T) {
	d := dice(136)
	for range 100 {
		n := 1 + int(d.below(5))
		list := d.acceptors(int64(n))
		before := cloneAcceptors(list)
		a, b := d.ballotCall(n), d.ballotCall(n)
		first, second := a.run(list), b.run(list)
		checkBallot(t, "the first one", first, a.want(before))
		for i := range first.Acceptors {
			scramble(reflect.ValueOf(&first.Acceptors[i]).Elem())
		}
		checkBallot(t, "the second one", second, b.want(before))
		if !slices.EqualFunc(list, before, sameAcceptor) {
			t.Fatalf("%+v of %v: changed", a, before)
		}
	}
}

// Nil and what is empty are one value: they have one answer.
func TestAcceptorsOfNilAndEmpty(t *testing.T) {
	none, empty := impl.Acceptor{}, impl.Acceptor{Slots: make([]impl.Slot, 0, 3)}
	bare := slotOf(5)
	bare.Cast = make([]impl.Vote, 0, 3)
	calls := []func(a impl.Acceptor) any{
		func(a impl.Acceptor) any { return impl.AcceptorFault(a) },
		func(a impl.Acceptor) any { return impl.PromiseAt(a, 7, 2, 6) },
		func(a impl.Acceptor) any { return impl.PromiseAt(a, 7, 1, 6) },
		func(a impl.Acceptor) any { return impl.PromiseAt(a, 7, 1, -1) },
		func(a impl.Acceptor) any { return impl.AcceptAt(a, 7, 2, 6, 1) },
		func(a impl.Acceptor) any { return impl.AcceptAt(a, 7, 1, 6, 1) },
		func(a impl.Acceptor) any { return impl.SlotsFor(acceptorsOf(a, a), 7, 1) },
		func(a impl.Acceptor) any { return impl.ChosenAt(acceptorsOf(a, a), 7, 1) },
		func(a impl.Acceptor) any { return impl.OutcomeOf(acceptorsOf(a, a), pair(7)) },
		func(a impl.Acceptor) any { return impl.RunBallot(acceptorsOf(a, a), nil, 7, 1, 6, 1) },
		func(a impl.Acceptor) any { return impl.RunBallot(acceptorsOf(a, a), []int64{}, 7, 1, 6, 1) },
		func(a impl.Acceptor) any { return impl.RunBallot(acceptorsOf(a, a, a), places(0, 1), 7, 1, 6, 1) },
	}
	for i, call := range calls {
		if a, b := call(none), call(empty); !reflect.DeepEqual(a, b) {
			t.Errorf("call %d: nil %v, empty %v", i, a, b)
		}
		if a, b := call(acceptorOf(slotOf(5))), call(acceptorOf(bare)); !reflect.DeepEqual(a, b) {
			t.Errorf("call %d: nothing cast %v, empty %v", i, a, b)
		}
	}
	if a, b := impl.RunBallot(newAcceptors(3), nil, 7, 1, 5, 1), impl.RunBallot(newAcceptors(3), []int64{}, 7, 1, 5, 1); !reflect.DeepEqual(a, b) {
		t.Errorf("nobody reached: nil %v, empty %v", a, b)
	}
	if a, b := impl.SlotsFor(nil, 7, 1), impl.SlotsFor([]impl.Acceptor{}, 7, 1); !reflect.DeepEqual(a, b) {
		t.Errorf("nobody there: nil %v, empty %v", a, b)
	}
}
