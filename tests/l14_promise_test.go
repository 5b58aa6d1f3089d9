package tests

import (
	"fmt"
	"reflect"
	"slices"
	"testing"

	"loop.example/g00203/impl"
)

// everyJournal tries all journals that at most so many events of a world can
// make, each synced or not, one event more on each, and of each a crash with
// each number of bytes kept. It tells how many there were.
func (s *journalSeen) everyJournal(t *testing.T, world shardWorld, events int) int {
	t.Helper()
	level := []written{{journal: impl.Journal{Index: world.start.Index, Start: world.start.Balances}}}
	told := map[string]int{fmt.Sprint(level[0].journal): 1}
	for range events + 1 {
		var next []written
		for _, w := range level {
			s.crashes(t, w)
			for _, x := range world.calls() {
				for _, sync := range []bool{false, true} {
					after := s.write(t, w, eventOf(x), sync)
					if name := fmt.Sprint(after.journal); told[name] == 0 {
						told[name]++
						next = append(next, after)
					}
				}
			}
			if t.Failed() {
				t.Fatalf("%+v", w)
			}
		}
		level = next
	}
	return len(told)
}

// Promise 15, over all journals of a few events: deep ones of two contracts
// that meet, and wide ones of four.
func TestEveryJournalOfAFewEvents(t *testing.T) {
	t.Parallel()
	deep, wide := narrowWorld(), narrowWorld()
	deep.contracts = deep.contracts[:2]
	s := newSeen()
	n, m := s.everyJournal(t, deep, 4), s.everyJournal(t, wide, 2)
	if n < 5000 || m < 2000 || s.lost < 10000 || s.left < 10000 || s.refused[impl.ErrForm] < 1000 || s.refused[impl.ErrTaken] < 1000 {
		t.Errorf("%d and %d journals, %+v", n, m, s)
	}
}

// Promise 15, behind very many calls that are thrown.
func TestAShardIsWhatWasWrittenOfIt(t *testing.T) {
	t.Parallel()
	d := dice(212)
	s := newSeen()
	for walk := range 30 {
		s.walk(t, &d, d.shardWorld([]int{3, 8, 30}[walk%3]), []int{40, 80, 130}[walk%3], 35)
	}
	for _, code := range []int64{impl.ErrForm, impl.ErrMany, impl.ErrRange, impl.ErrNone, impl.ErrTaken} {
		if s.refused[code] < 20 {
			t.Errorf("code %d only %d times", code, s.refused[code])
		}
	}
	if s.taken < 1000 || s.lost < 200 || s.left < 200 || s.full < 10 {
		t.Errorf("%+v", s)
	}
}

// Promise 15: a crash that keeps all forgets nothing, so that it is as if all
// had been synced; what is synced outlasts a crash as it is.
func TestASyncIsACrashThatKeepsAll(t *testing.T) {
	d := dice(213)
	for range 300 {
		j := d.journal()
		all := impl.CrashJournal(j, int64(len(j.Log.Loose)))
		if list := impl.EventsOf(j).Events; len(list) > 0 {
			last := list[len(list)-1]
			synced := impl.WriteEvent(j, last, true)
			checkCode(t, "the last one once more", synced.Code, impl.OK)
			after := impl.WriteEvent(all.Journal, last, true)
			checkJournalResult(t, "behind a crash that keeps all", after, synced)
			checkJournalResult(t, "crashed", impl.CrashJournal(synced.Journal, 0), synced)
		}
		checkJournalResult(t, "all is kept", all, impl.JournalResult{
			Journal: impl.Journal{Index: j.Index, Start: j.Start, Log: logOf(lineOf(j.Log), nil)}, Shard: impl.ReplayJournal(j).Shard,
		})
	}
}

// eventArgs are right and wrong ones, and such that a shard refuses.
func eventArgs() []impl.Event {
	d := dice(214)
	list := append(wrongEvents(), busyEvents()...)
	for _, r := range refusedEvents {
		list = append(list, r.e)
	}
	for _, n := range []int64{farLow, -1, 0, 1, 7, maxId, maxId + 1, farHigh} {
		for _, outcome := range []int64{farLow, 0, 1, 2, 3, farHigh} {
			c := moves(n, 3, 1, 2)
			list = append(list, tells(n, outcome), impl.Event{Vote: true, Contract: c, Outcome: outcome}, impl.Event{Contract: c, Outcome: outcome})
		}
	}
	world := d.shardWorld(8)
	for range 60 {
		list = append(list, d.anyEvent(world, busyShard()))
	}
	return append(list, impl.Event{Vote: true, Contract: impl.Contract{Id: 7, Legs: []impl.Leg{}}}, impl.Event{Contract: impl.Contract{Id: 7, Legs: []impl.Leg{}}, Outcome: 1})
}

// Promise 1 for events and their bytes.
func TestEventAnswersAreNewMemory(t *testing.T) {
	d := dice(215)
	for _, e := range eventArgs() {
		checkPure(t, "EventFault", impl.EventFault, e)
		checkPure(t, "PackEvent", impl.PackEvent, e)
		data := rawEvent(e)
		checkPure(t, "UnpackEvent", impl.UnpackEvent, data)
		checkPure(t, "UnpackEvent", impl.UnpackEvent, data[:d.below(int64(len(data)))])
		checkPure(t, "UnpackEvent", impl.UnpackEvent, append(slices.Clone(data), 0))
	}
	for _, data := range [][]byte{nil, {}, {0}, {1}, {2}, {3}, d.bytes(40), make([]byte, 500), make([]byte, 7000)} {
		checkPure(t, "UnpackEvent", impl.UnpackEvent, data)
	}
}

// journalArgs are right and wrong ones for the functions of chapter 14.
func journalArgs() []impl.Journal {
	d := dice(216)
	list := []impl.Journal{
		{}, busyJournal(), journalOf(nil, nil), journalOf(busyEvents(), nil), journalOf(nil, busyEvents()), journalOf(fullEvents(60), nil), journalOf(fullEvents(30), fullEvents(60)[30:]),
		journalOf(votesOf(0, 0)[:59], nil), journalOf(nil, votesOf(0, 0)[:59]), {Start: bals(), Log: logOf([]byte{}, []byte{})},
		{Index: 3}, {Index: farLow, Start: bals(bal(farLow, farHigh, farLow))}, {Index: farHigh, Start: slices.Repeat(fullShard(1), 3)}, {Start: make([]impl.Balance, 3)},
	}
	for _, f := range faultyLogs() {
		list = append(list, journalAt(f.log.Synced, f.log.Loose))
	}
	for _, r := range refusedEvents {
		list = append(list, journalOf(busyEvents(), eventsOf(r.e)))
	}
	for range 30 {
		list = append(list, d.journal(), d.anyJournal())
	}
	return list
}

// Promise 1: an answer at every argument that hangs on it alone, in new
// memory, also where nothing changes.
func TestJournalAnswersAreNewMemory(t *testing.T) {
	t.Parallel()
	events := eventArgs()
	for i, j := range journalArgs() {
		checkPure(t, "JournalFault", impl.JournalFault, j)
		checkPure(t, "ReplayJournal", impl.ReplayJournal, j)
		checkPure(t, "EventsOf", impl.EventsOf, j)
		for at, e := range events {
			if at%13 == i%13 || e.Vote && e.Outcome == 0 && at < 20 {
				checkPure(t, "WriteEvent", impl.WriteEvent, j, e, true)
				checkPure(t, "WriteEvent", impl.WriteEvent, j, e, false)
			}
		}
		loose := int64(len(j.Log.Loose))
		for _, kept := range []int64{farLow, -1, 0, 1, 15, loose / 2, loose - 1, loose, loose + 1, farHigh} {
			checkPure(t, "CrashJournal", impl.CrashJournal, j, kept)
		}
	}
}

// journalCalls are all functions that may be asked of a journal.
func journalCalls() map[string]func(j impl.Journal) any {
	calls := map[string]func(j impl.Journal) any{
		"JournalFault":  func(j impl.Journal) any { return impl.JournalFault(j) },
		"ReplayJournal": func(j impl.Journal) any { return impl.ReplayJournal(j) },
		"EventsOf":      func(j impl.Journal) any { return impl.EventsOf(j) },
	}
	for _, kept := range []int64{-1, 0, 1, 14, 40} {
		calls[fmt.Sprint("CrashJournal ", kept)] = func(j impl.Journal) any { return impl.CrashJournal(j, kept) }
	}
	for i, e := range append(wrongEvents(), asks(moves(2, 0, 0, -4)), asks(moves(20, 3, 1, 1)), tells(2, 1), tells(77, 2), tells(4, 2)) {
		for _, sync := range []bool{true, false} {
			calls[fmt.Sprint("WriteEvent ", i, sync)] = func(j impl.Journal) any { return impl.WriteEvent(j, e, sync) }
		}
	}
	return calls
}

// Synced and loose bytes that lie in one memory, with room behind them, are
// not changed, and no answer lies there.
func TestJournalsOfOneMemoryAreNotChanged(t *testing.T) {
	d := dice(217)
	list := []impl.Journal{busyJournal(), journalOf(busyEvents(), nil), journalOf(nil, busyEvents())}
	for range 30 {
		list = append(list, d.journal())
	}
	for _, apart := range list {
		line, at := append(lineOf(apart.Log), 0, 1, 1, 3, 1), len(apart.Log.Synced)
		j := impl.Journal{Index: apart.Index, Start: slices.Grow(slices.Clone(apart.Start), 4), Log: logOf(line[:at], line[at:len(line)-5])}
		before := whole(reflect.ValueOf(j))
		for name, call := range journalCalls() {
			got, want := call(j), call(apart)
			if !reflect.DeepEqual(got, want) {
				t.Fatalf("%s of %v: %v, want %v", name, j, got, want)
			}
			checkApart(t, reflect.ValueOf(got), reflect.ValueOf(j))
			if !reflect.DeepEqual(whole(reflect.ValueOf(j)), before) {
				t.Fatalf("%s changed %v", name, apart)
			}
		}
	}
}

// A contract whose legs are written again and again, from one memory: each
// record, each shard and each event has legs of its own.
func TestEventsOfOneMemoryAreNotChanged(t *testing.T) {
	legs := slices.Grow(moves(0, 3, 1, 2).Legs, 4)
	before := whole(reflect.ValueOf(legs))
	j := journalOf(nil, nil)
	for id := range int64(3) {
		r := impl.WriteEvent(j, asks(impl.Contract{Id: id + 1, Legs: legs}), false)
		checkCode(t, "of one memory", r.Code, impl.OK)
		checkApart(t, reflect.ValueOf(r), reflect.ValueOf(legs))
		j = r.Journal
	}
	checkEvents(t, "of one memory", j, eventsOf(asks(moves(1, 3, 1, 2)), asks(moves(2, 3, 1, 2)), asks(moves(3, 3, 1, 2))))
	checkApart(t, reflect.ValueOf(impl.EventsOf(j)), reflect.ValueOf(j))
	if !reflect.DeepEqual(whole(reflect.ValueOf(legs)), before) {
		t.Errorf("changed: %v", legs)
	}
}

// Two calls behind one journal are two journals: neither is seen in the other,
// nor in what came ahead.
func TestTwoCallsBehindOneJournal(t *testing.T) {
	d := dice(218)
	for range 200 {
		j := d.journal()
		before := cloneJournal(j)
		world := shardWorld{start: impl.ReplayJournal(j).Shard, contracts: heldOf(d.rightContract(), moves(2, 1, 1, 3), moves(3, 0, 0, 1))}
		a, b, kept := d.anyEvent(world, world.start), d.anyEvent(world, world.start), d.below(int64(len(j.Log.Loose)+1))
		first, second, third := impl.WriteEvent(j, a, true), impl.WriteEvent(j, b, false), impl.CrashJournal(j, kept)
		checkJournalResult(t, "the first one", first, wantWriteEvent(before, a, true))
		scramble(reflect.ValueOf(&first).Elem())
		checkJournalResult(t, "the second one", second, wantWriteEvent(before, b, false))
		scramble(reflect.ValueOf(&second).Elem())
		checkJournalResult(t, "the third one", third, wantCrashJournal(before, kept))
		scramble(reflect.ValueOf(&third).Elem())
		if !sameJournals(j, before) {
			t.Fatalf("%v: changed", before)
		}
	}
}

// Nil and what is empty are one value: they have one answer.
func TestJournalsOfNilAndEmpty(t *testing.T) {
	for index := range int64(4) {
		none := impl.Journal{Index: index}
		empty := impl.Journal{Index: index, Start: make([]impl.Balance, 0, 3), Log: logOf(make([]byte, 0, 20), make([]byte, 0, 20))}
		for name, call := range journalCalls() {
			if a, b := call(none), call(empty); !reflect.DeepEqual(a, b) {
				t.Errorf("%s: nil %v, empty %v", name, a, b)
			}
		}
	}
	none, empty := tells(7, impl.OutcomeNot), impl.Event{Contract: impl.Contract{Id: 7, Legs: make([]impl.Leg, 0, 3)}, Outcome: impl.OutcomeNot}
	for _, vote := range []bool{false, true} {
		none.Vote, empty.Vote = vote, vote
		pairs := [][2]any{
			{impl.EventFault(none), impl.EventFault(empty)},
			{impl.PackEvent(none), impl.PackEvent(empty)},
			{impl.WriteEvent(busyJournal(), none, true), impl.WriteEvent(busyJournal(), empty, true)},
			{impl.WriteEvent(busyJournal(), none, false), impl.WriteEvent(busyJournal(), empty, false)},
			{impl.UnpackEvent(nil), impl.UnpackEvent([]byte{})},
		}
		for i, p := range pairs {
			if !reflect.DeepEqual(p[0], p[1]) {
				t.Errorf("pair %d: nil %v, empty %v", i, p[0], p[1])
			}
		}
	}
}
