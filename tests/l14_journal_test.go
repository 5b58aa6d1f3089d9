package tests

import (
	"fmt"
	"slices"
	"testing"

	"loop.example/g00203/impl"
)

// noRecord is the frame of bytes that are no event's.
func noRecord() []byte {
	return wantFrame([]byte{3})
}

// notHere is a right contract that has no leg at shard 1.
func notHere(id int64) impl.Contract {
	return contract(id, leg(0, 0, 0, 1), leg(2, 0, 0, -1))
}

// refusedEvents are such that no shard takes behind the busyEvents, though
// each of them is right.
var refusedEvents = []struct {
	name string
	e    impl.Event
	code int64
}{
	{"a vote without a leg here", asks(notHere(99)), impl.ErrNone},
	{"a vote that was given, without a leg here", asks(notHere(2)), impl.ErrNone},
	{"done, and nobody asked", tells(98, impl.OutcomeDone), impl.ErrForm},
	{"done, and voted against", tells(3, impl.OutcomeDone), impl.ErrForm},
	{"done, told as not", tells(5, impl.OutcomeDone), impl.ErrTaken},
	{"done, told as not ahead of a vote", tells(1, impl.OutcomeDone), impl.ErrTaken},
	{"not, told as done", tells(4, impl.OutcomeNot), impl.ErrTaken},
}

// Where a journal's log is cut between synced and loose bytes, its events are
// told the same.
func TestEventsOfARightLog(t *testing.T) {
	checkEvents(t, "nothing at all", impl.Journal{}, nil)
	checkEvents(t, "empty ones", journalAt([]byte{}, []byte{}), nil)
	list := busyEvents()
	line := eventFrames(list...)
	for at := range len(line) + 1 {
		checkJournalRight(t, fmt.Sprint("cut at ", at), journalAt(line[:at], line[at:]), list)
	}
	for n := range len(list) + 1 {
		checkJournalRight(t, "the first ones", journalOf(list[:n/2], list[n/2:n]), list[:n])
	}
	for _, n := range []int{59, 60} {
		checkJournalRight(t, "as many as may be", journalOf(fullEvents(n), nil), fullEvents(n))
		checkJournalRight(t, "as many loose ones", journalOf(nil, fullEvents(n)), fullEvents(n))
	}
	checkJournalRight(t, "the ends of a contract's numbers", journalOf(nil, eventsOf(tells(1, 2), tells(maxId, 2))), eventsOf(tells(1, 2), tells(maxId, 2)))
}

// EventsOf asks neither where the journal began nor what a shard does.
func TestEventsOfAsksTheLogAlone(t *testing.T) {
	list := eventsOf(asks(notHere(7)), tells(8, impl.OutcomeDone), tells(8, impl.OutcomeNot))
	for _, index := range indexCases {
		for _, start := range balancesCases {
			j := impl.Journal{Index: index.index, Start: start.list, Log: logOf(eventFrames(list[:1]...), eventFrames(list[1:]...))}
			checkEvents(t, "index "+index.name+", start "+start.name, j, list)
		}
	}
}

type faultyLog struct {
	log  impl.Log
	code int64
}

// lengthened is a log with one byte too many.
func lengthened(l impl.Log) impl.Log {
	return logOf(l.Synced, append(slices.Clone(l.Loose), make([]byte, 6001-len(lineOf(l)))...))
}

// faultyLogs have no events, or too many: each LogFault, records that are none,
// tails that are none, and several of these together.
func faultyLogs() map[string]faultyLog {
	list := busyEvents()
	line, many, torn := eventFrames(list...), eventFrames(fullEvents(61)...), eventFrames(tells(1, 2))[:13]
	changed := eventFrames(list...)
	changed[len(changed)-1]++
	return map[string]faultyLog{
		"too many bytes synced":             {noughts(6001, 0), impl.ErrMany},
		"too many bytes loose":              {noughts(0, 6001), impl.ErrMany},
		"too many bytes of both":            {noughts(3000, 3001), impl.ErrMany},
		"too many bytes, a record none":     {lengthened(logOf(noRecord(), nil)), impl.ErrMany},
		"too many bytes, and events":        {lengthened(logOf(many, nil)), impl.ErrMany},
		"all bytes, a tail none":            {noughts(6000, 0), impl.ErrText},
		"a record none, alone":              {logOf(noRecord(), nil), impl.ErrText},
		"a record none, loose":              {logOf(line, noRecord()), impl.ErrText},
		"a record none, first":              {logOf(slices.Concat(noRecord(), line), nil), impl.ErrText},
		"a record none, in the middle":      {logOf(slices.Concat(line, noRecord()), eventFrames(tells(1, 2))), impl.ErrText},
		"a record of an event with a fault": {logOf(line, eventFrames(tells(1, 3))), impl.ErrText},
		"a record of a vote with a fault":   {logOf(line, eventFrames(asks(contract(7)))), impl.ErrText},
		"a record one byte too long":        {logOf(line, wantFrame(append(rawEvent(tells(1, 2)), 0))), impl.ErrText},
		"a record of 500 bytes":             {logOf(wantFrame(make([]byte, 500)), nil), impl.ErrText},
		"a tail none, alone":                {logOf(nil, torn), impl.ErrText},
		"a tail none, of one byte":          {logOf(line, []byte{0}), impl.ErrText},
		"a tail none, synced":               {logOf(slices.Concat(line, torn), nil), impl.ErrText},
		"a tail none, loose":                {logOf(line, torn), impl.ErrText},
		"a tail none, synced, and events":   {logOf(torn, line), impl.ErrText},
		"a record that was changed":         {logOf(changed, nil), impl.ErrText},
		"a record and a tail none":          {logOf(noRecord(), torn), impl.ErrText},
		"61 events":                         {logOf(many, nil), impl.ErrMany},
		"61 loose events":                   {logOf(nil, many), impl.ErrMany},
		"61 events, half of them loose":     {logOf(eventFrames(fullEvents(61)[:30]...), eventFrames(fullEvents(61)[30:]...)), impl.ErrMany},
		"very many events":                  {logOf(eventFrames(fullEvents(200)...), nil), impl.ErrMany},
		"61 events, a tail none":            {logOf(many, torn), impl.ErrText},
		"61 events, a record none last":     {logOf(many, noRecord()), impl.ErrText},
		"61 events, a record none first":    {logOf(noRecord(), many), impl.ErrText},
		"60 events, a record none last":     {logOf(eventFrames(fullEvents(60)...), noRecord()), impl.ErrText},
	}
}

func TestLogsWithoutEvents(t *testing.T) {
	for name, f := range faultyLogs() {
		j := journalAt(f.log.Synced, f.log.Loose)
		checkEventsResult(t, name, impl.EventsOf(j), impl.EventsResult{Code: f.code})
		checkEventsResult(t, name+", told once more", wantEventsOf(j), impl.EventsResult{Code: f.code})
		checkJournalFaulted(t, name, j, f.code)
		far := impl.Journal{Index: farHigh, Start: bals(bal(farLow, 0, 0)), Log: f.log}
		checkEventsResult(t, name+", of no shard", impl.EventsOf(far), impl.EventsResult{Code: f.code})
	}
}

// Index and Start: each code of NewShard, ahead of all that a log may have.
func TestJournalsOfNoShard(t *testing.T) {
	logs := []impl.Log{{}, busyJournal().Log, logOf(noRecord(), []byte{0}), noughts(6001, 0), logOf(eventFrames(fullEvents(61)...), nil), logOf(eventFrames(asks(notHere(7))), nil)}
	for _, index := range indexCases {
		for _, start := range balancesCases {
			what := "index " + index.name + ", start " + start.name
			want := index.want
			if want == impl.OK {
				want = start.want
			}
			j := impl.Journal{Index: index.index, Start: start.list}
			if want == impl.OK {
				checkJournalRight(t, what, j, nil)
				continue
			}
			for _, j.Log = range logs {
				checkJournalFaulted(t, what, j, want)
			}
		}
	}
}

// An event that the shard refuses: wherever it stands, it is the code of the
// first such one, behind those of all the log's records.
func TestJournalsOfRefusedEvents(t *testing.T) {
	list := busyEvents()
	for _, r := range refusedEvents {
		line, refused := eventFrames(list...), eventFrames(r.e)
		checkJournalFaulted(t, r.name+", last", journalAt(line, refused), r.code)
		checkJournalFaulted(t, r.name+", in the middle", journalAt(slices.Concat(line, refused), eventFrames(tells(1, impl.OutcomeNot))), r.code)
		checkJournalFaulted(t, r.name+", twice", journalAt(line, slices.Concat(refused, refused)), r.code)
		checkJournalFaulted(t, r.name+", last of 60", journalOf(fullEvents(59), eventsOf(r.e)), r.code)
		for _, later := range refusedEvents {
			checkJournalFaulted(t, r.name+", then "+later.name, journalAt(line, slices.Concat(refused, eventFrames(later.e))), r.code)
		}
		checkJournalFaulted(t, r.name+", behind 60", journalOf(fullEvents(60), eventsOf(r.e)), impl.ErrMany)
		checkJournalFaulted(t, r.name+", then a record none", journalAt(line, slices.Concat(refused, noRecord())), impl.ErrText)
		checkJournalFaulted(t, r.name+", then a tail none", journalAt(line, append(slices.Clone(refused), 0)), impl.ErrText)
	}
	for _, e := range eventsOf(asks(notHere(99)), asks(notHere(2))) {
		checkJournalFaulted(t, "refused, first", journalAt(eventFrames(e), eventFrames(list...)), impl.ErrNone)
	}
	checkJournalFaulted(t, "refused, first", journalOf(eventsOf(tells(4, impl.OutcomeDone)), list), impl.ErrForm)
	checkJournalFaulted(t, "refused, alone", journalOf(nil, eventsOf(tells(4, impl.OutcomeDone))), impl.ErrForm)
	checkJournalFaulted(t, "refused by what came ahead", journalOf(eventsOf(tells(4, impl.OutcomeNot)), list), impl.ErrTaken)
}

// WriteEvent without sync leaves it loose, behind what is loose already; with
// sync nothing is loose any more.
func TestWriteEventSynced(t *testing.T) {
	list := busyEvents()
	for n := range len(list) {
		for synced := range n + 1 {
			j := journalOf(list[:synced], list[synced:n])
			checkWritten(t, "loose", impl.WriteEvent(j, list[n], false), list[:synced], list[synced:n+1])
			checkWritten(t, "synced", impl.WriteEvent(j, list[n], true), list[:n+1], nil)
		}
	}
	j := journalOf(nil, nil)
	for n, e := range list {
		r := impl.WriteEvent(j, e, n == 3)
		at := 0
		if n >= 3 {
			at = 4
		}
		checkWritten(t, "one behind the other", r, list[:at], list[at:n+1])
		j = r.Journal
	}
	if !sameJournals(j, busyJournal()) {
		t.Errorf("%v, want %v", j, busyJournal())
	}
}

// The index and the start of a journal are those that it had.
func TestWriteEventElsewhere(t *testing.T) {
	for index := range int64(3) {
		for _, start := range [][]impl.Balance{nil, bals(), bals(bal(1, 1, 7)), fullShard(impl.MaxAmount)} {
			j := impl.Journal{Index: index, Start: start}
			for _, e := range eventsOf(asks(chain(7, 8)), asks(chain(1, 3)), tells(maxId, impl.OutcomeNot)) {
				for _, sync := range []bool{true, false} {
					r := impl.WriteEvent(j, e, sync)
					checkJournalResult(t, "elsewhere", r, wantWriteEvent(j, e, sync))
					checkJournalRight(t, "elsewhere", r.Journal, append(impl.EventsOf(j).Events, e))
					j = r.Journal
				}
			}
		}
	}
}

// An event that is refused leaves no record: its code, and all else zero.
func TestWriteEventRefused(t *testing.T) {
	for _, sync := range []bool{true, false} {
		for _, j := range []impl.Journal{busyJournal(), journalOf(busyEvents(), nil), journalOf(nil, busyEvents()), journalOf(fullEvents(59), nil), journalOf(fullEvents(60), nil)} {
			before := cloneJournal(j)
			for _, r := range refusedEvents {
				checkJournalCode(t, r.name, impl.WriteEvent(j, r.e, sync), r.code)
			}
			for _, e := range wrongEvents() {
				checkJournalCode(t, "a wrong one", impl.WriteEvent(j, e, sync), wantEventFault(e))
			}
			if !sameJournals(j, before) {
				t.Errorf("%v is %v now", before, j)
			}
			checkJournalRight(t, "behind what is refused", j, impl.EventsOf(j).Events)
		}
		checkJournalCode(t, "a new journal", impl.WriteEvent(journalOf(nil, nil), asks(notHere(7)), sync), impl.ErrNone)
		checkJournalCode(t, "a new journal", impl.WriteEvent(journalOf(nil, nil), tells(7, impl.OutcomeDone), sync), impl.ErrForm)
	}
}

// Where the EventFault and the shard's code are other ones, the EventFault is
// told.
func TestWriteEventFaultAheadOfTheShard(t *testing.T) {
	cases := []struct {
		name string
		e    impl.Event
		code int64
	}{
		{"no leg here, and an outcome", impl.Event{Vote: true, Contract: notHere(99), Outcome: 1}, impl.ErrForm},
		{"no leg here, and sums", asks(contract(99, leg(0, 0, 0, 1), leg(2, 0, 0, 1))), impl.ErrForm},
		{"one leg, not here", asks(contract(99, leg(0, 0, 0, 1))), impl.ErrMany},
		{"done, told as not, with legs", impl.Event{Contract: moves(5, 1, 1, 9), Outcome: impl.OutcomeDone}, impl.ErrForm},
		{"told so, with legs", impl.Event{Contract: moves(4, 0, 0, -6), Outcome: impl.OutcomeDone}, impl.ErrForm},
		{"nobody asked, and outcome 3", tells(98, 3), impl.ErrRange},
	}
	for _, c := range cases {
		for _, j := range []impl.Journal{busyJournal(), journalOf(fullEvents(60), nil)} {
			checkJournalCode(t, c.name, impl.WriteEvent(j, c.e, true), c.code)
			checkJournalCode(t, c.name, impl.WriteEvent(j, c.e, false), c.code)
		}
	}
}

// At most MaxEvents, whatever they are; what the shard refuses is told ahead.
func TestWriteEventUpToMaxEvents(t *testing.T) {
	taken := eventsOf(asks(moves(20, 3, 1, 1)), asks(moves(2, 0, 0, -4)), tells(4, impl.OutcomeDone), tells(2, impl.OutcomeDone), tells(77, impl.OutcomeNot))
	for _, sync := range []bool{true, false} {
		for _, e := range taken {
			list := fullEvents(59)
			all := append(slices.Clone(list), e)
			r := impl.WriteEvent(journalOf(list, nil), e, sync)
			if sync {
				checkWritten(t, "the 60th", r, all, nil)
			} else {
				checkWritten(t, "the 60th", r, list, eventsOf(e))
			}
			checkJournalCode(t, "the 61st", impl.WriteEvent(r.Journal, e, sync), impl.ErrMany)
			checkJournalCode(t, "the 61st", impl.WriteEvent(journalOf(nil, fullEvents(60)), e, sync), impl.ErrMany)
		}
	}
}

// votesOf are 60 votes, of 8 legs but for so many that are missing, spread over
// some of them; 6 that are missing leave 5994 bytes, 5 leave 6005.
func votesOf(missing, each int) []impl.Event {
	var list []impl.Event
	for range 60 {
		n := min(each, missing)
		list = append(list, asks(chain(7, 8-n)))
		missing -= n
	}
	return list
}

// A log of fewer than MaxEvents may have no room: 59 votes of 8 legs leave it
// for one of 2.
func TestWriteEventUpToMaxBytes(t *testing.T) {
	for each := 1; each <= 6; each++ {
		for _, first := range []bool{true, false} {
			fits, above := votesOf(6, each), votesOf(5, each)
			if first {
				slices.Reverse(fits)
				slices.Reverse(above)
			}
			for _, synced := range []int{0, 30, 59} {
				j := journalOf(fits[:synced], fits[synced:59])
				checkWritten(t, "it has room", impl.WriteEvent(j, fits[59], true), fits, nil)
				checkWritten(t, "it has room", impl.WriteEvent(j, fits[59], false), fits[:synced], fits[synced:])
				j = journalOf(above[:synced], above[synced:59])
				checkJournalRight(t, "without the last one", j, above[:59])
				checkJournalCode(t, "it has no room", impl.WriteEvent(j, above[59], true), impl.ErrMany)
				checkJournalCode(t, "it has no room", impl.WriteEvent(j, above[59], false), impl.ErrMany)
			}
		}
	}
}

// What is wrong, or refused, is told ahead of the room that there is not.
func TestWriteEventWithoutRoom(t *testing.T) {
	list := votesOf(0, 0)[:59]
	for _, j := range []impl.Journal{journalOf(list, nil), journalOf(nil, list)} {
		for _, sync := range []bool{true, false} {
			checkJournalCode(t, "no room", impl.WriteEvent(j, asks(chain(8, 3)), sync), impl.ErrMany)
			checkJournalCode(t, "refused", impl.WriteEvent(j, asks(contract(8, leg(0, 0, 0, 1), leg(2, 0, 0, 1), leg(2, 1, 0, -2))), sync), impl.ErrNone)
			checkJournalCode(t, "wrong", impl.WriteEvent(j, impl.Event{Vote: true, Contract: chain(8, 8), Outcome: 1}, sync), impl.ErrForm)
			for _, e := range eventsOf(tells(7, impl.OutcomeDone), tells(8, impl.OutcomeNot), asks(chain(8, 2))) {
				r := impl.WriteEvent(j, e, sync)
				checkCode(t, "room", r.Code, impl.OK)
				checkJournalResult(t, "room", r, wantWriteEvent(j, e, sync))
			}
		}
	}
}

// writtenOf writes the events one behind the other; each n-th is synced, and
// none where n is 0.
func writtenOf(t *testing.T, n int, list ...impl.Event) impl.Journal {
	t.Helper()
	j := journalOf(nil, nil)
	for i, e := range list {
		r := impl.WriteEvent(j, e, n > 0 && i%n == n-1)
		checkCode(t, "WriteEvent", r.Code, impl.OK)
		j = r.Journal
	}
	return j
}

// The same vote and the same outcome twice: each time a record, and the shard
// is as it was.
func TestWriteEventTwice(t *testing.T) {
	for _, sync := range []bool{true, false} {
		for _, e := range busyEvents() {
			j := journalOf(busyEvents(), nil)
			for n := range 3 {
				r := impl.WriteEvent(j, e, sync)
				checkCode(t, "once more", r.Code, impl.OK)
				if !sameShards(r.Shard, impl.ReplayJournal(busyJournal()).Shard) {
					t.Errorf("%v once more: %v", e, r.Shard)
				}
				checkJournalRight(t, "once more", r.Journal, append(busyEvents(), slices.Repeat(eventsOf(e), n+1)...))
				j = r.Journal
			}
		}
	}
}

// Another contract of a number that was voted on is told the vote that there
// is; its record stands there nevertheless.
func TestWriteEventOfAnotherContract(t *testing.T) {
	held, other := asks(moves(7, 0, 0, -4)), asks(moves(7, 3, 1, 2))
	r := impl.WriteEvent(writtenOf(t, 1, held), other, true)
	checkWritten(t, "another contract", r, eventsOf(held, other), nil)
	checkNumbers(t, "InDoubt", impl.InDoubt(r.Shard), impl.IntsResult{List: []int64{7}})
	if !slices.EqualFunc(r.Shard.Held, heldOf(held.Contract), sameContracts) {
		t.Errorf("%v", r.Shard)
	}
	done := impl.WriteEvent(r.Journal, tells(7, impl.OutcomeDone), false)
	checkWritten(t, "the first one is done", done, eventsOf(held, other), eventsOf(tells(7, impl.OutcomeDone)))
	checkNumber(t, "what it took", impl.IntResult{Value: hasHere(done.Shard, 0, 0)}, impl.IntResult{Value: 6})
}

// A vote behind an outcome: the shard says ValueNot, if it was not asked
// ahead, and else what it said.
func TestWriteEventBehindAnOutcome(t *testing.T) {
	c := moves(7, 0, 0, -4)
	ahead := impl.WriteEvent(journalOf(nil, nil), tells(7, impl.OutcomeNot), false)
	checkWritten(t, "an outcome ahead of the vote", ahead, nil, eventsOf(tells(7, impl.OutcomeNot)))
	vote := impl.WriteEvent(ahead.Journal, asks(c), false)
	checkWritten(t, "a vote behind it", vote, nil, eventsOf(tells(7, impl.OutcomeNot), asks(c)))
	if toldIn(vote.Shard.Votes, 7) != impl.ValueNot || len(vote.Shard.Held) != 0 {
		t.Errorf("%v", vote.Shard)
	}
	for outcome := int64(1); outcome <= 2; outcome++ {
		list := eventsOf(asks(c), tells(7, outcome))
		r := impl.WriteEvent(writtenOf(t, 2, list...), asks(c), false)
		checkWritten(t, "a vote behind its outcome", r, list, eventsOf(asks(c)))
		if toldIn(r.Shard.Votes, 7) != impl.ValueReady || len(r.Shard.Held) != 0 || toldIn(r.Shard.Done, 7) != outcome {
			t.Errorf("%v", r.Shard)
		}
	}
}

// CrashJournal of each kept: what is whole of the records stays, synced, and
// nothing is loose.
func TestCrashJournal(t *testing.T) {
	list := busyEvents()
	for synced := range len(list) + 1 {
		j := journalOf(list[:synced], list[synced:])
		for kept := range int64(len(j.Log.Loose)) + 1 {
			n := synced
			for n < len(list) && int64(len(eventFrames(list[synced:n+1]...))) <= kept {
				n++
			}
			checkWritten(t, fmt.Sprint("synced ", synced, ", kept ", kept), impl.CrashJournal(j, kept), list[:n], nil)
		}
		loose := int64(len(j.Log.Loose))
		for _, kept := range []int64{farLow, farLow + 1, -6000, -1, loose + 1, loose + 2, 6001, 1 << 32, farHigh - 1, farHigh} {
			checkJournalCode(t, "kept out of range", impl.CrashJournal(j, kept), impl.ErrRange)
		}
	}
}

func TestCrashJournalWithNothingLoose(t *testing.T) {
	for _, list := range [][]impl.Event{nil, busyEvents()[:1], busyEvents(), fullEvents(60)} {
		for _, j := range []impl.Journal{journalOf(list, nil), journalAt(eventFrames(list...), []byte{})} {
			checkWritten(t, "nothing loose", impl.CrashJournal(j, 0), list, nil)
			checkJournalCode(t, "one below", impl.CrashJournal(j, -1), impl.ErrRange)
			checkJournalCode(t, "one above", impl.CrashJournal(j, 1), impl.ErrRange)
		}
	}
}

// A record that begins in the synced bytes and ends in the loose ones is torn
// by a crash that keeps too few: no call makes such a log, but it has no fault.
func TestCrashJournalOfARecordInBoth(t *testing.T) {
	list := busyEvents()
	line := eventFrames(list...)
	for at := range len(line) + 1 {
		for _, kept := range []int64{0, 1, 13, 40, int64(len(line) - at)} {
			j := journalAt(line[:at], line[at:])
			if kept > int64(len(line)-at) {
				continue
			}
			n := 0
			for n < len(list) && len(eventFrames(list[:n+1]...)) <= at+int(kept) {
				n++
			}
			checkWritten(t, fmt.Sprint("cut at ", at, ", kept ", kept), impl.CrashJournal(j, kept), list[:n], nil)
		}
	}
}

// Behind a crash in the middle of a record the next event is read, and so it
// is behind a crash that follows one.
func TestJournalsGoOnBehindACrash(t *testing.T) {
	list := busyEvents()
	next := tells(50, impl.OutcomeNot)
	last := int64(len(eventFrames(list[7])))
	for kept := range last {
		crashed := impl.CrashJournal(journalOf(list[:7], list[7:]), kept)
		checkWritten(t, "crashed", crashed, list[:7], nil)
		checkWritten(t, "crashed again", impl.CrashJournal(crashed.Journal, 0), list[:7], nil)
		r := impl.WriteEvent(crashed.Journal, next, false)
		checkWritten(t, "written behind a crash", r, list[:7], eventsOf(next))
		for again := range int64(len(eventFrames(next))) {
			checkWritten(t, "crashed behind that", impl.CrashJournal(r.Journal, again), list[:7], nil)
		}
		s := impl.WriteEvent(r.Journal, list[7], true)
		checkWritten(t, "synced behind a crash", s, append(slices.Clone(list[:7]), next, list[7]), nil)
		checkWritten(t, "crashed behind a sync", impl.CrashJournal(s.Journal, 0), append(slices.Clone(list[:7]), next, list[7]), nil)
	}
}
