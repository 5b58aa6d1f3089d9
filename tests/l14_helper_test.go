package tests

import (
	"bytes"
	"cmp"
	"encoding/binary"
	"slices"
	"testing"

	"loop.example/g00203/impl"
)

// asks is the event of a vote, tells that of an outcome.
func asks(c impl.Contract) impl.Event {
	return impl.Event{Vote: true, Contract: c}
}

func tells(id, outcome int64) impl.Event {
	return impl.Event{Contract: impl.Contract{Id: id}, Outcome: outcome}
}

func eventsOf(list ...impl.Event) []impl.Event {
	return list
}

// callOf is what an event without a fault does to a shard.
func callOf(e impl.Event) shardCall {
	return shardCall{c: e.Contract, outcome: e.Outcome}
}

// eventOf is the event of what a shard is asked or told.
func eventOf(x shardCall) impl.Event {
	if x.outcome == impl.OutcomeNone {
		return asks(x.c)
	}
	return tells(x.c.Id, x.outcome)
}

// rawEvent packs whatever there is, so that bytes of events with a fault can
// be told; of an outcome its lowest byte stands there.
func rawEvent(e impl.Event) []byte {
	if e.Vote {
		return append([]byte{1}, rawContract(e.Contract)...)
	}
	return slices.Concat([]byte{2}, wantNumber(e.Contract.Id), []byte{byte(e.Outcome)})
}

func eventFrames(list ...impl.Event) []byte {
	var all []byte
	for _, e := range list {
		all = append(all, wantFrame(rawEvent(e))...)
	}
	return all
}

// journalAt is one of shard 1, where every account has 10 of all assets.
func journalAt(synced, loose []byte) impl.Journal {
	return impl.Journal{Index: 1, Start: fullShard(10), Log: logOf(synced, loose)}
}

func journalOf(synced, loose []impl.Event) impl.Journal {
	return journalAt(eventFrames(synced...), eventFrames(loose...))
}

// busyEvents make a shard of all that one can have: 2 and 6 are held, 3 was
// voted against, 4 is done, 5 is not, and 1 is not, though nobody asked.
func busyEvents() []impl.Event {
	return eventsOf(
		asks(moves(4, 0, 0, -6)), tells(4, impl.OutcomeDone), asks(moves(2, 0, 0, -4)), asks(moves(3, 0, 0, 1)), tells(1, impl.OutcomeNot),
		asks(moves(5, 1, 1, 9)), tells(5, impl.OutcomeNot), asks(moves(6, 1, 2, 4)),
	)
}

// busyJournal has the first half of the busyEvents synced.
func busyJournal() impl.Journal {
	list := busyEvents()
	return journalOf(list[:4], list[4:])
}

// fullEvents are n right ones behind the busyEvents, of which none changes
// anything any more.
func fullEvents(n int) []impl.Event {
	list := busyEvents()
	for i := range n - len(list) {
		list = append(list, []impl.Event{asks(moves(3, 0, 0, 1)), tells(4, impl.OutcomeDone), tells(1, impl.OutcomeNot)}[i%3])
	}
	return list
}

func cloneEvent(e impl.Event) impl.Event {
	e.Contract = cloneContract(e.Contract)
	return e
}

func cloneJournal(j impl.Journal) impl.Journal {
	return impl.Journal{Index: j.Index, Start: slices.Clone(j.Start), Log: logOf(slices.Clone(j.Log.Synced), slices.Clone(j.Log.Loose))}
}

func sameEvent(a, b impl.Event) bool {
	return a.Vote == b.Vote && a.Outcome == b.Outcome && sameContracts(a.Contract, b.Contract)
}

func sameEvents(a, b []impl.Event) bool {
	return slices.EqualFunc(a, b, sameEvent)
}

func sameJournals(a, b impl.Journal) bool {
	return a.Index == b.Index && slices.Equal(a.Start, b.Start) && sameLogs(a.Log, b.Log)
}

// The want functions tell chapter 14 once more.
func wantEventFault(e impl.Event) int64 {
	form := int64(impl.OK)
	if e.Vote {
		if e.Outcome != 0 {
			form = impl.ErrForm
		}
		return cmp.Or(wantContractFault(e.Contract), form)
	}
	if len(e.Contract.Legs) != 0 {
		form = impl.ErrForm
	}
	return cmp.Or(wantMarksFault(marks(mark(e.Contract.Id, e.Outcome))), form)
}

func wantPackEvent(e impl.Event) impl.BytesResult {
	if code := wantEventFault(e); code != impl.OK {
		return impl.BytesResult{Code: code}
	}
	return impl.BytesResult{Bytes: rawEvent(e)}
}

// wantUnpackEvent asks of the two events that data may be whether data is what
// one of them is packed to.
func wantUnpackEvent(data []byte) impl.EventResult {
	var list []impl.Event
	if len(data) > 0 {
		list = append(list, asks(wantUnpackContract(data[1:]).Contract))
	}
	if len(data) == 10 {
		list = append(list, tells(int64(binary.BigEndian.Uint64(data[1:])), int64(data[9])))
	}
	for _, e := range list {
		if p := wantPackEvent(e); p.Code == impl.OK && bytes.Equal(p.Bytes, data) {
			return impl.EventResult{Event: e}
		}
	}
	return impl.EventResult{Code: impl.ErrText}
}

func wantEventsOf(j impl.Journal) impl.EventsResult {
	if code := wantLogFault(j.Log); code != impl.OK {
		return impl.EventsResult{Code: code}
	}
	read := wantReadLog(j.Log)
	torn := read.Used < int64(len(lineOf(j.Log)))
	var told impl.EventsResult
	for _, record := range read.Records {
		r := wantUnpackEvent(record)
		torn = torn || r.Code != impl.OK
		told.Events = append(told.Events, r.Event)
	}
	if torn {
		return impl.EventsResult{Code: impl.ErrText}
	}
	if len(told.Events) > 60 {
		return impl.EventsResult{Code: impl.ErrMany}
	}
	return told
}

func wantReplayJournal(j impl.Journal) impl.JournalResult {
	s, read := wantNewShard(j.Index, j.Start), wantEventsOf(j)
	if code := cmp.Or(s.Code, read.Code); code != impl.OK {
		return impl.JournalResult{Code: code}
	}
	for _, e := range read.Events {
		if s = callOf(e).want(s.Shard); s.Code != impl.OK {
			return impl.JournalResult{Code: s.Code}
		}
	}
	return impl.JournalResult{Journal: cloneJournal(j), Shard: s.Shard}
}

func wantJournalFault(j impl.Journal) int64 {
	return wantReplayJournal(j).Code
}

func wantWriteEvent(j impl.Journal, e impl.Event, sync bool) impl.JournalResult {
	told := wantReplayJournal(j)
	if code := cmp.Or(told.Code, wantEventFault(e)); code != impl.OK {
		return impl.JournalResult{Code: code}
	}
	s := callOf(e).want(told.Shard)
	if s.Code != impl.OK {
		return impl.JournalResult{Code: s.Code}
	}
	told.Shard = s.Shard
	told.Journal.Log.Loose = append(told.Journal.Log.Loose, eventFrames(e)...)
	if len(wantEventsOf(j).Events) >= 60 || len(lineOf(told.Journal.Log)) > 6000 {
		return impl.JournalResult{Code: impl.ErrMany}
	}
	if sync {
		told.Journal.Log = logOf(lineOf(told.Journal.Log), nil)
	}
	return told
}

func wantCrashJournal(j impl.Journal, kept int64) impl.JournalResult {
	if code := wantJournalFault(j); code != impl.OK {
		return impl.JournalResult{Code: code}
	}
	if kept < 0 || kept > int64(len(j.Log.Loose)) {
		return impl.JournalResult{Code: impl.ErrRange}
	}
	left := lineOf(j.Log)[:int64(len(j.Log.Synced))+kept]
	after := cloneJournal(j)
	after.Log = logOf(left[:wantUnframeAll(left).Used], nil)
	return wantReplayJournal(after)
}

func checkEvent(t *testing.T, what string, got, want impl.EventResult) {
	t.Helper()
	if got.Code != want.Code || !sameEvent(got.Event, want.Event) {
		t.Errorf("%s: %v, want %v", what, got, want)
	}
}

func checkEventsResult(t *testing.T, what string, got, want impl.EventsResult) {
	t.Helper()
	if got.Code != want.Code || !sameEvents(got.Events, want.Events) {
		t.Errorf("%s:\ngot  %v\nwant %v", what, got, want)
	}
}

func checkEvents(t *testing.T, what string, j impl.Journal, want []impl.Event) {
	t.Helper()
	checkEventsResult(t, what+": EventsOf", impl.EventsOf(j), impl.EventsResult{Events: want})
}

func checkJournalResult(t *testing.T, what string, got, want impl.JournalResult) {
	t.Helper()
	if got.Code != want.Code || !sameJournals(got.Journal, want.Journal) || !sameShards(got.Shard, want.Shard) {
		t.Errorf("%s:\ngot  %v\nwant %v", what, got, want)
	}
}

func checkJournalCode(t *testing.T, what string, got impl.JournalResult, code int64) {
	t.Helper()
	checkJournalResult(t, what, got, impl.JournalResult{Code: code})
}

// shardBy is what VoteShard and DecideShard of the events make of a new shard.
func shardBy(t *testing.T, j impl.Journal, events []impl.Event) impl.Shard {
	t.Helper()
	r := impl.NewShard(j.Index, j.Start)
	checkCode(t, "NewShard", r.Code, impl.OK)
	for _, e := range events {
		r = callOf(e).run(r.Shard)
		checkCode(t, "an event that was taken", r.Code, impl.OK)
	}
	return r.Shard
}

// checkJournalRight asks a journal without a fault for its events and the
// shard that they make.
func checkJournalRight(t *testing.T, what string, j impl.Journal, events []impl.Event) {
	t.Helper()
	checkCode(t, what+": JournalFault", impl.JournalFault(j), impl.OK)
	checkEvents(t, what, j, events)
	checkJournalResult(t, what+": ReplayJournal", impl.ReplayJournal(j), impl.JournalResult{Journal: j, Shard: shardBy(t, j, events)})
}

// checkWritten is of a call that tells no code: the journal has these events,
// of which the synced ones come first, and its shard is theirs.
func checkWritten(t *testing.T, what string, got impl.JournalResult, synced, loose []impl.Event) {
	t.Helper()
	want := impl.Journal{Index: got.Journal.Index, Start: got.Journal.Start, Log: logOf(eventFrames(synced...), eventFrames(loose...))}
	all := slices.Concat(synced, loose)
	checkJournalResult(t, what, got, impl.JournalResult{Journal: want, Shard: shardBy(t, want, all)})
	checkJournalRight(t, what, got.Journal, all)
}

// wrongEvents are such with a fault of each code.
func wrongEvents() []impl.Event {
	return eventsOf(
		impl.Event{}, impl.Event{Vote: true}, asks(moves(0, 0, 0, 1)), asks(contract(7)), asks(chain(7, 9)), asks(contract(7, leg(1, 0, 0, 1), leg(1, 0, 0, -1))),
		asks(contract(7, leg(1, 0, 0, 1), leg(0, 0, 0, 1))), impl.Event{Vote: true, Contract: moves(7, 0, 0, 1), Outcome: 1}, impl.Event{Contract: moves(7, 0, 0, 1), Outcome: 2},
		tells(0, 1), tells(7, 3), tells(farLow, farHigh),
	)
}

// checkJournalFaulted holds all functions that ask the JournalFault first
// against its code, whatever else they are given.
func checkJournalFaulted(t *testing.T, what string, j impl.Journal, code int64) {
	t.Helper()
	checkCode(t, what+": JournalFault", impl.JournalFault(j), code)
	checkCode(t, what+", told once more", wantJournalFault(j), code)
	checkJournalCode(t, what+": ReplayJournal", impl.ReplayJournal(j), code)
	given := append(wrongEvents(), asks(moves(2, 0, 0, -4)), asks(moves(99, 3, 1, 1)), asks(contract(99, leg(0, 0, 0, 1), leg(2, 0, 0, -1))), tells(4, 1), tells(4, 2), tells(98, 1), tells(98, 2))
	for _, e := range given {
		checkJournalCode(t, what+": WriteEvent, synced", impl.WriteEvent(j, e, true), code)
		checkJournalCode(t, what+": WriteEvent", impl.WriteEvent(j, e, false), code)
	}
	for _, kept := range []int64{farLow, -1, 0, 1, int64(len(j.Log.Loose)), int64(len(j.Log.Loose)) + 1, farHigh} {
		checkJournalCode(t, what+": CrashJournal", impl.CrashJournal(j, kept), code)
	}
}
