package tests

import (
	"cmp"
	"slices"
	"testing"

	"loop.example/g00203/impl"
)

// written is a journal that calls made of one with an empty log, and what they
// should have left in it: events that are synced, and loose ones.
type written struct {
	journal       impl.Journal
	synced, loose []impl.Event
}

func (w written) all() []impl.Event {
	return slices.Concat(w.synced, w.loose)
}

func frameSize(e impl.Event) int {
	return 4 + len(rawEvent(e))
}

// codeOf is what WriteEvent of e is to tell: by the words of the chapter, of
// the functions of chapter 10.
func (w written) codeOf(t *testing.T, e impl.Event) int64 {
	t.Helper()
	if code := wantEventFault(e); code != impl.OK {
		return code
	}
	var room int64
	if len(w.all()) >= 60 || len(lineOf(w.journal.Log))+frameSize(e) > 6000 {
		room = impl.ErrMany
	}
	return cmp.Or(callOf(e).run(shardBy(t, w.journal, w.all())).Code, room)
}

// leftBy are the events of which all bytes are left by a crash: those that are
// synced, and of the others the first ones.
func (w written) leftBy(kept int64) []impl.Event {
	n, size := 0, 0
	for n < len(w.loose) && int64(size+frameSize(w.loose[n])) <= kept {
		size += frameSize(w.loose[n])
		n++
	}
	return slices.Concat(w.synced, w.loose[:n])
}

// journalSeen counts what walks met, so that none of it is left out.
type journalSeen struct {
	taken, lost, left, full int
	refused                 map[int64]int
}

func newSeen() *journalSeen {
	return &journalSeen{refused: map[int64]int{}}
}

// write asks promise 15 of a call of WriteEvent: what is refused leaves
// nothing, what is taken stands behind all else.
func (s *journalSeen) write(t *testing.T, w written, e impl.Event, sync bool) written {
	t.Helper()
	r := impl.WriteEvent(w.journal, e, sync)
	if code := w.codeOf(t, e); code != impl.OK {
		s.refused[code]++
		checkJournalCode(t, "refused", r, code)
		checkEvents(t, "behind what was refused", w.journal, w.all())
		return w
	}
	s.taken++
	after := written{journal: r.Journal, synced: w.synced, loose: append(slices.Clone(w.loose), e)}
	if sync {
		after.synced, after.loose = after.all(), nil
	}
	checkWritten(t, "taken", r, after.synced, after.loose)
	return after
}

// crash asks promise 15 of a call of CrashJournal: all that was synced is said
// still, and nothing that was not said.
func (s *journalSeen) crash(t *testing.T, w written, kept int64) written {
	t.Helper()
	r := impl.CrashJournal(w.journal, kept)
	left := w.leftBy(kept)
	checkWritten(t, "crashed", r, left, nil)
	checkSaid(t, shardBy(t, w.journal, w.synced), r.Shard)
	checkSaid(t, r.Shard, shardBy(t, w.journal, w.all()))
	s.left += len(left) - len(w.synced)
	s.lost += len(w.all()) - len(left)
	return written{journal: r.Journal, synced: left}
}

// crashes tries each number of bytes kept, and one below and above.
func (s *journalSeen) crashes(t *testing.T, w written) {
	t.Helper()
	loose := int64(len(w.journal.Log.Loose))
	for kept := range loose + 1 {
		s.crash(t, w, kept)
	}
	checkJournalCode(t, "one below", impl.CrashJournal(w.journal, -1), impl.ErrRange)
	checkJournalCode(t, "one above", impl.CrashJournal(w.journal, loose+1), impl.ErrRange)
	if t.Failed() {
		t.Fatalf("%+v", w)
	}
}

// checkSaid asks whether all that a shard said and was told is so in a later
// one.
func checkSaid(t *testing.T, before, after impl.Shard) {
	t.Helper()
	for _, m := range before.Votes {
		if toldIn(after.Votes, m.Contract) != m.Value {
			t.Errorf("the vote %v is %d", m, toldIn(after.Votes, m.Contract))
		}
	}
	for _, m := range before.Done {
		if toldIn(after.Done, m.Contract) != m.Value {
			t.Errorf("the outcome %v is %d", m, toldIn(after.Done, m.Contract))
		}
	}
	if n := len(before.Applied); n > len(after.Applied) || !slices.Equal(before.Applied, after.Applied[:n]) {
		t.Errorf("applied %v, then %v", before.Applied, after.Applied)
	}
}

// anyEvent throws one that may be wrong, that the shard may refuse, or that it
// takes; the last ones more often.
func (d *dice) anyEvent(w shardWorld, s impl.Shard) impl.Event {
	if d.below(3) > 0 {
		return eventOf(d.shardCall(w, s))
	}
	e := eventOf(d.anyShardCall(s))
	switch d.below(6) {
	case 0:
		e.Outcome = d.below(5) - 1
	case 1:
		e.Vote = !e.Vote
	case 2:
		e.Contract.Legs = d.anyContract().Legs
	}
	return e
}

// walk writes events and crashes, in an order that is thrown.
func (s *journalSeen) walk(t *testing.T, d *dice, world shardWorld, steps, looks int) written {
	t.Helper()
	w := written{journal: impl.Journal{Index: world.start.Index, Start: world.start.Balances}}
	synced := 1 + d.below(6)
	for step := range steps {
		if d.below(25) == 0 {
			w = s.crash(t, w, d.below(int64(len(w.journal.Log.Loose)+1)))
		} else {
			e := d.anyEvent(world, shardBy(t, w.journal, w.all()))
			w = s.write(t, w, e, d.below(synced) == 0)
		}
		if step%looks == looks-1 {
			s.crashes(t, w)
		}
		if t.Failed() {
			t.Fatalf("%+v", w)
		}
	}
	s.full += len(w.all()) / 60
	return w
}

// journal throws one without a fault: what came of an empty log.
func (d *dice) journal() impl.Journal {
	world := d.shardWorld(8)
	j := impl.Journal{Index: world.start.Index, Start: world.start.Balances}
	for range d.below(24) {
		if r := impl.WriteEvent(j, eventOf(d.shardCall(world, impl.ReplayJournal(j).Shard)), d.below(4) == 0); r.Code == impl.OK {
			j = r.Journal
		}
	}
	return j
}

// anyJournal throws one that may have faults of every kind.
func (d *dice) anyJournal() impl.Journal {
	j := cloneJournal(d.journal())
	for range d.below(3) {
		d.spoilJournal(&j)
	}
	return j
}

func (d *dice) spoilJournal(j *impl.Journal) {
	odd := []int64{farLow, -1, 0, 1, 2, 3, 4, maxId, farHigh}
	switch d.below(9) {
	case 0:
		j.Index = odd[d.below(int64(len(odd)))]
	case 1:
		g := ledger(j.Start)
		d.spoilLedger(&g)
		if len(g.Shards) > 0 {
			j.Start = g.Shards[0]
		}
	case 2:
		j.Log.Loose = append(j.Log.Loose, d.bytes(1+d.below(5))...)
	case 3:
		j.Log.Loose = j.Log.Loose[:d.below(int64(len(j.Log.Loose))+1)]
	case 4:
		if n := int64(len(j.Log.Synced)); n > 0 {
			j.Log.Synced[d.below(n)] ^= byte(1 + d.below(255))
		}
	case 5:
		j.Log = lengthenedOr(d.below(2) == 0, j.Log)
	case 6:
		e := eventOf(d.anyShardCall(impl.Shard{Held: heldOf(moves(3, 0, 0, 1))}))
		j.Log.Loose = append(j.Log.Loose, eventFrames(e)...)
	case 7:
		j.Log.Synced = append(j.Log.Synced, eventFrames(slices.Repeat(eventsOf(tells(999, 2)), 44+int(d.below(20)))...)...)
	case 8:
		line, at := lineOf(j.Log), d.below(int64(len(lineOf(j.Log)))+1)
		j.Log = logOf(slices.Clone(line[:at]), slices.Clone(line[at:]))
	}
}

// lengthenedOr leaves a log alone that has too many bytes already.
func lengthenedOr(full bool, l impl.Log) impl.Log {
	if len(lineOf(l)) > 5000 {
		return l
	}
	if full {
		return lengthened(l)
	}
	return logOf(append(slices.Clone(l.Synced), wantFrame(make([]byte, 300))...), l.Loose)
}

// checkThrown holds all functions of a journal against chapter 14 told once
// more.
func checkThrown(t *testing.T, j impl.Journal) int64 {
	t.Helper()
	code := impl.JournalFault(j)
	checkCode(t, "JournalFault", code, wantJournalFault(j))
	checkEventsResult(t, "EventsOf", impl.EventsOf(j), wantEventsOf(j))
	checkJournalResult(t, "ReplayJournal", impl.ReplayJournal(j), wantReplayJournal(j))
	return code
}

// Chapter 14 told twice, for journals that are thrown: right ones, and such
// with faults of every kind.
func TestJournalsThatAreThrown(t *testing.T) {
	t.Parallel()
	d := dice(211)
	told, wrote, crashed := map[int64]int{}, map[int64]int{}, map[int64]int{}
	for range 2500 {
		j := d.anyJournal()
		told[checkThrown(t, j)]++
		world := shardWorld{start: impl.ReplayJournal(j).Shard, contracts: heldOf(d.rightContract(), moves(2, 1, 1, 3), moves(3, 0, 0, 1))}
		for range 4 {
			e, sync := d.anyEvent(world, world.start), d.below(2) == 0
			r := impl.WriteEvent(j, e, sync)
			checkJournalResult(t, "WriteEvent", r, wantWriteEvent(j, e, sync))
			wrote[r.Code]++
			kept := d.below(int64(len(j.Log.Loose))+3) - 1
			c := impl.CrashJournal(j, kept)
			checkJournalResult(t, "CrashJournal", c, wantCrashJournal(j, kept))
			crashed[c.Code]++
		}
		if t.Failed() {
			t.Fatalf("%+v", j)
		}
	}
	for _, code := range []int64{impl.OK, impl.ErrForm, impl.ErrMany, impl.ErrRange, impl.ErrNone, impl.ErrText} {
		if told[code] < 20 || wrote[code] < 50 || crashed[code] < 50 {
			t.Errorf("code %d only %d, %d and %d times", code, told[code], wrote[code], crashed[code])
		}
	}
	if wrote[impl.ErrTaken] < 50 {
		t.Errorf("wrote %v", wrote)
	}
}
