package tests

import (
	"bytes"
	"fmt"
	"slices"
	"testing"

	"loop.example/g00203/impl"
)

func TestMaxEvents(t *testing.T) {
	if impl.MaxEvents != 60 {
		t.Errorf("MaxEvents %d", impl.MaxEvents)
	}
}

// checkEventCode holds EventFault, PackEvent and, of what has a code, WriteEvent
// against it: nothing stands beside a code.
func checkEventCode(t *testing.T, what string, e impl.Event, code int64) {
	t.Helper()
	checkCode(t, what+": EventFault", impl.EventFault(e), code)
	checkCode(t, what+", told once more", wantEventFault(e), code)
	if code == impl.OK {
		checkBytes(t, what+": PackEvent", impl.PackEvent(e), rawEvent(e))
		return
	}
	checkBytesCode(t, what+": PackEvent", impl.PackEvent(e), code)
	for _, j := range []impl.Journal{{}, busyJournal(), journalOf(fullEvents(60), nil)} {
		checkJournalCode(t, what+": WriteEvent, synced", impl.WriteEvent(j, e, true), code)
		checkJournalCode(t, what+": WriteEvent", impl.WriteEvent(j, e, false), code)
	}
}

var outcomeNumbers = []int64{farLow, -256, -1, 0, 1, 2, 3, 4, 255, 256, 257, 258, 1 << 32, farHigh}

// Votes with each ContractFault, with an outcome, and with both.
func TestEventFaultOfVotes(t *testing.T) {
	cases := []struct {
		name string
		c    impl.Contract
		want int64
	}{
		{"right", moves(7, 0, 0, 1), impl.OK},
		{"the first one", moves(1, 0, 0, 1), impl.OK},
		{"the last one", moves(maxId, 0, 0, 1), impl.OK},
		{"8 legs", chain(7, 8), impl.OK},
		{"no leg at the shard", contract(7, leg(0, 0, 0, 1), leg(2, 0, 0, -1)), impl.OK},
		{"the zero value", impl.Contract{}, impl.ErrRange},
		{"id 0", moves(0, 0, 0, 1), impl.ErrRange},
		{"id above", moves(maxId+1, 0, 0, 1), impl.ErrRange},
		{"id far below", moves(farLow, 0, 0, 1), impl.ErrRange},
		{"id far above", moves(farHigh, 0, 0, 1), impl.ErrRange},
		{"no legs", contract(7), impl.ErrMany},
		{"empty legs", impl.Contract{Id: 7, Legs: []impl.Leg{}}, impl.ErrMany},
		{"1 leg", contract(7, leg(1, 0, 0, 1)), impl.ErrMany},
		{"9 legs", chain(7, 9), impl.ErrMany},
		{"a leg's shard", contract(7, leg(3, 0, 0, 1), leg(1, 0, 0, -1)), impl.ErrRange},
		{"a leg far out", contract(7, leg(farLow, farHigh, farLow, farHigh), leg(1, 0, 0, -1)), impl.ErrRange},
		{"an amount of 0", contract(7, leg(1, 0, 0, 0), leg(0, 0, 0, 0)), impl.ErrForm},
		{"a place twice", contract(7, leg(1, 0, 0, 1), leg(1, 0, 0, -1)), impl.ErrTaken},
		{"sums", contract(7, leg(1, 0, 0, 1), leg(0, 0, 0, 1)), impl.ErrForm},
	}
	for _, c := range cases {
		for _, outcome := range outcomeNumbers {
			want := c.want
			if want == impl.OK && outcome != 0 {
				want = impl.ErrForm
			}
			checkEventCode(t, fmt.Sprint(c.name, ", outcome ", outcome), impl.Event{Vote: true, Contract: c.c, Outcome: outcome}, want)
		}
	}
}

// Outcomes of each number, with legs and without.
func TestEventFaultOfOutcomes(t *testing.T) {
	legs := [][]impl.Leg{nil, {}, moves(7, 0, 0, 1).Legs, {leg(1, 0, 0, 1)}, chain(7, 9).Legs, {leg(farLow, farHigh, 0, 0)}}
	for _, id := range []int64{farLow, -1, 0, 1, 7, maxId, maxId + 1, farHigh} {
		for _, outcome := range outcomeNumbers {
			for i, list := range legs {
				want := int64(impl.OK)
				if len(list) > 0 {
					want = impl.ErrForm
				}
				if id < 1 || id > maxId || outcome != 1 && outcome != 2 {
					want = impl.ErrRange
				}
				e := impl.Event{Contract: impl.Contract{Id: id, Legs: list}, Outcome: outcome}
				checkEventCode(t, fmt.Sprintf("id %d, outcome %d, legs %d", id, outcome, i), e, want)
			}
		}
	}
}

func TestPackEvent(t *testing.T) {
	c := contract(258, leg(2, 5, 1, -3), leg(0, 1, 1, 3))
	want := "\x01" + "\x00\x00\x00\x00\x00\x00\x01\x02" +
		"\x02\x05\x01\xff\xff\xff\xff\xff\xff\xff\xfd" +
		"\x00\x01\x01\x00\x00\x00\x00\x00\x00\x00\x03"
	checkBytes(t, "a vote", impl.PackEvent(asks(c)), []byte(want))
	checkBytes(t, "done", impl.PackEvent(tells(258, impl.OutcomeDone)), []byte("\x02\x00\x00\x00\x00\x00\x00\x01\x02\x01"))
	checkBytes(t, "not done", impl.PackEvent(tells(1, impl.OutcomeNot)), []byte("\x02\x00\x00\x00\x00\x00\x00\x00\x01\x02"))
	checkBytes(t, "the last one", impl.PackEvent(tells(maxId, impl.OutcomeNot)), []byte("\x02\x00\x00\x00\x00\x3b\x9a\xca\x00\x02"))
	for n := 2; n <= 8; n++ {
		if r := impl.PackEvent(asks(chain(7, n))); len(r.Bytes) != 9+11*n {
			t.Errorf("%d legs: %d bytes", n, len(r.Bytes))
		}
	}
}

// rightEvents are of both kinds, of the first and the last contract, of as few
// legs and as many as may be, and thrown ones.
func rightEvents() []impl.Event {
	d := dice(201)
	list := eventsOf(tells(1, 1), tells(1, 2), tells(maxId, 1), tells(maxId, 2), asks(moves(1, 5, 2, 1)), asks(moves(maxId, 0, 0, impl.MaxAmount)))
	for n := 2; n <= 8; n++ {
		list = append(list, asks(chain(int64(n), n)))
	}
	for range 200 {
		list = append(list, asks(d.rightContract()), tells(1+d.below(maxId), 1+d.below(2)))
	}
	return list
}

// checkUnpacked holds UnpackEvent against chapter 14 told once more: what is
// unpacked packs to the same bytes.
func checkUnpacked(t *testing.T, what string, data []byte) impl.EventResult {
	t.Helper()
	r := impl.UnpackEvent(data)
	checkEvent(t, what, r, wantUnpackEvent(data))
	if r.Code == impl.OK {
		checkCode(t, what+": EventFault", impl.EventFault(r.Event), impl.OK)
		checkBytes(t, what+": packed again", impl.PackEvent(r.Event), data)
	}
	return r
}

func checkNoEvent(t *testing.T, what string, data []byte) {
	t.Helper()
	checkEvent(t, what, checkUnpacked(t, what, data), impl.EventResult{Code: impl.ErrText})
}

func TestUnpackEventReadsBack(t *testing.T) {
	for _, e := range rightEvents() {
		r := checkUnpacked(t, "read back", impl.PackEvent(e).Bytes)
		checkEvent(t, "read back", r, impl.EventResult{Event: e})
	}
}

func TestUnpackEventOfNone(t *testing.T) {
	d := dice(202)
	checkNoEvent(t, "nil", nil)
	checkNoEvent(t, "empty", []byte{})
	for _, e := range rightEvents() {
		data := rawEvent(e)
		checkNoEvent(t, "one short", data[:len(data)-1])
		checkNoEvent(t, "none but the first", data[:1])
		checkNoEvent(t, "without the first", data[1:])
		checkNoEvent(t, "one too many", append(slices.Clone(data), byte(d.below(256))))
		checkNoEvent(t, "one ahead", append([]byte{data[0]}, data...))
		checkNoEvent(t, "twice", slices.Concat(data, data))
		checkNoEvent(t, "framed", wantFrame(data))
	}
	for _, size := range []int64{97, 98, 108, 109, 497, 500, 501, 6001} {
		for first := range byte(4) {
			checkNoEvent(t, "noughts", append([]byte{first}, make([]byte, size)...))
			checkNoEvent(t, "thrown", append([]byte{first}, d.bytes(size)...))
		}
	}
}

// The first byte tells the kind, and no other one is one.
func TestUnpackEventByItsFirstByte(t *testing.T) {
	vote, outcome := asks(moves(7, 0, 0, 1)), tells(7, impl.OutcomeNot)
	for first := range 256 {
		for _, e := range eventsOf(vote, outcome) {
			data := rawEvent(e)
			data[0] = byte(first)
			if e.Vote && first == 1 || !e.Vote && first == 2 {
				checkEvent(t, "its own first byte", impl.UnpackEvent(data), impl.EventResult{Event: e})
				continue
			}
			checkNoEvent(t, fmt.Sprint("first byte ", first), data)
		}
		checkNoEvent(t, fmt.Sprint("first byte alone ", first), []byte{byte(first)})
	}
}

func TestUnpackEventByItsOutcome(t *testing.T) {
	for last := range 256 {
		data := rawEvent(tells(7, int64(last)))
		if last == 1 || last == 2 {
			checkEvent(t, "an outcome", impl.UnpackEvent(data), impl.EventResult{Event: tells(7, int64(last))})
			continue
		}
		checkNoEvent(t, fmt.Sprint("outcome ", last), data)
	}
}

// Bytes of events with a fault are no event's.
func TestUnpackEventOfFaults(t *testing.T) {
	for _, id := range []int64{farLow, -1, 0, maxId + 1, 1 << 32, farHigh} {
		checkNoEvent(t, "an outcome's id", rawEvent(tells(id, 1)))
		checkNoEvent(t, "a vote's id", rawEvent(asks(moves(id, 0, 0, 1))))
	}
	wrong := heldOf(contract(7), contract(7, leg(1, 0, 0, 1)), chain(7, 9), contract(7, leg(3, 0, 0, 1), leg(1, 0, 0, -1)), contract(7, leg(1, 0, 0, 0), leg(0, 0, 0, 0)),
		contract(7, leg(1, 0, 0, 1), leg(1, 0, 0, -1)), contract(7, leg(1, 0, 0, 1), leg(0, 0, 0, 1)), contract(7, leg(1, 0, 0, farLow), leg(0, 0, 0, farLow)))
	for _, c := range wrong {
		checkNoEvent(t, "a vote's contract", rawEvent(asks(c)))
	}
	legs := append(rawEvent(tells(7, 1)), rawContract(moves(7, 0, 0, 1))[8:]...)
	checkNoEvent(t, "an outcome with legs", legs)
	checkNoEvent(t, "a vote with an outcome", append(rawEvent(asks(moves(7, 0, 0, 1))), 1))
}

// Chapter 14 told twice, for bytes of which one is changed, and thrown ones.
func TestUnpackEventOfBytesBesides(t *testing.T) {
	d := dice(203)
	told := map[int64]int{}
	for _, e := range append(rightEvents()[:40], wrongEvents()...) {
		data := rawEvent(e)
		for at := range data {
			for _, change := range []byte{1, 2, 3, 128, 255, byte(d.below(256))} {
				other := bytes.Clone(data)
				other[at] ^= change
				told[checkUnpacked(t, "a byte changed", other).Code]++
			}
		}
	}
	for range 3000 {
		data := d.bytes(d.below(40))
		if d.below(2) == 0 && len(data) > 0 {
			data[0] = byte(1 + d.below(2))
		}
		told[checkUnpacked(t, "thrown", data).Code]++
	}
	for range 3000 {
		e := impl.Event{Vote: d.below(2) == 0, Contract: d.anyContract(), Outcome: d.below(4) - 1}
		if d.below(3) > 0 {
			e.Contract.Legs = nil
		}
		checkCode(t, "EventFault", impl.EventFault(e), wantEventFault(e))
		told[checkUnpacked(t, "of any event", rawEvent(e)).Code]++
	}
	if told[impl.OK] < 500 || told[impl.ErrText] < 500 {
		t.Errorf("%v", told)
	}
}
