package tests

import (
	"fmt"
	"math"
	"slices"
	"testing"

	"loop.example/g00203/impl"
)

func TestIdFor(t *testing.T) {
	if impl.MaxSessions != 10 {
		t.Errorf("MaxSessions %d", impl.MaxSessions)
	}
	cases := []struct{ client, number, want int64 }{
		{1, 1, 1001}, {1, 999, 1999}, {2, 1, 2001}, {3, 1, 3001}, {7, 42, 7042}, {999, 1, 999001}, {999, 999, 999999},
	}
	for _, x := range cases {
		checkNumber(t, fmt.Sprint("IdFor ", x.client, x.number), impl.IdFor(x.client, x.number), impl.IntResult{Value: x.want})
	}
	odd := []int64{farLow, farLow + 1, -1000, -999, -1, 0, 1000, 1001, maxId, math.MaxInt64 / 1000, farHigh - 1, farHigh}
	for _, n := range odd {
		for _, other := range append([]int64{1, 2, 500, 998, 999}, odd...) {
			checkNumber(t, fmt.Sprint("client ", n, other), impl.IdFor(n, other), impl.IntResult{Code: impl.ErrRange})
			checkNumber(t, fmt.Sprint("number ", other, n), impl.IdFor(other, n), impl.IntResult{Code: impl.ErrRange})
		}
	}
	last := int64(1000)
	for client := int64(1); client <= 999; client++ {
		for _, number := range []int64{1, 2, 500, 998, 999} {
			r := impl.IdFor(client, number)
			checkNumber(t, "IdFor", r, wantIdFor(client, number))
			if r.Value <= last {
				t.Errorf("client %d, number %d: %d, and one ahead has %d", client, number, r.Value, last)
			}
			last = r.Value
		}
	}
}

func TestSessionsFault(t *testing.T) {
	cases := []struct {
		name string
		list []impl.Session
		want int64
	}{
		{"nil", nil, impl.OK},
		{"empty", sessions(), impl.OK},
		{"one", sessions(sessionOf(7, 1)), impl.OK},
		{"several", busySessions(), impl.OK},
		{"MaxSessions", manySessions(1, 10), impl.OK},
		{"MaxSessions, the last clients", manySessions(990, 10), impl.OK},
		{"one more", manySessions(1, 11), impl.ErrMany},
		{"very many", manySessions(1, 600), impl.ErrMany},
		{"one more, all zero", make([]impl.Session, 11), impl.ErrMany},
		{"MaxSessions, all zero", make([]impl.Session, 10), impl.ErrRange},
		{"client 0", sessions(sessionOf(0, 3)), impl.ErrRange},
		{"client 1", sessions(sessionOf(1, 3)), impl.OK},
		{"client 999", sessions(sessionOf(999, 3)), impl.OK},
		{"client 1000", sessions(sessionOf(1000, 3)), impl.ErrRange},
		{"client -1", sessions(sessionOf(-1, 3)), impl.ErrRange},
		{"client far below", sessions(sessionOf(farLow, 3)), impl.ErrRange},
		{"client far above", sessions(sessionOf(farHigh, 3)), impl.ErrRange},
		{"next 0", sessions(sessionOf(7, 0)), impl.ErrRange},
		{"next 0, and 0 was sent", sessions(sent(7, 0, 0)), impl.ErrRange},
		{"next 1", sessions(sessionOf(7, 1)), impl.OK},
		{"next 1, empty", sessions(sent(7, 1, []int64{}...)), impl.OK},
		{"next 2", sessions(sent(7, 2, 1)), impl.OK},
		{"next 999", sessions(sessionOf(7, 999)), impl.OK},
		{"next 1000", sessions(sessionOf(7, 1000)), impl.OK},
		{"next 1001", sessions(sessionOf(7, 1001)), impl.ErrRange},
		{"next 1001, nothing was sent", sessions(sent(7, 1001)), impl.ErrRange},
		{"next far below", sessions(sessionOf(7, farLow)), impl.ErrRange},
		{"next far above", sessions(sessionOf(7, farHigh)), impl.ErrRange},
		{"client and next far out", sessions(sent(farLow, farHigh, farLow, farHigh)), impl.ErrRange},
		{"one client twice", sessions(sessionOf(7, 1), sessionOf(7, 1)), impl.ErrForm},
		{"a client below", sessions(sessionOf(7, 1), sessionOf(6, 1)), impl.ErrForm},
		{"the last client below", sessions(sessionOf(7, 1), sessionOf(9, 2), sessionOf(8, 1)), impl.ErrForm},
		{"the last client below the first", sessions(sessionOf(7, 1), sessionOf(9, 2), sessionOf(1, 1)), impl.ErrForm},
		{"sent, with next 1", sessions(sent(7, 1, 1)), impl.ErrForm},
		{"sent 0, with next 1", sessions(sent(7, 1, 0)), impl.ErrForm},
		{"not sent, with next 2", sessions(sent(7, 2)), impl.ErrForm},
		{"sent one short", sessions(sent(7, 5, 1, 2, 3)), impl.ErrForm},
		{"sent without the first", sessions(sent(7, 5, 2, 3, 4)), impl.ErrForm},
		{"sent without one between", sessions(sent(7, 5, 1, 2, 4)), impl.ErrForm},
		{"sent one too many", sessions(sent(7, 5, 1, 2, 3, 4, 5)), impl.ErrForm},
		{"sent one too many, the last one twice", sessions(sent(7, 5, 1, 2, 3, 4, 4)), impl.ErrForm},
		{"sent 0, too", sessions(sent(7, 5, 0, 1, 2, 3, 4)), impl.ErrForm},
		{"sent from 0 on", sessions(sent(7, 5, 0, 1, 2, 3)), impl.ErrForm},
		{"sent from 2 on", sessions(sent(7, 5, 2, 3, 4, 5)), impl.ErrForm},
		{"sent falls", sessions(sent(7, 5, 4, 3, 2, 1)), impl.ErrForm},
		{"sent does not rise at the end", sessions(sent(7, 5, 1, 2, 4, 3)), impl.ErrForm},
		{"sent does not rise at first", sessions(sent(7, 5, 2, 1, 3, 4)), impl.ErrForm},
		{"one was sent twice", sessions(sent(7, 5, 1, 2, 2, 4)), impl.ErrForm},
		{"another one was sent last", sessions(sent(7, 5, 1, 2, 3, 6)), impl.ErrForm},
		{"another one was sent first", sessions(sent(7, 5, -1, 2, 3, 4)), impl.ErrForm},
		{"sent far out", sessions(sent(7, 3, farLow, farHigh)), impl.ErrForm},
		{"very many were sent", sessions(sent(7, 5, numbersFrom(1, 3000)...)), impl.ErrForm},
		{"998 of 999", sessions(sent(7, 1000, numbersFrom(1, 998)...)), impl.ErrForm},
		{"1000 of 999", sessions(sent(7, 1000, numbersFrom(1, 1000)...)), impl.ErrForm},
	}
	for _, x := range cases {
		checkCode(t, x.name, impl.SessionsFault(x.list), x.want)
		checkCode(t, x.name+", told once more", wantSessionsFault(x.list), x.want)
		if x.want != impl.OK {
			checkSessionsFaulted(t, x.name, x.list, x.want)
		}
	}
}

// sessionFaults spoil a list of three sessions, in the order in which their
// codes are asked: session by session, its bounds ahead of all else.
var sessionFaults = []struct {
	name  string
	code  int64
	spoil func(list *[]impl.Session)
}{
	{"11 sessions", impl.ErrMany, func(list *[]impl.Session) { *list = append(*list, manySessions(900, 8)...) }},
	{"the first client", impl.ErrRange, func(list *[]impl.Session) { (*list)[0].Client = 0 }},
	{"the first next", impl.ErrRange, func(list *[]impl.Session) { (*list)[0].Next = 1001 }},
	{"the first one sent one too many", impl.ErrForm, func(list *[]impl.Session) { (*list)[0].Sent = numbersFrom(1, 4) }},
	{"the second client", impl.ErrRange, func(list *[]impl.Session) { (*list)[1].Client = 1000 }},
	{"the second next", impl.ErrRange, func(list *[]impl.Session) { (*list)[1].Next = 0 }},
	{"the second one is not above", impl.ErrForm, func(list *[]impl.Session) { (*list)[1].Client = 2 }},
	{"the second one sent something", impl.ErrForm, func(list *[]impl.Session) { (*list)[1].Sent = places(1) }},
	{"the last client", impl.ErrRange, func(list *[]impl.Session) { (*list)[2].Client = farHigh }},
	{"the last next", impl.ErrRange, func(list *[]impl.Session) { (*list)[2].Next = farLow }},
	{"the last one is below", impl.ErrForm, func(list *[]impl.Session) { (*list)[2].Client = 1 }},
	{"the last one does not rise", impl.ErrForm, func(list *[]impl.Session) { slices.Reverse((*list)[2].Sent) }},
}

// Each fault by itself, and ahead of every later one. Where both are of one
// place the first one stands there.
func TestSessionFaultsInOrder(t *testing.T) {
	for i, first := range sessionFaults {
		list := busySessions()
		first.spoil(&list)
		checkSessionsFaulted(t, first.name, list, first.code)
		for _, later := range sessionFaults[i+1:] {
			list := busySessions()
			later.spoil(&list)
			first.spoil(&list)
			checkSessionsFaulted(t, first.name+", then "+later.name, list, first.code)
		}
	}
}

// A fault of the second kind ahead of one of the first kind, and the other way
// round.
func TestSessionFaultsGoSessionBySession(t *testing.T) {
	bounds := map[string]func(client int64) impl.Session{
		"a client below": func(int64) impl.Session { return sessionOf(0, 1) },
		"a client above": func(int64) impl.Session { return sessionOf(1000, 1) },
		"next 0":         func(client int64) impl.Session { return sent(client, 0) },
		"next 1001":      func(client int64) impl.Session { return sessionOf(client, 1001) },
	}
	forms := map[string]func(client int64) impl.Session{
		"one short":    func(client int64) impl.Session { return sent(client, 3, 1) },
		"one too many": func(client int64) impl.Session { return sent(client, 3, 1, 2, 3) },
		"falls":        func(client int64) impl.Session { return sent(client, 3, 2, 1) },
	}
	for bound, outside := range bounds {
		for form, wrong := range forms {
			checkSessionsFaulted(t, form+", then "+bound, sessions(wrong(4), outside(6)), impl.ErrForm)
			checkSessionsFaulted(t, bound+", then "+form, sessions(outside(4), wrong(6)), impl.ErrRange)
			between := sessions(sessionOf(1, 2), wrong(4), sessionOf(5, 1), outside(6), sessionOf(7, 1))
			checkSessionsFaulted(t, "between, "+form+", then "+bound, between, impl.ErrForm)
		}
		checkSessionsFaulted(t, "not above, then "+bound, sessions(sessionOf(4, 2), sessionOf(4, 2), outside(6)), impl.ErrForm)
		checkSessionsFaulted(t, bound+", then not above", sessions(outside(4), sessionOf(9, 2), sessionOf(9, 2)), impl.ErrRange)
	}
	checkSessionsFaulted(t, "both of one session", sessions(sent(4, 1001, 2)), impl.ErrRange)
	checkSessionsFaulted(t, "next of one that is not above", sessions(sessionOf(4, 1), sent(3, 0, 7)), impl.ErrRange)
}

func TestOpenSessionCodes(t *testing.T) {
	full, nine := manySessions(20, 10), manySessions(20, 9)
	cases := []struct {
		name   string
		list   []impl.Session
		client int64
		want   int64
	}{
		{"client 0", nil, 0, impl.ErrRange},
		{"client 1", nil, 1, impl.OK},
		{"client 999", nil, 999, impl.OK},
		{"client 1000", nil, 1000, impl.ErrRange},
		{"client -1", nil, -1, impl.ErrRange},
		{"client far below", nil, farLow, impl.ErrRange},
		{"client far above", nil, farHigh, impl.ErrRange},
		{"client 0 of several", busySessions(), 0, impl.ErrRange},
		{"client 1000 of several", busySessions(), 1000, impl.ErrRange},
		{"the last one that may be", nine, 900, impl.OK},
		{"a known one of 9", nine, 23, impl.OK},
		{"MaxSessions, none there", full, 900, impl.ErrMany},
		{"MaxSessions, none there, the first one", full, 1, impl.ErrMany},
		{"MaxSessions, none there, one below", full, 19, impl.ErrMany},
		{"MaxSessions, none there, one above", full, 30, impl.ErrMany},
		{"MaxSessions, the first one there", full, 20, impl.OK},
		{"MaxSessions, one there", full, 25, impl.OK},
		{"MaxSessions, the last one there", full, 29, impl.OK},
		{"MaxSessions, client 0", full, 0, impl.ErrRange},
		{"MaxSessions, client 1000", full, 1000, impl.ErrRange},
		{"MaxSessions, client far above", full, farHigh, impl.ErrRange},
	}
	for _, x := range cases {
		r := impl.OpenSession(x.list, x.client)
		checkSessionsResult(t, x.name, r, wantOpenSession(x.list, x.client))
		checkCode(t, x.name, r.Code, x.want)
		if x.want != impl.OK {
			checkSessionsCode(t, x.name, r, x.want)
		}
	}
}

// Where the new one stands, and that it has sent nothing; of a client that has
// a session nothing changes.
func TestOpenSession(t *testing.T) {
	three := sessions(sessionOf(2, 4), sessionOf(5, 1), sessionOf(40, 3))
	cases := []struct {
		name   string
		list   []impl.Session
		client int64
		want   []impl.Session
	}{
		{"the only one", nil, 7, sessions(sent(7, 1))},
		{"of empty ones", sessions(), 7, sessions(sent(7, 1))},
		{"first", three, 1, sessions(sent(1, 1), sessionOf(2, 4), sessionOf(5, 1), sessionOf(40, 3))},
		{"between the first two", three, 3, sessions(sessionOf(2, 4), sent(3, 1), sessionOf(5, 1), sessionOf(40, 3))},
		{"between the last two", three, 39, sessions(sessionOf(2, 4), sessionOf(5, 1), sent(39, 1), sessionOf(40, 3))},
		{"last", three, 41, sessions(sessionOf(2, 4), sessionOf(5, 1), sessionOf(40, 3), sent(41, 1))},
		{"the last one that may be", three, 999, sessions(sessionOf(2, 4), sessionOf(5, 1), sessionOf(40, 3), sent(999, 1))},
		{"the first one is there", three, 2, three},
		{"one is there", three, 5, three},
		{"the last one is there", three, 40, three},
	}
	for _, x := range cases {
		r := impl.OpenSession(x.list, x.client)
		checkSessionsResult(t, x.name, r, impl.SessionsResult{Sessions: x.want})
		checkSessionsResult(t, x.name+", once more", impl.OpenSession(r.Sessions, x.client), r)
	}
	list := impl.OpenSession(nil, 500).Sessions
	for _, client := range []int64{999, 1, 501, 499, 2, 998, 300, 700, 300, 500, 600} {
		list = impl.OpenSession(list, client).Sessions
	}
	want := sessions(sent(1, 1), sent(2, 1), sent(300, 1), sent(499, 1), sent(500, 1), sent(501, 1), sent(600, 1), sent(700, 1), sent(998, 1), sent(999, 1))
	checkSessionsResult(t, "in any order", impl.OpenSession(list, 600), impl.SessionsResult{Sessions: want})
	checkSessionsCode(t, "no room", impl.OpenSession(list, 601), impl.ErrMany)
}
