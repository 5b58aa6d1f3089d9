package tests

import (
	"cmp"
	"fmt"
	"slices"
	"strconv"
	"testing"

	"loop.example/g00203/impl"
)

// sessionOf is one that sent all numbers ahead of its next one.
func sessionOf(client, next int64) impl.Session {
	s := impl.Session{Client: client, Next: next}
	if next > 1 && next <= 2000 {
		s.Sent = numbersFrom(1, int(next-1))
	}
	return s
}

// sent is a session with these numbers, whatever its next one is.
func sent(client, next int64, numbers ...int64) impl.Session {
	return impl.Session{Client: client, Next: next, Sent: numbers}
}

func sessions(list ...impl.Session) []impl.Session {
	return list
}

// manySessions are n of clients that rise from one on.
func manySessions(from int64, n int) []impl.Session {
	var list []impl.Session
	for i := range int64(n) {
		list = append(list, sessionOf(from+i, 1+i%4))
	}
	return list
}

// busySessions have sent some numbers, none, and all that may be.
func busySessions() []impl.Session {
	return sessions(sessionOf(2, 4), sessionOf(5, 1), sessionOf(40, 1000))
}

// servedCluster has contracts of the busySessions: 2001 is done, 2002 is held,
// 2003 is not done, 40001 was not voted on; 1999 is of a client without one.
func servedCluster() impl.Cluster {
	c := freshCluster(3, contract(1999, pair(0).Legs...), three(2001), pair(2002), contract(2003, leg(1, 2, 0, -30), leg(2, 2, 0, 30)), contract(40001, leg(2, 3, 2, -1), leg(2, 4, 2, 1)))
	c = appliedAt(appliedAt(appliedAt(c, 0, 2001), 1, 2001), 2, 2001)
	c = heldAt(heldAt(c, 0, pair(2002)), 1, pair(2002))
	c = votedAt(settledFor(c, 2003, 1, 2), 1, 2003, impl.ValueNot)
	c.Messages = messages(askOf(2, 40001), castTo(1, 2002, 0, ready(0)), tellTo(0, 2002, impl.OutcomeDone))
	return c
}

func cloneSessions(list []impl.Session) []impl.Session {
	var after []impl.Session
	for _, s := range list {
		after = append(after, sent(s.Client, s.Next, slices.Clone(s.Sent)...))
	}
	return after
}

func sameSessions(a, b []impl.Session) bool {
	return slices.EqualFunc(a, b, func(x, y impl.Session) bool {
		return x.Client == y.Client && x.Next == y.Next && slices.Equal(x.Sent, y.Sent)
	})
}

// askedAs is what a client may ask of sessions and a cluster.
type askedAs struct {
	list   []impl.Session
	c      impl.Cluster
	client int64
	number int64
	legs   []impl.Leg
}

func (a askedAs) submit() impl.SessionsResult {
	return impl.SubmitAs(a.list, a.c, a.client, a.number, a.legs)
}

func (a askedAs) status() impl.Answer {
	return impl.StatusAs(a.list, a.c, a.client, a.number)
}

// The want functions tell chapter 15 once more: a number of a client is
// written behind it, with three digits.
func wantIdFor(client, number int64) impl.IntResult {
	if client < 1 || client > 999 || number < 1 || number > 999 {
		return impl.IntResult{Code: impl.ErrRange}
	}
	id, _ := strconv.ParseInt(fmt.Sprintf("%d%03d", client, number), 10, 64)
	return impl.IntResult{Value: id}
}

func wantSessionsFault(list []impl.Session) int64 {
	if len(list) > 10 {
		return impl.ErrMany
	}
	last := int64(0)
	for _, s := range list {
		if s.Client < 1 || s.Client > 999 || s.Next < 1 || s.Next > 1000 {
			return impl.ErrRange
		}
		if s.Client <= last || !slices.Equal(s.Sent, sessionOf(s.Client, s.Next).Sent) {
			return impl.ErrForm
		}
		last = s.Client
	}
	return impl.OK
}

func wantSession(list []impl.Session, client int64) *impl.Session {
	for i := range list {
		if list[i].Client == client {
			return &list[i]
		}
	}
	return nil
}

func wantOpenSession(list []impl.Session, client int64) impl.SessionsResult {
	code := wantSessionsFault(list)
	if code == impl.OK && (client < 1 || client > 999) {
		code = impl.ErrRange
	}
	known := wantSession(list, client) != nil
	if code == impl.OK && !known && len(list) > 9 {
		code = impl.ErrMany
	}
	if code != impl.OK {
		return impl.SessionsResult{Code: code}
	}
	after := cloneSessions(list)
	if !known {
		after = append(after, sent(client, 1))
		slices.SortFunc(after, func(a, b impl.Session) int { return cmp.Compare(a.Client, b.Client) })
	}
	return impl.SessionsResult{Sessions: after}
}

func (a askedAs) wantSubmit() impl.SessionsResult {
	code := cmp.Or(wantSessionsFault(a.list), wantClusterFault(a.c))
	after := cloneSessions(a.list)
	s := wantSession(after, a.client)
	switch {
	case code != impl.OK:
	case s == nil:
		code = impl.ErrNone
	case a.number < 1 || a.number > s.Next || a.number == 1000:
		code = impl.ErrRange
	}
	if code != impl.OK {
		return impl.SessionsResult{Code: code}
	}
	id := wantIdFor(a.client, a.number).Value
	told := wantSubmitContract(a.c, impl.Contract{Id: id, Legs: a.legs})
	if told.Code != impl.OK {
		return impl.SessionsResult{Code: told.Code}
	}
	*s = sessionOf(a.client, max(s.Next, a.number+1))
	return impl.SessionsResult{Id: id, Sessions: after, Cluster: told.Cluster}
}

func (a askedAs) wantStatus() impl.Answer {
	if code := cmp.Or(wantSessionsFault(a.list), wantClusterFault(a.c)); code != impl.OK {
		return impl.Answer{Code: code}
	}
	s := wantSession(a.list, a.client)
	if s == nil || a.number < 1 || a.number >= s.Next {
		return impl.Answer{Code: impl.ErrNone}
	}
	x := wantSubmitted(a.c, wantIdFor(a.client, a.number).Value)
	if x == nil {
		return impl.Answer{Code: impl.ErrNone}
	}
	told := impl.Answer{Legs: slices.Clone(x.Legs)}
	if wantSettledAt(a.c, x.Id) {
		told.Word = toldIn(a.c.Shards[slices.Min(shardsIn(*x))].Done, x.Id)
	}
	return told
}

func wantStatementOf(c impl.Cluster, shard, account int64) impl.LegsResult {
	code := wantPlaceFault(c, "shard", shard)
	if code == impl.OK && (account < 0 || account > 5) {
		code = impl.ErrRange
	}
	if code != impl.OK {
		return impl.LegsResult{Code: code}
	}
	var told impl.LegsResult
	for _, id := range c.Shards[shard].Applied {
		for _, l := range legsHere(c.Shards[shard], *wantSubmitted(c, id)) {
			if l.Account == account {
				told.Legs = append(told.Legs, l)
			}
		}
	}
	return told
}

func checkSessionsResult(t *testing.T, what string, got, want impl.SessionsResult) {
	t.Helper()
	if got.Code != want.Code || got.Id != want.Id || !sameSessions(got.Sessions, want.Sessions) || !sameClusters(got.Cluster, want.Cluster) {
		t.Errorf("%s:\ngot  %+v\nwant %+v", what, got, want)
	}
}

func checkSessionsCode(t *testing.T, what string, got impl.SessionsResult, code int64) {
	t.Helper()
	checkSessionsResult(t, what, got, impl.SessionsResult{Code: code})
}

func checkAnswer(t *testing.T, what string, got, want impl.Answer) {
	t.Helper()
	if got.Code != want.Code || got.Word != want.Word || !sameLegs(got.Legs, want.Legs) {
		t.Errorf("%s: %v, want %v", what, got, want)
	}
}

func checkStatement(t *testing.T, what string, got, want impl.LegsResult) {
	t.Helper()
	if got.Code != want.Code || !sameLegs(got.Legs, want.Legs) {
		t.Errorf("%s: StatementOf %v, want %v", what, got, want)
	}
}

// checkServedCode asks of both that SubmitAs and StatusAs tell these codes, and
// nothing else, here and told once more.
func checkServedCode(t *testing.T, what string, a askedAs, submit, status int64) {
	t.Helper()
	checkSessionsCode(t, what+": SubmitAs", a.submit(), submit)
	checkSessionsCode(t, what+": SubmitAs, told once more", a.wantSubmit(), submit)
	checkAnswer(t, what+": StatusAs", a.status(), impl.Answer{Code: status})
	checkAnswer(t, what+": StatusAs, told once more", a.wantStatus(), impl.Answer{Code: status})
}

// checkSubmitted asks for the whole of an answer without a code: it is as
// chapter 15 told once more has it, and leaves nothing with a fault.
func checkSubmitted(t *testing.T, what string, a askedAs) impl.SessionsResult {
	t.Helper()
	r := a.submit()
	checkSessionsResult(t, what, r, a.wantSubmit())
	checkCode(t, what, r.Code, impl.OK)
	checkNumber(t, what+": IdFor", impl.IdFor(a.client, a.number), impl.IntResult{Value: r.Id})
	checkCode(t, what+": SessionsFault", impl.SessionsFault(r.Sessions), impl.OK)
	checkCode(t, what+": ClusterFault", impl.ClusterFault(r.Cluster), impl.OK)
	return r
}

// clientNumbers and sentNumbers are right and wrong ones.
var clientNumbers = []int64{farLow, -1000, -1, 0, 1, 2, 5, 40, 998, 999, 1000, 1001, maxId, farHigh}

var sentNumbers = []int64{farLow, -999, -1, 0, 1, 2, 3, 4, 5, 998, 999, 1000, 1001, farHigh}

// checkSessionsFaulted holds all functions that ask the SessionsFault first
// against its code, whatever else they are given.
func checkSessionsFaulted(t *testing.T, what string, list []impl.Session, code int64) {
	t.Helper()
	checkCode(t, what+": SessionsFault", impl.SessionsFault(list), code)
	checkCode(t, what+", told once more", wantSessionsFault(list), code)
	spoilt := servedCluster()
	spoilt.Leaders[1].Count = 401
	for _, client := range clientNumbers {
		checkSessionsCode(t, what+": OpenSession", impl.OpenSession(list, client), code)
	}
	for _, c := range []impl.Cluster{servedCluster(), freshCluster(3), spoilt, {}} {
		for _, a := range []askedAs{
			{list, c, 2, 4, pair(0).Legs}, {list, c, 2, 3, pair(0).Legs}, {list, c, 5, 1, nil}, {list, c, 40, 1000, nil}, {list, c, 999, 1, nil},
			{list, c, 0, 0, three(0).Legs}, {list, c, farLow, farHigh, chain(1, 9).Legs}, {list, c, 2, 1, three(0).Legs},
		} {
			checkServedCode(t, what, a, code, code)
		}
	}
}

// checkServedFaulted holds all functions that ask the ClusterFault against its
// code, whatever else they are given, but for sessions with a fault.
func checkServedFaulted(t *testing.T, what string, c impl.Cluster, code int64) {
	t.Helper()
	for _, list := range [][]impl.Session{nil, busySessions(), manySessions(900, 10)} {
		for _, a := range []askedAs{
			{list, c, 2, 4, pair(0).Legs}, {list, c, 2, 3, pair(0).Legs}, {list, c, 5, 0, nil}, {list, c, 40, 1000, nil}, {list, c, farLow, farHigh, chain(1, 9).Legs},
		} {
			checkServedCode(t, what, a, code, code)
		}
	}
	for _, shard := range []int64{farLow, -1, 0, 1, 2, 3, farHigh} {
		for _, account := range []int64{farLow, -1, 0, 5, 6, farHigh} {
			checkStatement(t, what, impl.StatementOf(c, shard, account), impl.LegsResult{Code: code})
		}
	}
}
