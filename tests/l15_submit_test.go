package tests

import (
	"fmt"
	"slices"
	"testing"

	"loop.example/g00203/impl"
)

// faultyLegs have each code of a ContractFault, but that of an Id.
var faultyLegs = []struct {
	name string
	legs []impl.Leg
	code int64
}{
	{"nil legs", nil, impl.ErrMany},
	{"empty legs", []impl.Leg{}, impl.ErrMany},
	{"1 leg", pair(0).Legs[:1], impl.ErrMany},
	{"9 legs", chain(0, 9).Legs, impl.ErrMany},
	{"9 legs of nothing", make([]impl.Leg, 9), impl.ErrMany},
	{"shard 3", []impl.Leg{leg(0, 0, 0, -5), leg(3, 0, 0, 5)}, impl.ErrRange},
	{"account -1", []impl.Leg{leg(0, -1, 0, -5), leg(1, 0, 0, 5)}, impl.ErrRange},
	{"asset 3", []impl.Leg{leg(0, 0, 3, -5), leg(1, 0, 3, 5)}, impl.ErrRange},
	{"amounts far out", []impl.Leg{leg(0, 0, 0, farLow), leg(1, 0, 0, farHigh)}, impl.ErrRange},
	{"all far out", []impl.Leg{leg(farLow, farHigh, farLow, farHigh), leg(farHigh, farLow, farHigh, farLow)}, impl.ErrRange},
	{"amounts of 0", []impl.Leg{leg(0, 0, 0, 0), leg(1, 0, 0, 0)}, impl.ErrForm},
	{"one place twice", []impl.Leg{leg(0, 0, 0, -5), leg(0, 0, 0, 5)}, impl.ErrTaken},
	{"not 0 together", []impl.Leg{leg(0, 0, 0, -5), leg(1, 0, 0, 4)}, impl.ErrForm},
}

// crowdedCluster has two shards, and no room for a contract more: of client 2
// those of the numbers 1 to 3, and 17 others.
func crowdedCluster() impl.Cluster {
	c := freshCluster(3, append(heldOf(moves(2001, 1, 1, 3), pair(2002), pair(2003)), contractsAt(9001, 17)...)...)
	c.Shards = c.Shards[:2]
	c.Messages = messages(askOf(0, 2001), askOf(1, 9017))
	return c
}

// askedFaults spoil what SubmitAs is asked of a crowded cluster, in the order
// of its codes.
var askedFaults = []struct {
	name  string
	code  int64
	spoil func(a *askedAs)
}{
	{"a session's next", impl.ErrRange, func(a *askedAs) { a.list[0].Next = 0 }},
	{"a session that is not above", impl.ErrForm, func(a *askedAs) { a.list[1].Client = 2 }},
	{"a session's numbers", impl.ErrForm, func(a *askedAs) { a.list[2].Sent = nil }},
	{"21 contracts", impl.ErrMany, func(a *askedAs) { a.c.Contracts = append(a.c.Contracts, pair(9050)) }},
	{"a shard's index", impl.ErrForm, func(a *askedAs) { a.c.Shards[1].Index = 0 }},
	{"a leader's count", impl.ErrRange, func(a *askedAs) { a.c.Leaders[1].Count = 401 }},
	{"a message's kind", impl.ErrText, func(a *askedAs) { a.c.Messages[1].Kind = 7 }},
	{"a client without a session", impl.ErrNone, func(a *askedAs) { a.client = 3 }},
	{"a number above", impl.ErrRange, func(a *askedAs) { a.number = 5 }},
	{"one leg", impl.ErrMany, func(a *askedAs) { a.legs = a.legs[:1] }},
	{"legs that are not 0 together", impl.ErrForm, func(a *askedAs) { a.legs = []impl.Leg{leg(0, 0, 0, 1), leg(2, 0, 0, 1)} }},
	{"a shard that is none", impl.ErrNone, func(a *askedAs) { a.legs = three(0).Legs }},
	{"other legs were sent", impl.ErrTaken, func(a *askedAs) { a.number = 1 }},
	{"no room", impl.ErrMany, func(a *askedAs) {}},
}

// Each of them by itself, and ahead of every later one. Where both are of one
// thing the first one stands there. StatusAs asks the first ones, too.
func TestServedCodesInOrder(t *testing.T) {
	for i, first := range askedFaults {
		for _, later := range askedFaults[i:] {
			a := askedAs{list: busySessions(), c: crowdedCluster(), client: 2, number: 4, legs: slices.Clone(pair(0).Legs)}
			later.spoil(&a)
			first.spoil(&a)
			what := first.name + ", then " + later.name
			if i < 8 {
				checkServedCode(t, what, a, first.code, first.code)
				continue
			}
			checkSessionsCode(t, what, a.submit(), first.code)
			checkSessionsCode(t, what+", told once more", a.wantSubmit(), first.code)
			checkAnswer(t, what+": StatusAs", a.status(), a.wantStatus())
		}
	}
}

// Each fault of a cluster, whatever is asked of it.
func TestServedFaultsOfClusters(t *testing.T) {
	checkClusterRight(t, "a cluster that served", servedCluster())
	checkCode(t, "the sessions of it", impl.SessionsFault(busySessions()), impl.OK)
	for _, f := range clusterFaults {
		c := busyCluster()
		f.spoil(&c)
		checkServedFaulted(t, f.name, c, f.code)
	}
	checkServedFaulted(t, "the zero value", impl.Cluster{}, impl.ErrMany)
	for _, n := range []int64{farLow, -1, 0, 2, farHigh} {
		c := servedCluster()
		c.Shards[0].Applied[0] = n
		checkServedFaulted(t, fmt.Sprint("Applied ", n), c, impl.ErrForm)
	}
}

// Every client of the busySessions, and others, and each number: which are
// taken as new ones (true) and which were sent (false).
func TestSubmitAsNumbers(t *testing.T) {
	type sending struct{ client, number int64 }
	taken := map[sending]bool{{2, 1}: false, {2, 2}: false, {2, 3}: false, {2, 4}: true, {5, 1}: true}
	for _, n := range []int64{1, 2, 3, 4, 5, 998, 999} {
		taken[sending{40, n}] = false
	}
	for _, client := range clientNumbers {
		for _, number := range sentNumbers {
			a := askedAs{list: busySessions(), c: freshCluster(3), client: client, number: number, legs: pair(0).Legs}
			what := fmt.Sprint("client ", client, ", number ", number)
			isNew, found := taken[sending{client, number}]
			switch {
			case found:
				r := checkSubmitted(t, what, a)
				if advanced := !sameSessions(r.Sessions, a.list); advanced != isNew || len(r.Cluster.Contracts) != 1 {
					t.Errorf("%s: %+v", what, r)
				}
			case client == 2 || client == 5 || client == 40:
				checkServedCode(t, what, a, impl.ErrRange, impl.ErrNone)
			default:
				checkServedCode(t, what, a, impl.ErrNone, impl.ErrNone)
			}
		}
	}
}

// A number that is sent: the session has it, and all others stay.
func TestSubmitAsANewNumber(t *testing.T) {
	c := servedCluster()
	a := askedAs{list: busySessions(), c: c, client: 2, number: 4, legs: three(0).Legs}
	r := checkSubmitted(t, "number 4", a)
	want := impl.SubmitContract(c, three(2004)).Cluster
	checkSessionsResult(t, "number 4", r, impl.SessionsResult{Id: 2004, Sessions: sessions(sent(2, 5, 1, 2, 3, 4), sessionOf(5, 1), sessionOf(40, 1000)), Cluster: want})
	a = askedAs{list: r.Sessions, c: r.Cluster, client: 5, number: 1, legs: pair(0).Legs}
	r = checkSubmitted(t, "a first number", a)
	want = impl.SubmitContract(want, pair(5001)).Cluster
	checkSessionsResult(t, "a first number", r, impl.SessionsResult{Id: 5001, Sessions: sessions(sessionOf(2, 5), sent(5, 2, 1), sessionOf(40, 1000)), Cluster: want})
	if n := len(r.Cluster.Messages); !slices.Equal(r.Cluster.Messages[n-5:], messages(askOf(0, 2004), askOf(1, 2004), askOf(2, 2004), askOf(0, 5001), askOf(1, 5001))) {
		t.Errorf("messages %v", r.Cluster.Messages)
	}
	// Somebody else submitted the contract already: it is sent nevertheless.
	a = askedAs{list: sessions(sessionOf(1, 999), sessionOf(2, 4)), c: c, client: 1, number: 999, legs: pair(0).Legs}
	checkSessionsResult(t, "it is there", checkSubmitted(t, "it is there", a), impl.SessionsResult{Id: 1999, Sessions: sessions(sessionOf(1, 1000), sessionOf(2, 4)), Cluster: c})
	a.legs = three(0).Legs
	checkServedCode(t, "another one is there", a, impl.ErrTaken, impl.ErrNone)
}

// The last numbers that may be sent, up to one where Next is 1000.
func TestSubmitAsTheLastNumbers(t *testing.T) {
	list, c := sessions(sessionOf(999, 997)), freshCluster(3)
	for number := int64(997); number <= 999; number++ {
		checkServedCode(t, "the one behind", askedAs{list, c, 999, number + 1, pair(0).Legs}, impl.ErrRange, impl.ErrNone)
		r := checkSubmitted(t, "the next one", askedAs{list, c, 999, number, pair(0).Legs})
		checkNumber(t, "the next one", impl.IntResult{Value: r.Id}, impl.IntResult{Value: 999000 + number})
		list, c = r.Sessions, r.Cluster
	}
	if !sameSessions(list, sessions(sessionOf(999, 1000))) {
		t.Errorf("sessions %v", list)
	}
	for _, number := range []int64{1000, 1001, farHigh, 0, -1, farLow} {
		checkServedCode(t, "Next is 1000", askedAs{list, c, 999, number, pair(0).Legs}, impl.ErrRange, impl.ErrNone)
	}
	for _, number := range []int64{999, 998, 997} {
		a := askedAs{list, c, 999, number, pair(0).Legs}
		checkSessionsResult(t, "Next is 1000, once more", checkSubmitted(t, "once more", a), impl.SessionsResult{Id: 999000 + number, Sessions: list, Cluster: c})
	}
	r := checkSubmitted(t, "one that the cluster does not have", askedAs{list, c, 999, 1, pair(0).Legs})
	checkSessionsResult(t, "one that the cluster does not have", r, impl.SessionsResult{Id: 999001, Sessions: list, Cluster: impl.SubmitContract(c, pair(999001)).Cluster})
}

// A number that was sent already changes no session: with the same legs
// nothing changes at all, with others it is refused.
func TestSubmitAsANumberThatWasSent(t *testing.T) {
	list, c := busySessions(), servedCluster()
	for _, x := range c.Contracts[1:] {
		client, number := x.Id/1000, x.Id%1000
		r := checkSubmitted(t, "the same legs", askedAs{list, c, client, number, x.Legs})
		checkSessionsResult(t, "the same legs", r, impl.SessionsResult{Id: x.Id, Sessions: list, Cluster: c})
		other, less := slices.Clone(x.Legs), x.Legs[:len(x.Legs)-1]
		slices.Reverse(other)
		checkSessionsCode(t, "in another order", impl.SubmitAs(list, c, client, number, other), impl.ErrTaken)
		checkSessionsCode(t, "turned round", impl.SubmitAs(list, c, client, number, impl.ReverseOf(x, 1).Contract.Legs), impl.ErrTaken)
		checkSessionsCode(t, "others", impl.SubmitAs(list, c, client, number, chain(0, 5).Legs), impl.ErrTaken)
		checkSessionsCode(t, "one less", impl.SubmitAs(list, c, client, number, less), impl.ContractFault(contract(1, less...)))
	}
	// What was sent and is not there comes to be there; no session changes.
	r := checkSubmitted(t, "of another cluster", askedAs{list, freshCluster(2, pair(7)), 2, 3, three(0).Legs})
	checkSessionsResult(t, "of another cluster", r, impl.SessionsResult{Id: 2003, Sessions: list, Cluster: impl.SubmitContract(freshCluster(2, pair(7)), three(2003)).Cluster})
	// Where there is no room any more what was sent is served still.
	full := crowdedCluster()
	full.Messages = manyMessages(200, 2002, 0)
	checkSessionsResult(t, "no room", impl.SubmitAs(list, full, 2, 2, pair(0).Legs), impl.SessionsResult{Id: 2002, Sessions: list, Cluster: full})
	checkSessionsCode(t, "no room, others", impl.SubmitAs(list, full, 2, 1, pair(0).Legs), impl.ErrTaken)
	checkSessionsCode(t, "no room, a new one", impl.SubmitAs(list, full, 2, 4, pair(0).Legs), impl.ErrMany)
	full.Contracts = full.Contracts[:19]
	checkSessionsCode(t, "no room for messages", impl.SubmitAs(list, full, 2, 4, pair(0).Legs), impl.ErrMany)
	full.Messages = full.Messages[:198]
	checkSubmitted(t, "just room for messages", askedAs{list, full, 2, 4, pair(0).Legs})
}

// Legs with each ContractFault, of the next number and of ones that were sent,
// whether the cluster has them or not.
func TestSubmitAsLegsWithFaults(t *testing.T) {
	one := sessions(sessionOf(40, 2))
	for _, f := range faultyLegs {
		checkCode(t, f.name, impl.ContractFault(contract(2004, f.legs...)), f.code)
		for _, n := range []int64{1, 2, 3, 4} {
			checkSessionsCode(t, f.name, impl.SubmitAs(busySessions(), servedCluster(), 2, n, f.legs), f.code)
			checkSessionsCode(t, f.name+", of a crowded one", impl.SubmitAs(busySessions(), crowdedCluster(), 2, n, f.legs), f.code)
		}
		checkSessionsCode(t, f.name+", a new one", impl.SubmitAs(one, freshCluster(1), 40, 2, f.legs), f.code)
		checkSessionsCode(t, f.name+", not there", impl.SubmitAs(one, freshCluster(1), 40, 1, f.legs), f.code)
		checkSessionsCode(t, f.name+", number above", impl.SubmitAs(one, freshCluster(1), 40, 3, f.legs), impl.ErrRange)
		checkSessionsCode(t, f.name+", no session", impl.SubmitAs(one, freshCluster(1), 41, 1, f.legs), impl.ErrNone)
	}
	// A refused number is the next one still.
	r := impl.SubmitAs(one, freshCluster(1), 40, 2, pair(0).Legs)
	checkSessionsResult(t, "behind a refused one", r, impl.SessionsResult{Id: 40002, Sessions: sessions(sessionOf(40, 3)), Cluster: impl.SubmitContract(freshCluster(1), pair(40002)).Cluster})
	narrow := freshCluster(3)
	narrow.Shards = narrow.Shards[:2]
	checkSessionsCode(t, "a shard that is none", impl.SubmitAs(one, narrow, 40, 2, three(0).Legs), impl.ErrNone)
	checkSubmitted(t, "the shards that there are", askedAs{one, narrow, 40, 2, pair(0).Legs})
}
