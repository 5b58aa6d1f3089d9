package tests

import (
	"reflect"
	"slices"
	"testing"

	"loop.example/g00203/impl"
)

// settleable throws a ledger and a contract that can be settled in it.
func (d *dice) settleable() (impl.Ledger, impl.Contract) {
	for {
		g, c := d.rightLedger(), d.rightContract()
		if wantCanSettle(g, c) == impl.OK {
			return g, c
		}
	}
}

// Promise 3: no total changes, and nobody has less than nothing.
func TestSettledChangesNoTotal(t *testing.T) {
	d := dice(23)
	for range 1500 {
		g, c := d.settleable()
		r := impl.SettleOne(g, c)
		if r.Code != impl.OK || impl.LedgerFault(r.Ledger) != impl.OK {
			t.Fatalf("SettleOne(%v, %v) = %v", g, c, r)
		}
		for asset := range int64(impl.MaxAssets) {
			was, is := impl.TotalOf(g, asset), impl.TotalOf(r.Ledger, asset)
			if was != is || is.Code != impl.OK {
				t.Fatalf("SettleOne(%v, %v): asset %d had %v, has %v", g, c, asset, was, is)
			}
		}
		checkEachAccount(t, g, c, r.Ledger)
	}
}

// checkEachAccount asks for each account and asset what its legs made of it;
// where that is nothing there is no balance.
func checkEachAccount(t *testing.T, g impl.Ledger, c impl.Contract, behind impl.Ledger) {
	t.Helper()
	for shard := range int64(len(g.Shards)) {
		for _, b := range fullShard(1) {
			want := impl.BalanceOf(g, shard, b.Account, b.Asset).Value
			for _, l := range c.Legs {
				if l.Shard == shard && l.Account == b.Account && l.Asset == b.Asset {
					want += l.Amount
				}
			}
			r := impl.BalanceOf(behind, shard, b.Account, b.Asset)
			if r.Code != impl.OK || r.Value != want || r.Value < 0 {
				t.Fatalf("%v settled in %v: %d %d %d is %v, want %d", c, g, shard, b.Account, b.Asset, r, want)
			}
			told := slices.ContainsFunc(behind.Shards[shard], func(x impl.Balance) bool {
				return x.Account == b.Account && x.Asset == b.Asset
			})
			if told != (want > 0) {
				t.Fatalf("%v settled in %v: %d %d %d has %d, balance %v", c, g, shard, b.Account, b.Asset, want, told)
			}
		}
	}
}

// Promise 3: what is settled can be undone.
func TestSettledCanBeUndone(t *testing.T) {
	d := dice(24)
	for range 1500 {
		g, c := d.settleable()
		turned := impl.ReverseOf(c, 1+d.below(maxId))
		behind := impl.SettleOne(g, c)
		back := impl.SettleOne(behind.Ledger, turned.Contract)
		if back.Code != impl.OK || !sameBalances(back.Ledger, g) || !impl.SameLedgers(back.Ledger, g) {
			t.Fatalf("%v settled in %v and turned round: %v", c, g, back)
		}
	}
}

// Promise 3: contracts one behind the other are settled each by itself.
func TestSettledOneByOne(t *testing.T) {
	d := dice(25)
	outcomes := map[int64]int{}
	for range 400 {
		g := d.rightLedger()
		if d.below(2) == 0 {
			g = ledger(fullShard(9), fullShard(30), fullShard(impl.MaxAmount-30))
		}
		var list []impl.Contract
		for range d.below(40) {
			list = append(list, d.rightContract())
			if d.below(8) == 0 {
				list = append(list, d.anyContract())
			}
		}
		r := impl.SettleAll(g, list)
		if r.Code != impl.OK || len(r.Outcomes) != len(list) {
			t.Fatalf("SettleAll(%v, %v) = %v", g, list, r)
		}
		at := cloneLedger(g)
		for i, c := range list {
			want := int64(impl.OutcomeNot)
			if one := impl.SettleOne(at, c); one.Code == impl.OK {
				at, want = one.Ledger, impl.OutcomeDone
			}
			outcomes[want]++
			if r.Outcomes[i] != want {
				t.Fatalf("SettleAll(%v, %v): outcome %d is %d, want %d", g, list, i, r.Outcomes[i], want)
			}
		}
		checkLedger(t, "one by one", r.Ledger, at)
	}
	if outcomes[impl.OutcomeDone] < 500 || outcomes[impl.OutcomeNot] < 500 {
		t.Errorf("outcomes %v", outcomes)
	}
}

// given are arguments of chapter 2, each list with room behind it that may
// not be written into either.
type given struct {
	ledger    impl.Ledger
	contracts []impl.Contract
}

func roomyLedger(g impl.Ledger) impl.Ledger {
	var shards [][]impl.Balance
	for _, list := range g.Shards {
		whole := append(slices.Clone(list), bal(-1, -2, -3), bal(-4, -5, -6))
		shards = append(shards, whole[:len(list)])
	}
	shards = append(shards, bals(bal(-7, -8, -9)))
	return impl.Ledger{Shards: shards[:len(g.Shards)]}
}

func (a given) roomy() given {
	b := given{ledger: roomyLedger(a.ledger)}
	for _, c := range a.contracts {
		c, _ = roomy(c)
		b.contracts = append(b.contracts, c)
	}
	b.contracts = append(b.contracts, pair(77))[:len(a.contracts)]
	return b
}

// wholeLedger and whole copy all that is there, the room behind it too.
func wholeLedger(g impl.Ledger) [][]impl.Balance {
	var all [][]impl.Balance
	for _, list := range g.Shards[:cap(g.Shards)] {
		all = append(all, slices.Clone(list[:cap(list)]))
	}
	return all
}

func (a given) whole() any {
	var legs [][]impl.Leg
	var ids []int64
	for _, c := range a.contracts[:cap(a.contracts)] {
		legs = append(legs, slices.Clone(c.Legs[:cap(c.Legs)]))
		ids = append(ids, c.Id)
	}
	return []any{wholeLedger(a.ledger), len(a.ledger.Shards), legs, ids, len(a.contracts)}
}

func (a given) spoil() {
	spoilLedgerMemory(a.ledger)
	for _, c := range a.contracts {
		spoilAll(c.Legs, leg(-77, -77, -77, -77))
	}
	spoilAll(a.contracts, pair(-77))
}

func spoilLedgerMemory(g impl.Ledger) {
	for _, list := range g.Shards {
		spoilAll(list, bal(-77, -77, -77))
	}
	spoilAll(g.Shards, bals(bal(-78, -78, -78)))
}

// ledgerCalls are all functions of chapter 2; each answer comes with all
// that can be written into it.
var ledgerCalls = []struct {
	name string
	call func(a given, n int64) (answer any, spoil func())
}{
	{"BalancesFault", func(a given, n int64) (any, func()) {
		var codes []int64
		for _, list := range a.ledger.Shards {
			codes = append(codes, impl.BalancesFault(list))
		}
		return codes, func() {}
	}},
	{"LedgerFault", func(a given, n int64) (any, func()) {
		return impl.LedgerFault(a.ledger), func() {}
	}},
	{"BalanceOf", func(a given, n int64) (any, func()) {
		r := []impl.IntResult{impl.BalanceOf(a.ledger, n, 0, 0), impl.BalanceOf(a.ledger, 0, n, 0), impl.BalanceOf(a.ledger, 0, 0, n)}
		return r, func() {}
	}},
	{"TotalOf", func(a given, n int64) (any, func()) {
		return impl.TotalOf(a.ledger, n), func() {}
	}},
	{"CanSettle", func(a given, n int64) (any, func()) {
		var codes []int64
		for _, c := range a.contracts {
			codes = append(codes, impl.CanSettle(a.ledger, c))
		}
		return codes, func() {}
	}},
	{"SettleOne", func(a given, n int64) (any, func()) {
		var all []impl.LedgerResult
		for _, c := range a.contracts {
			all = append(all, impl.SettleOne(a.ledger, c))
		}
		return all, func() {
			for _, r := range all {
				spoilLedgerMemory(r.Ledger)
			}
		}
	}},
	{"SettleAll", func(a given, n int64) (any, func()) {
		r := impl.SettleAll(a.ledger, a.contracts)
		return r, func() {
			spoilAll(r.Outcomes, -77)
			spoilLedgerMemory(r.Ledger)
		}
	}},
	{"SameLedgers", func(a given, n int64) (any, func()) {
		other := ledger(nil, fullShard(1))
		told := [3]bool{impl.SameLedgers(a.ledger, other), impl.SameLedgers(other, a.ledger), impl.SameLedgers(a.ledger, a.ledger)}
		return []any{told, other}, func() {}
	}},
}

// Promise 1: an answer at every argument that hangs on it alone, in new memory.
func TestLedgerAnswersAreNewMemory(t *testing.T) {
	d := dice(26)
	args := []given{
		{},
		{ledger(), []impl.Contract{}},
		{ledger(nil), []impl.Contract{{}, pair(1)}},
		{ledger(fullShard(1), bals(), nil), nil},
		{ledger(fullShard(impl.MaxAmount), fullShard(1)), slices.Repeat([]impl.Contract{pair(1)}, 101)},
	}
	for range 200 {
		g, c := d.settleable()
		args = append(args, given{g, []impl.Contract{c, d.rightContract(), d.anyContract()}})
		args = append(args, given{d.anyLedger(), []impl.Contract{d.anyContract(), c}})
	}
	for _, a := range args {
		for _, n := range []int64{farLow, -1, 0, 2, 3, 6, farHigh} {
			for _, f := range ledgerCalls {
				checkLedgerMemory(t, f.name, f.call, a, n)
			}
		}
	}
}

func checkLedgerMemory(t *testing.T, name string, call func(given, int64) (any, func()), a given, n int64) {
	t.Helper()
	arg := a.roomy()
	before := arg.whole()
	first, spoilFirst := call(arg, n)
	second, spoilSecond := call(arg, n)
	if !reflect.DeepEqual(arg.whole(), before) {
		t.Fatalf("%s(%v, %d) changed its argument: %v", name, a, n, arg)
	}
	if !reflect.DeepEqual(first, second) {
		t.Fatalf("%s(%v, %d) answers %v, then %v", name, a, n, first, second)
	}
	third, _ := call(a.roomy(), n)
	spoilFirst()
	if !reflect.DeepEqual(arg.whole(), before) {
		t.Fatalf("%s(%v, %d): what is written into the answer changes the argument", name, a, n)
	}
	arg.spoil()
	if !reflect.DeepEqual(second, third) {
		t.Fatalf("%s(%v, %d): two answers or an answer and an argument share memory: %v, %v", name, a, n, second, third)
	}
	spoilSecond()
	if again, _ := call(a.roomy(), n); !reflect.DeepEqual(third, again) {
		t.Fatalf("%s(%v, %d) answers %v, then %v", name, a, n, third, again)
	}
}

// Promise 1: no two shards of one answer share memory, the room behind them
// among it.
func TestShardsOfAnAnswerShareNothing(t *testing.T) {
	d := dice(27)
	for range 500 {
		g, c := d.settleable()
		for _, answer := range []impl.Ledger{impl.SettleOne(g, c).Ledger, impl.SettleAll(g, []impl.Contract{c}).Ledger, impl.SettleAll(g, nil).Ledger} {
			for at := range answer.Shards {
				rest := cloneLedger(answer)
				spoilAll(answer.Shards[at], bal(-77, -77, -77))
				answer.Shards[at], rest.Shards[at] = nil, nil
				if !sameBalances(answer, rest) {
					t.Fatalf("%v settled in %v: shard %d shares memory: %v, %v", c, g, at, answer, rest)
				}
			}
		}
	}
}
