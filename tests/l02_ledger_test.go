package tests

import (
	"slices"
	"testing"

	"loop.example/g00203/impl"
)

func TestOutcomeNumbers(t *testing.T) {
	if got := []int64{impl.OutcomeNone, impl.OutcomeDone, impl.OutcomeNot}; !slices.Equal(got, []int64{0, 1, 2}) {
		t.Errorf("outcomes %v", got)
	}
}

func TestBalancesFault(t *testing.T) {
	const most = impl.MaxAmount
	far, over := bal(6, 0, 1), append(fullShard(1), bal(5, 2, 1))
	cases := []struct {
		name string
		list []impl.Balance
		want int64
	}{
		{"nil", nil, impl.OK},
		{"empty", bals(), impl.OK},
		{"all", fullShard(most), impl.OK},
		{"one more", over, impl.ErrMany},
		{"many", slices.Repeat(fullShard(1), 50), impl.ErrMany},
		{"account 0, asset 0, amount 1", bals(bal(0, 0, 1)), impl.OK},
		{"account 5, asset 2, MaxAmount", bals(bal(5, 2, most)), impl.OK},
		{"account -1", bals(bal(-1, 0, 1)), impl.ErrRange},
		{"account 6", bals(far), impl.ErrRange},
		{"account far below", bals(bal(farLow, 0, 1)), impl.ErrRange},
		{"account far above", bals(bal(farHigh, 0, 1)), impl.ErrRange},
		{"asset -1", bals(bal(0, -1, 1)), impl.ErrRange},
		{"asset 3", bals(bal(0, 3, 1)), impl.ErrRange},
		{"asset far below", bals(bal(0, farLow, 1)), impl.ErrRange},
		{"asset far above", bals(bal(0, farHigh, 1)), impl.ErrRange},
		{"amount 0", bals(bal(0, 0, 0)), impl.ErrRange},
		{"amount -1", bals(bal(0, 0, -1)), impl.ErrRange},
		{"amount above", bals(bal(0, 0, most+1)), impl.ErrRange},
		{"amount far below", bals(bal(0, 0, farLow)), impl.ErrRange},
		{"amount far above", bals(bal(0, 0, farHigh)), impl.ErrRange},
		{"by account", bals(bal(0, 2, 1), bal(1, 0, 1)), impl.OK},
		{"by account, turned", bals(bal(1, 0, 1), bal(0, 2, 1)), impl.ErrForm},
		{"by account, turned, one asset", bals(bal(1, 0, 1), bal(0, 0, 1)), impl.ErrForm},
		{"by asset", bals(bal(1, 0, 9), bal(1, 1, 1)), impl.OK},
		{"by asset, turned", bals(bal(1, 1, 1), bal(1, 0, 9)), impl.ErrForm},
		{"twice", bals(bal(1, 1, 4), bal(1, 1, 4)), impl.ErrForm},
		{"twice, the amount rises", bals(bal(1, 1, 4), bal(1, 1, 5)), impl.ErrForm},
		{"twice, one between", bals(bal(1, 1, 4), bal(1, 2, 4), bal(1, 1, 4)), impl.ErrForm},
		{"the last one in the wrong place", bals(bal(0, 0, 1), bal(2, 0, 1), bal(3, 1, 1), bal(3, 0, 1)), impl.ErrForm},
		{"many ahead of range", append(bals(far), fullShard(1)...), impl.ErrMany},
		{"many ahead of form", append(bals(bal(5, 2, 1)), fullShard(1)...), impl.ErrMany},
		{"a balance's form ahead of the next one's range", bals(bal(1, 0, 1), bal(0, 0, 1), far), impl.ErrForm},
		{"a balance's range ahead of the next one's form", bals(bal(1, 0, 1), far, bal(0, 0, 1)), impl.ErrRange},
		{"one balance's range ahead of its form", bals(bal(1, 0, 1), bal(0, 0, 0)), impl.ErrRange},
		{"one balance's range ahead of its form, below", bals(bal(1, 0, 1), bal(-1, 0, 1)), impl.ErrRange},
		{"two alike out of range", bals(far, far), impl.ErrRange},
		{"all far out", bals(bal(farLow, farHigh, farLow), bal(farHigh, farLow, farHigh)), impl.ErrRange},
	}
	for _, c := range cases {
		checkCode(t, c.name, impl.BalancesFault(c.list), c.want)
		checkCode(t, c.name+", a ledger's last shard", impl.LedgerFault(ledger(nil, fullShard(1), c.list)), c.want)
		if c.want != impl.OK {
			checkLedgerFaulted(t, c.name, ledger(c.list), c.want)
			checkLedgerFaulted(t, c.name+", last shard", ledger(nil, nil, c.list), c.want)
		}
	}
}

func TestLedgerFault(t *testing.T) {
	full, over := fullShard(1), append(fullShard(1), bal(5, 2, 1))
	far, twice := bals(bal(0, 0, 0)), bals(bal(0, 0, 1), bal(0, 0, 1))
	cases := []struct {
		name string
		g    impl.Ledger
		want int64
	}{
		{"zero value", impl.Ledger{}, impl.ErrMany},
		{"no shard", ledger(), impl.ErrMany},
		{"1 shard", ledger(nil), impl.OK},
		{"1 shard, empty", ledger(bals()), impl.OK},
		{"2 shards", ledger(full, nil), impl.OK},
		{"MaxShards shards", ledger(full, full, full), impl.OK},
		{"one shard more", ledger(nil, nil, nil, nil), impl.ErrMany},
		{"many shards", impl.Ledger{Shards: make([][]impl.Balance, 100)}, impl.ErrMany},
		{"too many shards ahead of a balance's range", ledger(far, nil, nil, nil), impl.ErrMany},
		{"too many shards ahead of a balance's form", ledger(twice, nil, nil, nil), impl.ErrMany},
		{"first shard's form ahead of the second's range", ledger(twice, far), impl.ErrForm},
		{"first shard's form ahead of the second's many", ledger(twice, over), impl.ErrForm},
		{"first shard's range ahead of the second's many", ledger(far, over), impl.ErrRange},
		{"first shard's range ahead of the second's form", ledger(far, twice), impl.ErrRange},
		{"first shard's many ahead of the second's range", ledger(over, far), impl.ErrMany},
		{"second shard's form ahead of the third's range", ledger(full, twice, far), impl.ErrForm},
	}
	for _, c := range cases {
		checkCode(t, c.name, impl.LedgerFault(c.g), c.want)
		if c.want != impl.OK {
			checkLedgerFaulted(t, c.name, c.g, c.want)
		}
	}
}

func TestLedgerFaultOfThrownLedgers(t *testing.T) {
	d := dice(21)
	told := map[int64]int{}
	for range 20000 {
		g := d.anyLedger()
		want := wantLedgerFault(g)
		told[want]++
		if got := impl.LedgerFault(g); got != want {
			t.Fatalf("LedgerFault(%v) = %d, want %d", g, got, want)
		}
		for _, list := range g.Shards {
			if got := impl.BalancesFault(list); got != wantBalancesFault(list) {
				t.Fatalf("BalancesFault(%v) = %d", list, got)
			}
		}
	}
	for _, code := range []int64{impl.OK, impl.ErrForm, impl.ErrMany, impl.ErrRange} {
		if told[code] < 500 {
			t.Errorf("code %d came up %d times only", code, told[code])
		}
	}
}

func TestBalanceOf(t *testing.T) {
	const most = impl.MaxAmount
	g := ledger(bals(bal(0, 0, 9), bal(0, 2, 1), bal(5, 2, most)), nil)
	cases := []struct {
		name                  string
		shard, account, asset int64
		code, value           int64
	}{
		{"the first one", 0, 0, 0, impl.OK, 9},
		{"another asset", 0, 0, 2, impl.OK, 1},
		{"the last one", 0, 5, 2, impl.OK, most},
		{"no balance of the asset", 0, 0, 1, impl.OK, 0},
		{"no balance of the account", 0, 3, 0, impl.OK, 0},
		{"a shard without balances", 1, 0, 0, impl.OK, 0},
		{"a shard that the ledger has not", 2, 0, 0, impl.ErrRange, 0},
		{"shard -1", -1, 0, 0, impl.ErrRange, 0},
		{"shard 3", 3, 0, 0, impl.ErrRange, 0},
		{"shard far below", farLow, 0, 0, impl.ErrRange, 0},
		{"shard far above", farHigh, 0, 0, impl.ErrRange, 0},
		{"account -1", 0, -1, 0, impl.ErrRange, 0},
		{"account 6", 0, 6, 0, impl.ErrRange, 0},
		{"account far below", 0, farLow, 0, impl.ErrRange, 0},
		{"account far above", 0, farHigh, 0, impl.ErrRange, 0},
		{"asset -1", 0, 0, -1, impl.ErrRange, 0},
		{"asset 3", 0, 0, 3, impl.ErrRange, 0},
		{"asset far below", 0, 0, farLow, impl.ErrRange, 0},
		{"asset far above", 0, 0, farHigh, impl.ErrRange, 0},
	}
	for _, c := range cases {
		r := impl.BalanceOf(g, c.shard, c.account, c.asset)
		if r.Code != c.code || r.Value != c.value {
			t.Errorf("%s: %v, want %d, %d", c.name, r, c.code, c.value)
		}
	}
	for shards := 1; shards <= impl.MaxShards; shards++ {
		g := impl.Ledger{Shards: make([][]impl.Balance, shards)}
		checkCode(t, "the last shard", impl.BalanceOf(g, int64(shards)-1, 5, 2).Code, impl.OK)
		checkCode(t, "behind the last shard", impl.BalanceOf(g, int64(shards), 5, 2).Code, impl.ErrRange)
	}
}

func TestTotalOf(t *testing.T) {
	const most = impl.MaxAmount
	g := ledger(bals(bal(0, 0, 9), bal(0, 2, 1), bal(1, 0, 4)), nil, bals(bal(0, 0, 3), bal(5, 2, most)))
	for asset, want := range []int64{16, 0, most + 1} {
		if r := impl.TotalOf(g, int64(asset)); r.Code != impl.OK || r.Value != want {
			t.Errorf("asset %d: %v, want %d", asset, r, want)
		}
	}
	full := ledger(fullShard(most), fullShard(most), fullShard(most))
	if r := impl.TotalOf(full, 1); r.Code != impl.OK || r.Value != 18*most {
		t.Errorf("everybody has MaxAmount: %v", r)
	}
	if r := impl.TotalOf(ledger(nil), 2); r.Code != impl.OK || r.Value != 0 {
		t.Errorf("nobody has anything: %v", r)
	}
	for _, asset := range []int64{farLow, -1, impl.MaxAssets, farHigh} {
		if r := impl.TotalOf(g, asset); r.Code != impl.ErrRange || r.Value != 0 {
			t.Errorf("asset %d: %v", asset, r)
		}
	}
}

func TestCanSettle(t *testing.T) {
	const most = impl.MaxAmount
	g := ledger(bals(bal(0, 0, 9), bal(1, 0, most), bal(2, 0, most-1), bal(3, 1, 1)), bals(bal(0, 0, 5)))
	take := func(amount int64) impl.Contract { return contract(1, leg(0, 0, 0, -amount), leg(1, 3, 0, amount)) }
	give := func(account, amount int64) impl.Contract {
		return contract(1, leg(1, 0, 0, -amount), leg(0, account, 0, amount))
	}
	cases := []struct {
		name string
		c    impl.Contract
		want int64
	}{
		{"less than there is", take(8), impl.OK},
		{"all that there is", take(9), impl.OK},
		{"one more", take(10), impl.ErrShort},
		{"far more", take(most), impl.ErrShort},
		{"from who has nothing", contract(1, leg(0, 5, 0, -1), leg(1, 0, 0, 1)), impl.ErrShort},
		{"of an asset that it has not", contract(1, leg(0, 0, 1, -1), leg(1, 0, 1, 1)), impl.ErrShort},
		{"from who has it on another shard", contract(1, leg(1, 1, 0, -1), leg(0, 0, 0, 1)), impl.ErrShort},
		{"up to MaxAmount", give(2, 1), impl.OK},
		{"above MaxAmount", give(2, 2), impl.ErrRange},
		{"to who has MaxAmount", give(1, 1), impl.ErrRange},
		{"to somebody new", give(5, 5), impl.OK},
		{"MaxAmount to somebody new", contract(1, leg(0, 1, 0, -most), leg(1, 1, 0, most)), impl.OK},
		{"MaxAmount to who has something", contract(1, leg(0, 1, 0, -most), leg(1, 0, 0, most)), impl.ErrRange},
		{"a shard that is none", contract(1, leg(0, 0, 0, -1), leg(2, 0, 0, 1)), impl.ErrNone},
		{"a fault of the contract: id", contract(0, take(1).Legs...), impl.ErrRange},
		{"a fault of the contract: legs", contract(1, leg(0, 0, 0, -1)), impl.ErrMany},
		{"a fault of the contract: taken", contract(1, leg(0, 0, 0, -1), leg(0, 0, 0, 1)), impl.ErrTaken},
		{"a fault of the contract: sums", contract(1, leg(0, 0, 0, -1), leg(1, 0, 0, 2)), impl.ErrForm},
		{"a fault of the contract: a leg", contract(1, leg(0, 0, 0, farLow), leg(1, 0, 0, farHigh)), impl.ErrRange},
		{"zero value", impl.Contract{}, impl.ErrRange},
		{"the contract's fault ahead of none", contract(1, leg(2, 0, 0, -1), leg(0, 0, 0, 2)), impl.ErrForm},
		{"the contract's fault ahead of short", contract(1, leg(0, 5, 0, -1), leg(0, 4, 0, 2)), impl.ErrForm},
		{"none ahead of short", contract(1, leg(0, 5, 0, -1), leg(2, 0, 0, 1)), impl.ErrNone},
		{"none ahead of above", contract(1, leg(0, 1, 0, 1), leg(2, 0, 0, -1)), impl.ErrNone},
		{"short ahead of a later above", contract(1, leg(0, 5, 0, -1), leg(0, 1, 0, 1)), impl.ErrShort},
		{"above ahead of a later short", contract(1, leg(0, 1, 0, 1), leg(0, 5, 0, -1)), impl.ErrRange},
		{"what another leg gives helps nobody", contract(1, leg(0, 5, 0, 4), leg(0, 4, 0, -4)), impl.ErrShort},
		{"MaxLegs legs, some on a shard that is none", chain(1, impl.MaxLegs), impl.ErrNone},
	}
	for _, c := range cases {
		checkCode(t, c.name, impl.CanSettle(g, c.c), c.want)
		if r := impl.SettleOne(g, c.c); r.Code != c.want || c.want != impl.OK && len(r.Ledger.Shards) != 0 {
			t.Errorf("%s: SettleOne %v, want code %d", c.name, r, c.want)
		}
		checkOutcome(t, c.name, g, c.c, c.want == impl.OK)
	}
	eight := ledger(nil, bals(bal(2, 1, 6)), nil)
	checkCode(t, "the last of MaxLegs legs is short", impl.CanSettle(eight, chain(1, impl.MaxLegs)), impl.ErrShort)
	eight.Shards[1][0].Amount = 7
	checkCode(t, "the last of MaxLegs legs takes all", impl.CanSettle(eight, chain(1, impl.MaxLegs)), impl.OK)
}

// checkOutcome asks SettleAll for one contract: its code is never told, only
// that it was not settled.
func checkOutcome(t *testing.T, what string, g impl.Ledger, c impl.Contract, done bool) {
	t.Helper()
	r := impl.SettleAll(g, []impl.Contract{c})
	want, outcome := g, int64(impl.OutcomeNot)
	if done {
		want, outcome = wantSettleOne(g, c).Ledger, impl.OutcomeDone
	}
	if r.Code != impl.OK || !slices.Equal(r.Outcomes, []int64{outcome}) || !sameBalances(r.Ledger, want) {
		t.Errorf("%s: SettleAll %v, want outcome %d and %v", what, r, outcome, want)
	}
}

func TestSettleOne(t *testing.T) {
	const most = impl.MaxAmount
	g := ledger(bals(bal(0, 0, 9), bal(2, 1, most)), bals(bal(3, 0, most-4)))
	cases := []struct {
		name string
		c    impl.Contract
		want impl.Ledger
	}{
		{"some of it", contract(1, leg(0, 0, 0, -4), leg(1, 3, 0, 4)),
			ledger(bals(bal(0, 0, 5), bal(2, 1, most)), bals(bal(3, 0, most)))},
		{"all of it, to somebody new", contract(1, leg(0, 0, 0, -9), leg(1, 0, 0, 9)),
			ledger(bals(bal(2, 1, most)), bals(bal(0, 0, 9), bal(3, 0, most-4)))},
		{"a shard is left with nothing", contract(1, leg(1, 3, 0, -most+4), leg(0, 5, 0, most-4)),
			ledger(bals(bal(0, 0, 9), bal(2, 1, most), bal(5, 0, most-4)), nil)},
		{"to many that are new, told in order", contract(1, leg(0, 2, 1, -6), leg(0, 2, 0, 1), leg(0, 5, 1, 3), leg(0, 0, 0, -1), leg(0, 1, 1, 1), leg(0, 0, 1, 2)),
			ledger(bals(bal(0, 0, 8), bal(0, 1, 2), bal(1, 1, 1), bal(2, 0, 1), bal(2, 1, most-6), bal(5, 1, 3)), bals(bal(3, 0, most-4)))},
		{"MaxAmount goes wholly", contract(1, leg(1, 2, 1, most), leg(0, 2, 1, -most)),
			ledger(bals(bal(0, 0, 9)), bals(bal(2, 1, most), bal(3, 0, most-4)))},
	}
	for _, c := range cases {
		r := impl.SettleOne(g, c.c)
		checkCode(t, c.name, r.Code, impl.OK)
		checkLedger(t, c.name, r.Ledger, c.want)
		checkCode(t, c.name, impl.LedgerFault(r.Ledger), impl.OK)
	}
}

func TestSettleOneOfThrownLedgers(t *testing.T) {
	d := dice(22)
	told := map[int64]int{}
	for range 20000 {
		g, c := d.rightLedger(), d.rightContract()
		if d.below(10) == 0 {
			g, c = d.anyLedger(), d.anyContract()
		}
		want := wantSettleOne(g, c)
		told[want.Code]++
		checkCode(t, "CanSettle", impl.CanSettle(g, c), want.Code)
		r := impl.SettleOne(g, c)
		if r.Code != want.Code || !sameBalances(r.Ledger, want.Ledger) {
			t.Fatalf("SettleOne(%v, %v) = %v, want %v", g, c, r, want)
		}
	}
	for _, code := range []int64{impl.OK, impl.ErrNone, impl.ErrShort, impl.ErrRange} {
		if told[code] < 200 {
			t.Errorf("code %d came up %d times only", code, told[code])
		}
	}
}

func TestSettleAll(t *testing.T) {
	g := ledger(bals(bal(0, 0, 9)), nil)
	all := contract(1, leg(0, 0, 0, -9), leg(1, 0, 0, 9))
	back := contract(2, leg(0, 0, 0, 9), leg(1, 0, 0, -9))
	some := contract(3, leg(0, 0, 0, -1), leg(1, 5, 0, 1))
	missing := contract(4, leg(0, 0, 0, -1), leg(2, 0, 0, 1))
	faulty := contract(0, some.Legs...)
	over := ledger(bals(bal(1, 0, impl.MaxAmount)), bals(bal(0, 0, 3)))
	more := contract(5, leg(0, 1, 0, 1), leg(1, 0, 0, -1))
	const done, not = impl.OutcomeDone, impl.OutcomeNot
	cases := []struct {
		name     string
		g        impl.Ledger
		list     []impl.Contract
		outcomes []int64
		want     impl.Ledger
	}{
		{"nil", g, nil, nil, g},
		{"empty", g, []impl.Contract{}, nil, g},
		{"one", g, []impl.Contract{all}, []int64{done}, ledger(nil, bals(bal(0, 0, 9)))},
		{"twice: the second has nothing left to take", g, []impl.Contract{all, all}, []int64{done, not}, ledger(nil, bals(bal(0, 0, 9)))},
		{"in order", g, []impl.Contract{back, all, some, back, some}, []int64{not, done, not, done, done}, ledger(bals(bal(0, 0, 8)), bals(bal(5, 0, 1)))},
		{"one id many times", g, []impl.Contract{some, some, some}, []int64{done, done, done}, ledger(bals(bal(0, 0, 6)), bals(bal(5, 0, 3)))},
		{"a shard that is none", g, []impl.Contract{missing, some}, []int64{not, done}, ledger(bals(bal(0, 0, 8)), bals(bal(5, 0, 1)))},
		{"a fault", g, []impl.Contract{faulty, some, {}}, []int64{not, done, not}, ledger(bals(bal(0, 0, 8)), bals(bal(5, 0, 1)))},
		{"above MaxAmount", over, []impl.Contract{more, more}, []int64{not, not}, over},
	}
	for _, c := range cases {
		r := impl.SettleAll(c.g, c.list)
		checkCode(t, c.name, r.Code, impl.OK)
		if !slices.Equal(r.Outcomes, c.outcomes) {
			t.Errorf("%s: outcomes %v, want %v", c.name, r.Outcomes, c.outcomes)
		}
		checkLedger(t, c.name, r.Ledger, c.want)
	}
}

func TestSettleAllOfHundred(t *testing.T) {
	g := ledger(bals(bal(0, 0, 99)), nil)
	one := contract(1, leg(0, 0, 0, -1), leg(1, 0, 0, 1))
	r := impl.SettleAll(g, slices.Repeat([]impl.Contract{one}, 100))
	want := append(slices.Repeat([]int64{impl.OutcomeDone}, 99), impl.OutcomeNot)
	if r.Code != impl.OK || !slices.Equal(r.Outcomes, want) {
		t.Errorf("100 contracts: %v", r)
	}
	checkLedger(t, "100 contracts", r.Ledger, ledger(nil, bals(bal(0, 0, 99))))
	for _, n := range []int{101, 500} {
		for _, c := range []impl.Contract{one, {}} {
			r := impl.SettleAll(g, slices.Repeat([]impl.Contract{c}, n))
			if r.Code != impl.ErrMany || len(r.Outcomes) != 0 || len(r.Ledger.Shards) != 0 {
				t.Errorf("%d contracts: %v", n, r)
			}
		}
	}
}

func TestSameLedgers(t *testing.T) {
	a := ledger(bals(bal(0, 0, 9), bal(1, 2, 4)), nil, bals(bal(0, 1, 5)))
	cases := []struct {
		name string
		a, b impl.Ledger
		want bool
	}{
		{"as it is", a, cloneLedger(a), true},
		{"nil and empty balances", a, ledger(a.Shards[0], bals(), a.Shards[2]), true},
		{"nil and empty shards", impl.Ledger{}, ledger(), true},
		{"no shard and one without balances", impl.Ledger{}, ledger(nil), false},
		{"a shard less", a, ledger(a.Shards[0], nil), false},
		{"a shard more, without balances", a, ledger(a.Shards[0], nil, a.Shards[2], nil), false},
		{"shards in another order", a, ledger(a.Shards[2], nil, a.Shards[0]), false},
		{"another account", a, ledger(a.Shards[0], nil, bals(bal(1, 1, 5))), false},
		{"another asset", a, ledger(a.Shards[0], nil, bals(bal(0, 2, 5))), false},
		{"another amount", a, ledger(a.Shards[0], nil, bals(bal(0, 1, 6))), false},
		{"a balance less", a, ledger(bals(bal(0, 0, 9)), nil, a.Shards[2]), false},
		{"a balance more", a, ledger(a.Shards[0], bals(bal(0, 0, 1)), a.Shards[2]), false},
		{"balances in another order", a, ledger(bals(bal(1, 2, 4), bal(0, 0, 9)), nil, a.Shards[2]), false},
		{"a balance of 0 is not none", ledger(bals(bal(0, 0, 0))), ledger(nil), false},
		{"faults are not asked: amounts", ledger(bals(bal(farLow, farHigh, 0))), ledger(bals(bal(farLow, farHigh, 0))), true},
		{"faults are not asked: many", impl.Ledger{Shards: make([][]impl.Balance, 9)}, impl.Ledger{Shards: make([][]impl.Balance, 9)}, true},
		{"faults are not asked: order", ledger(bals(bal(3, 0, 1), bal(1, 0, 1))), ledger(bals(bal(3, 0, 1), bal(1, 0, 1))), true},
		{"faults and not the same", ledger(bals(bal(farLow, 0, 0))), ledger(bals(bal(farHigh, 0, 0))), false},
	}
	for _, c := range cases {
		if impl.SameLedgers(c.a, c.b) != c.want || impl.SameLedgers(c.b, c.a) != c.want {
			t.Errorf("%s: want %v both ways", c.name, c.want)
		}
	}
}
