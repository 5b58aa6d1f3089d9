package tests

import (
	"slices"
	"testing"

	"loop.example/g00203/impl"
)

func TestConstants(t *testing.T) {
	got := []int64{impl.OK, impl.ErrForm, impl.ErrMany, impl.ErrRange, impl.ErrNone, impl.ErrText, impl.ErrShort, impl.ErrTaken, impl.ErrBusy, impl.ErrDown}
	for want, n := range got {
		if n != int64(want) {
			t.Errorf("code %d is %d", want, n)
		}
	}
	bounds := []int64{impl.MaxAmount, impl.MaxShards, impl.MaxLegs, impl.MaxAccounts, impl.MaxAssets}
	if !slices.Equal(bounds, []int64{1000000000000, 3, 8, 6, 3}) {
		t.Errorf("bounds %v", bounds)
	}
}

func TestLegFault(t *testing.T) {
	const most = impl.MaxAmount
	cases := []struct {
		name string
		leg  impl.Leg
		want int64
	}{
		{"least of all", leg(0, 0, 0, -most), impl.OK},
		{"greatest of all", leg(2, 5, 2, most), impl.OK},
		{"amount 1", leg(1, 3, 1, 1), impl.OK},
		{"amount -1", leg(1, 3, 1, -1), impl.OK},
		{"amount 0", leg(1, 3, 1, 0), impl.ErrForm},
		{"zero value", impl.Leg{}, impl.ErrForm},
		{"shard -1", leg(-1, 0, 0, 1), impl.ErrRange},
		{"shard 3", leg(3, 0, 0, 1), impl.ErrRange},
		{"shard far below", leg(farLow, 0, 0, 1), impl.ErrRange},
		{"shard far above", leg(farHigh, 0, 0, 1), impl.ErrRange},
		{"account -1", leg(0, -1, 0, 1), impl.ErrRange},
		{"account 6", leg(0, 6, 0, 1), impl.ErrRange},
		{"account far below", leg(0, farLow, 0, 1), impl.ErrRange},
		{"account far above", leg(0, farHigh, 0, 1), impl.ErrRange},
		{"asset -1", leg(0, 0, -1, 1), impl.ErrRange},
		{"asset 3", leg(0, 0, 3, 1), impl.ErrRange},
		{"asset far below", leg(0, 0, farLow, 1), impl.ErrRange},
		{"asset far above", leg(0, 0, farHigh, 1), impl.ErrRange},
		{"amount below", leg(0, 0, 0, -most-1), impl.ErrRange},
		{"amount above", leg(0, 0, 0, most+1), impl.ErrRange},
		{"amount far below", leg(0, 0, 0, farLow), impl.ErrRange},
		{"amount far above", leg(0, 0, 0, farHigh), impl.ErrRange},
		{"range ahead of form, shard", leg(3, 0, 0, 0), impl.ErrRange},
		{"range ahead of form, account", leg(0, -1, 0, 0), impl.ErrRange},
		{"range ahead of form, asset", leg(0, 0, 3, 0), impl.ErrRange},
		{"all far out", leg(farLow, farHigh, farLow, farHigh), impl.ErrRange},
	}
	for _, c := range cases {
		checkCode(t, c.name, impl.LegFault(c.leg), c.want)
	}
	for shard := int64(0); shard < impl.MaxShards; shard++ {
		for account := int64(0); account < impl.MaxAccounts; account++ {
			for asset := int64(0); asset < impl.MaxAssets; asset++ {
				checkCode(t, "each place", impl.LegFault(leg(shard, account, asset, 7)), impl.OK)
			}
		}
	}
}

func TestContractFaultSingly(t *testing.T) {
	const most = impl.MaxAmount
	cases := []struct {
		name string
		c    impl.Contract
		want int64
	}{
		{"id 1", pair(1), impl.OK},
		{"id 10^9", pair(maxId), impl.OK},
		{"id 0", pair(0), impl.ErrRange},
		{"id -1", pair(-1), impl.ErrRange},
		{"id 10^9 + 1", pair(maxId + 1), impl.ErrRange},
		{"id far below", pair(farLow), impl.ErrRange},
		{"id far above", pair(farHigh), impl.ErrRange},
		{"2 legs", chain(4, 2), impl.OK},
		{"MaxLegs legs", chain(4, impl.MaxLegs), impl.OK},
		{"one leg more", chain(4, impl.MaxLegs+1), impl.ErrMany},
		{"many legs", chain(4, 18), impl.ErrMany},
		{"1 leg", contract(4, leg(0, 0, 0, 5)), impl.ErrMany},
		{"nil legs", impl.Contract{Id: 4}, impl.ErrMany},
		{"empty legs", impl.Contract{Id: 4, Legs: []impl.Leg{}}, impl.ErrMany},
		{"zero value", impl.Contract{}, impl.ErrRange},
		{"greatest amounts", contract(4, leg(0, 0, 0, most), leg(2, 5, 0, -most)), impl.OK},
		{"amounts out of range", contract(4, leg(0, 0, 0, most+1), leg(2, 5, 0, -most-1)), impl.ErrRange},
		{"amounts far out", contract(4, leg(0, 0, 0, farHigh), leg(2, 5, 0, farLow)), impl.ErrRange},
		{"two legs of 0", contract(4, leg(0, 0, 0, 0), leg(1, 0, 0, 0)), impl.ErrForm},
		{"a third leg of 0", contract(4, leg(0, 0, 0, 5), leg(1, 0, 0, -5), leg(2, 0, 0, 0)), impl.ErrForm},
		{"two legs of one asset on one shard", contract(4, leg(0, 1, 0, 5), leg(0, 1, 0, -5)), impl.ErrTaken},
		{"two alike", contract(4, leg(0, 1, 0, 5), leg(0, 1, 0, 5), leg(1, 0, 0, -10)), impl.ErrTaken},
		{"first and last alike", contract(4, leg(0, 1, 0, 5), leg(1, 1, 0, -9), leg(0, 1, 0, 4)), impl.ErrTaken},
		{"two legs of one asset on two shards", contract(4, leg(0, 1, 0, 5), leg(1, 1, 0, -5)), impl.OK},
		{"two accounts on one shard", contract(4, leg(0, 1, 0, 5), leg(0, 2, 0, -5)), impl.OK},
		{"two assets of one account", contract(4, leg(0, 1, 0, 5), leg(0, 1, 1, 5), leg(0, 2, 0, -5), leg(0, 2, 1, -5)), impl.OK},
		{"1 too much", contract(4, leg(0, 0, 0, -5), leg(1, 0, 0, 6)), impl.ErrForm},
		{"1 too little", contract(4, leg(0, 0, 0, -5), leg(1, 0, 0, 4)), impl.ErrForm},
		{"given alone", contract(4, leg(0, 0, 0, 5), leg(1, 0, 0, 5)), impl.ErrForm},
		{"0 together over two assets only", contract(4, leg(0, 0, 0, -5), leg(1, 0, 1, 5)), impl.ErrForm},
		{"the last asset not 0", contract(4, leg(0, 0, 0, -5), leg(1, 0, 0, 5), leg(0, 0, 2, 1), leg(1, 0, 2, -2)), impl.ErrForm},
		{"0 together over three shards", contract(4, leg(0, 0, 2, -5), leg(1, 0, 2, 3), leg(2, 0, 2, 2)), impl.OK},
		{"all three assets", contract(4, leg(0, 0, 0, 1), leg(0, 0, 1, 2), leg(0, 0, 2, 3), leg(1, 0, 2, -3), leg(1, 0, 1, -2), leg(1, 0, 0, -1)), impl.OK},
	}
	for _, c := range cases {
		checkCode(t, c.name, impl.ContractFault(c.c), c.want)
		if c.want != impl.OK {
			checkFaulted(t, c.name, c.c, 0, 0, 1, c.want)
		}
	}
}

func TestContractFaultOfSeveral(t *testing.T) {
	right := leg(0, 0, 0, 5)
	far, nought, alike := leg(3, 0, 0, 5), leg(1, 0, 0, 0), leg(0, 0, 0, -5)
	cases := []struct {
		name string
		c    impl.Contract
		want int64
	}{
		{"id ahead of too few legs", contract(0), impl.ErrRange},
		{"id ahead of too many legs", chain(maxId+1, 9), impl.ErrRange},
		{"id ahead of a leg of 0", contract(0, right, nought), impl.ErrRange},
		{"id ahead of one that is there", contract(0, right, alike), impl.ErrRange},
		{"id ahead of sums", contract(0, right, leg(1, 0, 0, 5)), impl.ErrRange},
		{"too few ahead of a leg's range", contract(4, far), impl.ErrMany},
		{"too few ahead of a leg of 0", contract(4, nought), impl.ErrMany},
		{"too many ahead of a leg's range", contract(4, far, far, far, far, far, far, far, far, far), impl.ErrMany},
		{"too many ahead of one that is there", contract(4, right, right, right, right, right, right, right, right, right), impl.ErrMany},
		{"first leg's form ahead of the second's range", contract(4, nought, far), impl.ErrForm},
		{"first leg's range ahead of the second's form", contract(4, far, nought), impl.ErrRange},
		{"taken ahead of a later range", contract(4, right, alike, far), impl.ErrTaken},
		{"taken ahead of a later form", contract(4, right, alike, nought), impl.ErrTaken},
		{"range ahead of a later taken", contract(4, far, right, alike), impl.ErrRange},
		{"form ahead of a later taken", contract(4, nought, right, alike), impl.ErrForm},
		{"a leg of 0 that is there too", contract(4, right, leg(0, 0, 0, 0)), impl.ErrForm},
		{"a leg out of range that is there too", contract(4, right, leg(0, 0, 0, farLow)), impl.ErrRange},
		{"two alike out of range", contract(4, far, far), impl.ErrRange},
		{"taken ahead of sums", contract(4, right, right), impl.ErrTaken},
		{"the last leg's range ahead of sums", contract(4, right, leg(1, 0, 0, 5), far), impl.ErrRange},
	}
	for _, c := range cases {
		checkCode(t, c.name, impl.ContractFault(c.c), c.want)
		checkFaulted(t, c.name, c.c, 1, 1, 2, c.want)
		// The contract is asked ahead of the other argument.
		checkFaulted(t, c.name, c.c, 3, -1, 0, c.want)
		checkFaulted(t, c.name, c.c, farLow, farHigh, farHigh, c.want)
	}
}

func TestContractFaultOfThrownContracts(t *testing.T) {
	d := dice(1)
	told := map[int64]int{}
	for range 20000 {
		c := d.anyContract()
		want := wantContractFault(c)
		told[want]++
		if got := impl.ContractFault(c); got != want {
			t.Fatalf("ContractFault(%v) = %d, want %d", c, got, want)
		}
		for _, l := range c.Legs {
			if got := impl.LegFault(l); got != wantLegFault(l) {
				t.Fatalf("LegFault(%v) = %d", l, got)
			}
		}
	}
	for _, code := range []int64{impl.OK, impl.ErrForm, impl.ErrMany, impl.ErrRange, impl.ErrTaken} {
		if told[code] < 100 {
			t.Errorf("code %d came up %d times only", code, told[code])
		}
	}
}

func TestShardsOf(t *testing.T) {
	cases := []struct {
		name string
		c    impl.Contract
		want []int64
	}{
		{"the document's example", pair(1), []int64{0, 1}},
		{"rising, whatever the order of the legs", contract(1, leg(2, 0, 0, 4), leg(1, 0, 0, -9), leg(0, 0, 0, 5)), []int64{0, 1, 2}},
		{"one between is none", contract(1, leg(2, 0, 0, 5), leg(0, 0, 0, -5)), []int64{0, 2}},
		{"one alone, told once", contract(1, leg(2, 0, 0, 5), leg(2, 1, 0, -5)), []int64{2}},
		{"MaxLegs legs", chain(1, impl.MaxLegs), []int64{0, 1, 2}},
	}
	for _, c := range cases {
		if r := impl.ShardsOf(c.c); r.Code != impl.OK || !slices.Equal(r.List, c.want) {
			t.Errorf("%s: %v, want %v", c.name, r, c.want)
		}
	}
}

func TestLegsAt(t *testing.T) {
	c := contract(1, leg(2, 0, 0, 4), leg(0, 1, 1, -7), leg(2, 5, 1, 7), leg(0, 0, 0, -4))
	want := [][]impl.Leg{{c.Legs[1], c.Legs[3]}, nil, {c.Legs[0], c.Legs[2]}}
	for shard, legs := range want {
		if r := impl.LegsAt(c, int64(shard)); r.Code != impl.OK || !sameLegs(r.Legs, legs) {
			t.Errorf("shard %d: %v, want %v", shard, r, legs)
		}
	}
	for _, shard := range []int64{farLow, -1, impl.MaxShards, farHigh} {
		if r := impl.LegsAt(c, shard); r.Code != impl.ErrRange || len(r.Legs) != 0 {
			t.Errorf("shard %d: %v", shard, r)
		}
	}
}

func TestSumOf(t *testing.T) {
	const most = impl.MaxAmount
	c := contract(1, leg(0, 0, 0, -9), leg(1, 0, 0, 5), leg(2, 0, 0, 4), leg(0, 0, 2, 3), leg(1, 0, 2, -3))
	for asset, want := range []int64{9, 0, 3} {
		if r := impl.SumOf(c, int64(asset)); r.Code != impl.OK || r.Value != want {
			t.Errorf("asset %d: %v, want %d", asset, r, want)
		}
	}
	great := contract(1)
	for account := int64(0); account < 4; account++ {
		great.Legs = append(great.Legs, leg(0, account, 1, most), leg(2, account, 1, -most))
	}
	if r := impl.SumOf(great, 1); r.Code != impl.OK || r.Value != 4*most {
		t.Errorf("MaxLegs legs of MaxAmount: %v", r)
	}
	for _, asset := range []int64{farLow, -1, impl.MaxAssets, farHigh} {
		if r := impl.SumOf(c, asset); r.Code != impl.ErrRange || r.Value != 0 {
			t.Errorf("asset %d: %v", asset, r)
		}
	}
}

func TestReverseOf(t *testing.T) {
	const most = impl.MaxAmount
	c := contract(7, leg(2, 5, 0, most), leg(0, 1, 1, -1), leg(1, 1, 1, 1), leg(1, 3, 0, -most))
	turned := []impl.Leg{leg(2, 5, 0, -most), leg(0, 1, 1, 1), leg(1, 1, 1, -1), leg(1, 3, 0, most)}
	for _, id := range []int64{1, 7, maxId} {
		if r := impl.ReverseOf(c, id); r.Code != impl.OK || r.Contract.Id != id || !sameLegs(r.Contract.Legs, turned) {
			t.Errorf("id %d: %v", id, r)
		}
	}
	for _, id := range []int64{farLow, -1, 0, maxId + 1, farHigh} {
		r := impl.ReverseOf(c, id)
		if r.Code != impl.ErrRange || r.Contract.Id != 0 || len(r.Contract.Legs) != 0 {
			t.Errorf("id %d: %v", id, r)
		}
	}
}

func TestSameContract(t *testing.T) {
	a := contract(7, leg(0, 1, 2, -5), leg(1, 1, 2, 5))
	cases := []struct {
		name string
		a, b impl.Contract
		want bool
	}{
		{"as it is", a, cloneContract(a), true},
		{"another id", a, contract(8, a.Legs...), false},
		{"another order", a, contract(7, a.Legs[1], a.Legs[0]), false},
		{"another shard", a, contract(7, leg(2, 1, 2, -5), a.Legs[1]), false},
		{"another account", a, contract(7, leg(0, 2, 2, -5), a.Legs[1]), false},
		{"another asset", a, contract(7, leg(0, 1, 1, -5), a.Legs[1]), false},
		{"another amount", a, contract(7, leg(0, 1, 2, 5), a.Legs[1]), false},
		{"another last leg", a, contract(7, a.Legs[0], leg(1, 1, 2, 6)), false},
		{"a beginning", a, contract(7, a.Legs[0]), false},
		{"no legs in one", a, contract(7), false},
		{"a leg more", a, contract(7, a.Legs[0], a.Legs[1], impl.Leg{}), false},
		{"nil and empty", impl.Contract{Id: 7}, impl.Contract{Id: 7, Legs: []impl.Leg{}}, true},
		{"nil and empty of two ids", impl.Contract{Id: 7}, impl.Contract{Id: 8, Legs: []impl.Leg{}}, false},
		{"zero values", impl.Contract{}, impl.Contract{}, true},
		{"faults are not asked: id", pair(farLow), pair(farLow), true},
		{"faults are not asked: legs", contract(0, leg(farHigh, farLow, 9, 0)), contract(0, leg(farHigh, farLow, 9, 0)), true},
		{"faults are not asked: many", chain(3, 18), chain(3, 18), true},
		{"far out and not the same", pair(farLow), pair(farHigh), false},
	}
	for _, c := range cases {
		if impl.SameContract(c.a, c.b) != c.want || impl.SameContract(c.b, c.a) != c.want {
			t.Errorf("%s: want %v both ways", c.name, c.want)
		}
	}
}
