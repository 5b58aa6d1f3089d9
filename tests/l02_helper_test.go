package tests

import (
	"slices"
	"testing"

	"loop.example/g00203/impl"
)

func bal(account, asset, amount int64) impl.Balance {
	return impl.Balance{Account: account, Asset: asset, Amount: amount}
}

func bals(list ...impl.Balance) []impl.Balance {
	return list
}

func ledger(shards ...[]impl.Balance) impl.Ledger {
	return impl.Ledger{Shards: shards}
}

// fullShard has a balance of every account and asset.
func fullShard(amount int64) []impl.Balance {
	var list []impl.Balance
	for account := range int64(impl.MaxAccounts) {
		for asset := range int64(impl.MaxAssets) {
			list = append(list, bal(account, asset, amount))
		}
	}
	return list
}

func cloneLedger(g impl.Ledger) impl.Ledger {
	var shards [][]impl.Balance
	for _, list := range g.Shards {
		shards = append(shards, slices.Clone(list))
	}
	return impl.Ledger{Shards: shards}
}

func sameBalances(a, b impl.Ledger) bool {
	if len(a.Shards) != len(b.Shards) {
		return false
	}
	for i := range a.Shards {
		if !slices.Equal(a.Shards[i], b.Shards[i]) {
			return false
		}
	}
	return true
}

// rightLedger throws one without a fault; amounts lie at their bounds often.
func (d *dice) rightLedger() impl.Ledger {
	amounts := []int64{1, 2, 3, 5, 9, impl.MaxAmount - 3, impl.MaxAmount}
	var g impl.Ledger
	for range 1 + d.below(impl.MaxShards) {
		var list []impl.Balance
		for _, b := range fullShard(1) {
			if d.below(3) > 0 {
				b.Amount = amounts[d.below(int64(len(amounts)))]
				list = append(list, b)
			}
		}
		g.Shards = append(g.Shards, list)
	}
	return g
}

// anyLedger throws one that may have faults of every kind.
func (d *dice) anyLedger() impl.Ledger {
	g := d.rightLedger()
	for range d.below(3) {
		d.spoilLedger(&g)
	}
	return g
}

func (d *dice) spoilLedger(g *impl.Ledger) {
	switch d.below(8) {
	case 0:
		g.Shards = append(g.Shards, fullShard(1))
		return
	case 1:
		g.Shards = g.Shards[:0]
	}
	if len(g.Shards) == 0 {
		return
	}
	list := &g.Shards[d.below(int64(len(g.Shards)))]
	if len(*list) == 0 {
		return
	}
	at := d.below(int64(len(*list)))
	odd := []int64{farLow, -1, 0, 1, 2, 3, 5, 6, impl.MaxAmount, impl.MaxAmount + 1, farHigh}
	n := odd[d.below(int64(len(odd)))]
	switch d.below(6) {
	case 0:
		(*list)[at].Account = n
	case 1:
		(*list)[at].Asset = n
	case 2:
		(*list)[at].Amount = n
	case 3:
		(*list)[0], (*list)[at] = (*list)[at], (*list)[0]
	case 4:
		*list = append(*list, (*list)[at])
	case 5:
		*list = append(*list, fullShard(4)...)
	}
}

// grid is a ledger as the tests see it: every account and asset has a place,
// and who has nothing has 0 there.
type grid [impl.MaxShards][impl.MaxAccounts][impl.MaxAssets]int64

func gridOf(g impl.Ledger) grid {
	var m grid
	for shard, list := range g.Shards {
		for _, b := range list {
			m[shard][b.Account][b.Asset] = b.Amount
		}
	}
	return m
}

func (m grid) ledger(shards int) impl.Ledger {
	g := impl.Ledger{Shards: make([][]impl.Balance, shards)}
	for shard := range shards {
		for _, b := range fullShard(1) {
			if b.Amount = m[shard][b.Account][b.Asset]; b.Amount != 0 {
				g.Shards[shard] = append(g.Shards[shard], b)
			}
		}
	}
	return g
}

func wantBalancesFault(list []impl.Balance) int64 {
	if len(list) > 18 {
		return impl.ErrMany
	}
	last := int64(-1)
	for _, b := range list {
		inside := b.Account >= 0 && b.Account <= 5 && b.Asset >= 0 && b.Asset <= 2
		if !inside || b.Amount <= 0 || b.Amount > 1000000000000 {
			return impl.ErrRange
		}
		place := b.Account*3 + b.Asset
		if place <= last {
			return impl.ErrForm
		}
		last = place
	}
	return impl.OK
}

func wantLedgerFault(g impl.Ledger) int64 {
	if n := len(g.Shards); n == 0 || n > 3 {
		return impl.ErrMany
	}
	for _, list := range g.Shards {
		if code := wantBalancesFault(list); code != impl.OK {
			return code
		}
	}
	return impl.OK
}

func wantCanSettle(g impl.Ledger, c impl.Contract) int64 {
	if code := wantLedgerFault(g); code != impl.OK {
		return code
	}
	if code := wantContractFault(c); code != impl.OK {
		return code
	}
	if slices.ContainsFunc(c.Legs, func(l impl.Leg) bool { return l.Shard >= int64(len(g.Shards)) }) {
		return impl.ErrNone
	}
	m := gridOf(g)
	for _, l := range c.Legs {
		switch has := m[l.Shard][l.Account][l.Asset]; {
		case has < -l.Amount:
			return impl.ErrShort
		case has > impl.MaxAmount-l.Amount:
			return impl.ErrRange
		}
	}
	return impl.OK
}

func wantSettleOne(g impl.Ledger, c impl.Contract) impl.LedgerResult {
	if code := wantCanSettle(g, c); code != impl.OK {
		return impl.LedgerResult{Code: code}
	}
	m := gridOf(g)
	for _, l := range c.Legs {
		m[l.Shard][l.Account][l.Asset] += l.Amount
	}
	return impl.LedgerResult{Ledger: m.ledger(len(g.Shards))}
}

func checkLedger(t *testing.T, what string, got, want impl.Ledger) {
	t.Helper()
	if !sameBalances(got, want) {
		t.Errorf("%s: ledger %v, want %v", what, got, want)
	}
}

// checkLedgerFaulted holds the answers of all functions that ask the
// LedgerFault first against its code: it stands ahead of every other one, and
// nothing stands beside it.
func checkLedgerFaulted(t *testing.T, what string, g impl.Ledger, code int64) {
	t.Helper()
	many := slices.Repeat([]impl.Contract{pair(1)}, 101)
	for _, n := range []int64{0, -1, farHigh} {
		if r := impl.BalanceOf(g, n, n, n); r.Code != code || r.Value != 0 {
			t.Errorf("%s: BalanceOf %v, want code %d alone", what, r, code)
		}
		if r := impl.TotalOf(g, n); r.Code != code || r.Value != 0 {
			t.Errorf("%s: TotalOf %v, want code %d alone", what, r, code)
		}
	}
	faulty := []impl.Contract{pair(1), pair(0), {Id: 1}, contract(1, leg(0, 0, 0, 5), leg(1, 0, 0, 5)), contract(1, leg(0, 0, 0, 5), leg(0, 0, 0, -5))}
	for _, c := range faulty {
		checkCode(t, what+": CanSettle", impl.CanSettle(g, c), code)
		if r := impl.SettleOne(g, c); r.Code != code || len(r.Ledger.Shards) != 0 {
			t.Errorf("%s: SettleOne %v, want code %d alone", what, r, code)
		}
	}
	for _, list := range [][]impl.Contract{nil, faulty, many} {
		if r := impl.SettleAll(g, list); r.Code != code || len(r.Outcomes) != 0 || len(r.Ledger.Shards) != 0 {
			t.Errorf("%s: SettleAll %v, want code %d alone", what, r, code)
		}
	}
}
