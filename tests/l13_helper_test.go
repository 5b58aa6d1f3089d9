package tests

import (
	"cmp"
	"fmt"
	"slices"
	"strings"
	"testing"

	"loop.example/g00203/impl"
)

// appliedAt is the cluster where a shard was told that these contracts are
// done, in this order; its balances stay as they are.
func appliedAt(c impl.Cluster, shard int64, ids ...int64) impl.Cluster {
	c = cloneCluster(c)
	for _, id := range ids {
		c.Shards[shard].Done = markedWith(c.Shards[shard].Done, mark(id, impl.OutcomeDone))
		c.Shards[shard].Applied = append(c.Shards[shard].Applied, id)
	}
	return c
}

// heldAt is the cluster where a shard is ready for a contract and holds it.
func heldAt(c impl.Cluster, shard int64, x impl.Contract) impl.Cluster {
	c = votedAt(c, shard, x.Id, impl.ValueReady)
	c.Shards[shard].Held = append(c.Shards[shard].Held, cloneContract(x))
	slices.SortFunc(c.Shards[shard].Held, func(a, b impl.Contract) int { return cmp.Compare(a.Id, b.Id) })
	return c
}

func votedAt(c impl.Cluster, shard, contract, value int64) impl.Cluster {
	c = cloneCluster(c)
	c.Shards[shard].Votes = markedWith(c.Shards[shard].Votes, mark(contract, value))
	return c
}

// The want functions tell chapter 13 once more.
func wantSafeCluster(c impl.Cluster) bool {
	if wantClusterFault(c) != impl.OK {
		return false
	}
	for _, x := range c.Contracts {
		for _, shard := range shardsIn(x) {
			if !wantAgreeSlots(wantSlotsFor(c.Acceptors, x.Id, shard).Slots) {
				return false
			}
			said := toldIn(c.Shards[shard].Votes, x.Id)
			if wantChosenAt(c.Acceptors, x.Id, shard).Value == impl.ValueReady && said != impl.ValueReady {
				return false
			}
		}
	}
	for _, s := range c.Shards {
		for _, m := range s.Done {
			if wantOutcomeOf(c.Acceptors, *wantSubmitted(c, m.Contract)).Value != m.Value {
				return false
			}
		}
	}
	return true
}

func wantBooksBalance(start impl.Ledger, c impl.Cluster) bool {
	if wantClusterFault(c) != impl.OK || wantLedgerFault(start) != impl.OK || len(start.Shards) != len(c.Shards) {
		return false
	}
	books := gridOf(start)
	for _, s := range c.Shards {
		for _, id := range s.Applied {
			for _, l := range legsHere(s, *wantSubmitted(c, id)) {
				books[s.Index][l.Account][l.Asset] += l.Amount
			}
		}
	}
	return books == gridOf(wantLedgerOf(c).Ledger)
}

func wantDoneOf(c impl.Cluster) impl.IntsResult {
	if code := wantClusterFault(c); code != impl.OK {
		return impl.IntsResult{Code: code}
	}
	var list []int64
	for _, s := range c.Shards {
		list = append(list, s.Applied...)
	}
	slices.Sort(list)
	return impl.IntsResult{List: slices.Compact(list)}
}

// wantAhead asks whether one may stand ahead of another: wherever they meet it
// was applied ahead of it, or the other was not applied.
func wantAhead(c impl.Cluster, one, other int64) bool {
	x, y := *wantSubmitted(c, one), *wantSubmitted(c, other)
	for _, s := range c.Shards {
		was, wasOther := slices.Index(s.Applied, one), slices.Index(s.Applied, other)
		if wantMeet(s, x, y) && wasOther >= 0 && (was < 0 || was > wasOther) {
			return false
		}
	}
	return true
}

func wantOrderOf(c impl.Cluster) impl.OrderResult {
	done := wantDoneOf(c)
	if done.Code != impl.OK {
		return impl.OrderResult{Code: done.Code}
	}
	var order []int64
	for len(order) < len(done.List) {
		before := len(order)
		for _, id := range done.List {
			waits := func(other int64) bool {
				return other != id && !slices.Contains(order, other) && !wantAhead(c, id, other)
			}
			if !slices.Contains(order, id) && !slices.ContainsFunc(done.List, waits) {
				order = append(order, id)
				break
			}
		}
		if len(order) == before {
			return impl.OrderResult{Code: impl.ErrForm}
		}
	}
	return impl.OrderResult{Order: order}
}

func wantReplayOrder(start impl.Ledger, c impl.Cluster) impl.OutcomesResult {
	order := wantOrderOf(c)
	if code := cmp.Or(order.Code, wantLedgerFault(start)); code != impl.OK {
		return impl.OutcomesResult{Code: code}
	}
	r := impl.OutcomesResult{Ledger: cloneLedger(start)}
	for _, id := range order.Order {
		told := wantSettleOne(r.Ledger, *wantSubmitted(c, id))
		if told.Code != impl.OK {
			r.Outcomes = append(r.Outcomes, impl.OutcomeNot)
			continue
		}
		r.Outcomes, r.Ledger = append(r.Outcomes, impl.OutcomeDone), told.Ledger
	}
	return r
}

func wantHeldTotal(c impl.Cluster, asset int64) impl.IntResult {
	if code := wantClusterFault(c); code != impl.OK {
		return impl.IntResult{Code: code}
	}
	if asset != 0 && asset != 1 && asset != 2 {
		return impl.IntResult{Code: impl.ErrRange}
	}
	var total int64
	for _, x := range c.Contracts {
		for _, l := range x.Legs {
			if l.Asset == asset && l.Amount < 0 && holds(c.Shards[l.Shard], x.Id) {
				total -= l.Amount
			}
		}
	}
	return impl.IntResult{Value: total}
}

func wantStatusText(c impl.Cluster) impl.TextResult {
	if code := wantClusterFault(c); code != impl.OK {
		return impl.TextResult{Code: code}
	}
	var text strings.Builder
	for _, x := range c.Contracts {
		word := [3]string{"open", "done", "not"}[toldIn(c.Shards[slices.Min(shardsIn(x))].Done, x.Id)]
		if !wantSettledAt(c, x.Id) {
			word = "open"
		}
		fmt.Fprintf(&text, "contract %d %s\n", x.Id, word)
	}
	fmt.Fprintf(&text, "messages %d\n", len(c.Messages))
	return impl.TextResult{Text: text.String()}
}

func checkSafe(t *testing.T, what string, c impl.Cluster, want bool) {
	t.Helper()
	if got := impl.SafeCluster(c); got != want {
		t.Errorf("%s: SafeCluster %v", what, got)
	}
	if got := wantSafeCluster(c); got != want {
		t.Errorf("%s, told once more: SafeCluster %v", what, got)
	}
}

func checkBooks(t *testing.T, what string, start impl.Ledger, c impl.Cluster, want bool) {
	t.Helper()
	if got := impl.BooksBalance(start, c); got != want {
		t.Errorf("%s: BooksBalance %v", what, got)
	}
	if got := wantBooksBalance(start, c); got != want {
		t.Errorf("%s, told once more: BooksBalance %v", what, got)
	}
}

func checkOrderResult(t *testing.T, what string, got, want impl.OrderResult) {
	t.Helper()
	if got.Code != want.Code || !slices.Equal(got.Order, want.Order) {
		t.Errorf("%s: OrderOf %v, want %v", what, got, want)
	}
}

func checkOutcomes(t *testing.T, what string, got, want impl.OutcomesResult) {
	t.Helper()
	if got.Code != want.Code || !slices.Equal(got.Outcomes, want.Outcomes) || !sameBalances(got.Ledger, want.Ledger) {
		t.Errorf("%s: ReplayOrder %v, want %v", what, got, want)
	}
}

// wrongLedgers have each code that a ledger has.
func wrongLedgers() []impl.Ledger {
	return []impl.Ledger{
		{}, ledger(nil, nil, nil, nil), ledger(append(fullShard(1), bal(0, 0, 1)), nil, nil),
		ledger(bals(bal(0, 0, 0)), nil, nil), ledger(nil, bals(bal(6, 0, 1)), nil), ledger(nil, nil, bals(bal(farLow, farHigh, farLow))),
		ledger(nil, bals(bal(1, 0, 1), bal(0, 0, 1)), nil), ledger(nil, nil, bals(bal(1, 1, 1), bal(1, 1, 1))),
	}
}

// assetNumbers are right and wrong ones of HeldTotal.
var assetNumbers = []int64{farLow, -1, 0, 1, impl.MaxAssets - 1, impl.MaxAssets, farHigh}

// checkAuditFaulted holds all functions of chapter 13 against the code of a
// ClusterFault, whatever else they are given.
func checkAuditFaulted(t *testing.T, what string, c impl.Cluster, code int64) {
	t.Helper()
	checkSafe(t, what, c, false)
	checkOrderResult(t, what, impl.OrderOf(c), impl.OrderResult{Code: code})
	checkNumbers(t, what+": DoneOf", impl.DoneOf(c), impl.IntsResult{Code: code})
	checkText(t, what+": StatusText", impl.StatusText(c), impl.TextResult{Code: code})
	for _, asset := range assetNumbers {
		checkNumber(t, what+": HeldTotal", impl.HeldTotal(c, asset), impl.IntResult{Code: code})
	}
	for _, g := range append(wrongLedgers(), ledger(nil), ledger(nil, nil, nil), ledger(fullShard(10), fullShard(10), fullShard(10))) {
		checkBooks(t, what, g, c, false)
		checkOutcomes(t, what, impl.ReplayOrder(g, c), impl.OutcomesResult{Code: code})
	}
}

// checkAudit holds all functions of chapter 13 against what is wanted. It
// tells whether the cluster is safe, whether books balance, and the code of
// OrderOf.
func checkAudit(t *testing.T, start impl.Ledger, c impl.Cluster) (safe, balanced bool, code int64) {
	t.Helper()
	safe, balanced = wantSafeCluster(c), wantBooksBalance(start, c)
	checkSafe(t, "SafeCluster", c, safe)
	checkBooks(t, "BooksBalance", start, c, balanced)
	order := wantOrderOf(c)
	checkOrderResult(t, "OrderOf", impl.OrderOf(c), order)
	checkOutcomes(t, "ReplayOrder", impl.ReplayOrder(start, c), wantReplayOrder(start, c))
	checkNumbers(t, "DoneOf", impl.DoneOf(c), wantDoneOf(c))
	checkText(t, "StatusText", impl.StatusText(c), wantStatusText(c))
	for _, asset := range assetNumbers {
		checkNumber(t, "HeldTotal", impl.HeldTotal(c, asset), wantHeldTotal(c, asset))
	}
	if t.Failed() {
		t.Fatalf("%+v of %+v", c, start)
	}
	return safe, balanced, order.Code
}
