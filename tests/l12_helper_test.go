package tests

import (
	"slices"
	"testing"

	"loop.example/g00203/impl"
)

// The want functions tell chapter 12 once more.
func wantSettledAt(c impl.Cluster, contract int64) bool {
	if wantClusterFault(c) != impl.OK {
		return false
	}
	x := wantSubmitted(c, contract)
	if x == nil {
		return false
	}
	settled := true
	for _, l := range x.Legs {
		settled = settled && toldIn(c.Shards[l.Shard].Done, contract) != impl.OutcomeNone
	}
	return settled
}

func wantOpenOf(c impl.Cluster) impl.IntsResult {
	if code := wantClusterFault(c); code != impl.OK {
		return impl.IntsResult{Code: code}
	}
	var list []int64
	for _, x := range c.Contracts {
		if !wantSettledAt(c, x.Id) {
			list = append(list, x.Id)
		}
	}
	slices.Sort(list)
	return impl.IntsResult{List: list}
}

func wantRoundCluster(c impl.Cluster) impl.ClusterResult {
	r := impl.ClusterResult{Code: wantClusterFault(c)}
	if r.Code != impl.OK {
		return r
	}
	r.Cluster = cloneCluster(c)
	for left := len(c.Messages); left > 0; left-- {
		if r = wantDeliverMessage(r.Cluster, 0); r.Code != impl.OK {
			return r
		}
	}
	if open := wantOpenOf(r.Cluster).List; len(r.Cluster.Messages) == 0 && len(open) > 0 {
		return wantTickLeader(r.Cluster, 0, slices.Min(open))
	}
	return r
}

func wantDrainCluster(c impl.Cluster, rounds int64) impl.ClusterResult {
	if code := wantClusterFault(c); code != impl.OK {
		return impl.ClusterResult{Code: code}
	}
	if rounds < 0 || rounds > 200 {
		return impl.ClusterResult{Code: impl.ErrRange}
	}
	r := impl.ClusterResult{Cluster: cloneCluster(c)}
	for n := int64(0); n < rounds && r.Code == impl.OK && len(r.Cluster.Messages)+len(wantOpenOf(r.Cluster).List) > 0; n++ {
		r = wantRoundCluster(r.Cluster)
	}
	return r
}

func wantLedgerOf(c impl.Cluster) impl.LedgerResult {
	if code := wantClusterFault(c); code != impl.OK {
		return impl.LedgerResult{Code: code}
	}
	shards := make([][]impl.Balance, len(c.Shards))
	for _, s := range c.Shards {
		shards[s.Index] = slices.Clone(s.Balances)
	}
	return impl.LedgerResult{Ledger: ledger(shards...)}
}

func wantOutcomeAt(c impl.Cluster, contract int64) impl.IntResult {
	if code := wantClusterFault(c); code != impl.OK {
		return impl.IntResult{Code: code}
	}
	x := wantSubmitted(c, contract)
	if x == nil {
		return impl.IntResult{Code: impl.ErrNone}
	}
	return wantOutcomeOf(c.Acceptors, *x)
}

func wantRoundsFor(c impl.Cluster) impl.IntResult {
	open := wantOpenOf(c)
	if open.Code != impl.OK {
		return impl.IntResult{Code: open.Code}
	}
	counts := 4 * max(c.Leaders[0].Count, c.Leaders[1].Count)
	return impl.IntResult{Value: 12*int64(len(open.List)+1) + counts}
}

func checkLedgerResult(t *testing.T, what string, got, want impl.LedgerResult) {
	t.Helper()
	checkCode(t, what, got.Code, want.Code)
	checkLedger(t, what, got.Ledger, want.Ledger)
}

func checkSettled(t *testing.T, what string, c impl.Cluster, contract int64, want bool) {
	t.Helper()
	if got := impl.SettledAt(c, contract); got != want {
		t.Errorf("%s: SettledAt(%d) %v", what, contract, got)
	}
}

// checkOpen is of a cluster without a fault: just these are open, of all that
// it may be asked.
func checkOpen(t *testing.T, what string, c impl.Cluster, want ...int64) {
	t.Helper()
	checkNumbers(t, what+": OpenOf", impl.OpenOf(c), impl.IntsResult{List: want})
	for _, x := range c.Contracts {
		checkSettled(t, what, c, x.Id, !slices.Contains(want, x.Id))
	}
	for _, id := range []int64{farLow, -1, 0, maxId - 1, maxId + 1, farHigh} {
		checkSettled(t, what+": not submitted", c, id, false)
	}
}

// roundNumbers are right and wrong ones of DrainCluster.
var roundNumbers = []int64{farLow, -201, -200, -1, 0, 1, 2, 199, 200, 201, 400, farHigh}

// checkDriveFaulted holds all functions of chapter 12 against the code of a
// ClusterFault, whatever else they are given.
func checkDriveFaulted(t *testing.T, what string, c impl.Cluster, code int64) {
	t.Helper()
	checkNumbers(t, what+": OpenOf", impl.OpenOf(c), impl.IntsResult{Code: code})
	checkClusterCode(t, what+": RoundCluster", impl.RoundCluster(c), code)
	checkLedgerResult(t, what+": LedgerOf", impl.LedgerOf(c), impl.LedgerResult{Code: code})
	checkNumber(t, what+": RoundsFor", impl.RoundsFor(c), impl.IntResult{Code: code})
	for _, n := range roundNumbers {
		checkClusterCode(t, what+": DrainCluster", impl.DrainCluster(c, n), code)
	}
	for _, id := range []int64{farLow, -1, 0, 1, 2, 4, 7, 9, 50, maxId + 1, farHigh} {
		checkSettled(t, what, c, id, false)
		checkNumber(t, what+": OutcomeAt", impl.OutcomeAt(c, id), impl.IntResult{Code: code})
	}
}

// settledFor tells each shard of a contract its outcome, as a shard may know
// it that never voted: not done.
func settledFor(c impl.Cluster, contract int64, shards ...int64) impl.Cluster {
	c = cloneCluster(c)
	for _, at := range shards {
		c.Shards[at].Done = markedWith(c.Shards[at].Done, mark(contract, impl.OutcomeNot))
	}
	return c
}

// withMessages is the cluster with just these messages.
func withMessages(c impl.Cluster, list ...impl.Message) impl.Cluster {
	c = cloneCluster(c)
	c.Messages = list
	return c
}

// deafTo are acceptors that promised a ballot above all for each part of the
// contracts: whatever they are asked, they do nothing.
func deafTo(c impl.Cluster) impl.Cluster {
	c = cloneCluster(c)
	for at := range c.Acceptors {
		c.Acceptors[at].Slots = nil
		for _, x := range c.Contracts {
			for _, shard := range shardsIn(x) {
				c.Acceptors[at].Slots = append(c.Acceptors[at].Slots, elsewhere(slotOf(maxBallot), x.Id, shard))
			}
		}
	}
	return c
}
