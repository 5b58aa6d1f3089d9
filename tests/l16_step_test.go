package tests

import (
	"fmt"
	"strings"
	"testing"

	"loop.example/g00203/impl"
)

// askedCluster has two shards, of which the first account of the first one has
// 9, 3 acceptors, and contract 1, for which both shards are asked.
func askedCluster() impl.Cluster {
	return impl.SubmitContract(impl.NewCluster(ledger(bals(bal(0, 0, 9)), nil), 3).Cluster, pair(1)).Cluster
}

func TestPut(t *testing.T) {
	c := askedCluster()
	fresh := impl.NewCluster(ledger(bals(bal(0, 0, 9)), nil), 3).Cluster
	checkStepSaid(t, fresh, "put 1 0 0 0 -5 1 0 0 5", c, "ok")
	checkStepSaid(t, c, "put 1 0 0 0 -5 1 0 0 5", c, "ok")
	for _, x := range []impl.Contract{
		pair(2), pair(999999999), contract(3, leg(1, 5, 2, 7), leg(1, 0, 2, -7)), contract(4, leg(0, 0, 0, -999999999), leg(1, 0, 0, 999999999)),
		contract(5, leg(0, 0, 0, -5), leg(1, 0, 0, 5), leg(0, 0, 1, 3), leg(0, 0, 2, -1), leg(1, 2, 1, -3), leg(1, 2, 2, 1), leg(0, 5, 0, 1), leg(1, 5, 0, -1)),
	} {
		checkStepSaid(t, c, putLine(x), impl.SubmitContract(c, x).Cluster, "ok")
	}
	checkStepSaid(t, c, "put 000000002 00 0 000 -05 01 0 0 5", impl.SubmitContract(c, pair(2)).Cluster, "ok")
	cases := []struct {
		line string
		want int64
	}{
		{"put 0 0 0 0 -5 1 0 0 5", impl.ErrRange},
		{"put -0 0 0 0 -5 1 0 0 5", impl.ErrRange},
		{"put -1 0 0 0 -5 1 0 0 5", impl.ErrRange},
		{"put -999999999 0 0 0 -5 1 0 0 5", impl.ErrRange},
		{"put 1000000000 0 0 0 -5 1 0 0 5", impl.ErrText},
		{"put 2", impl.ErrMany},
		{"put 0", impl.ErrRange},
		{"put -2", impl.ErrRange},
		{"put 2 0 0 0 -5", impl.ErrMany},
		{"put 2" + strings.Repeat(" 0 0 0 -5", 9), impl.ErrMany},
		{"put 0" + strings.Repeat(" 0 0 0 -5", 9), impl.ErrRange},
		{"put 2 3 0 0 -5 1 0 0 5", impl.ErrRange},
		{"put 2 -1 0 0 -5 1 0 0 5", impl.ErrRange},
		{"put 2 0 6 0 -5 1 0 0 5", impl.ErrRange},
		{"put 2 0 -1 0 -5 1 0 0 5", impl.ErrRange},
		{"put 2 0 0 3 -5 1 0 0 5", impl.ErrRange},
		{"put 2 0 0 -1 -5 1 0 0 5", impl.ErrRange},
		{"put 2 0 0 0 0 1 0 0 0", impl.ErrForm},
		{"put 2 0 0 0 -5 0 0 0 5", impl.ErrTaken},
		{"put 2 0 0 0 -5 1 0 0 4", impl.ErrForm},
		{"put 2 0 0 0 5 1 0 0 5", impl.ErrForm},
		{"put 2 0 0 0 -5 1 0 1 5", impl.ErrForm},
		{"put 2 0 0 0 -5 2 0 0 5", impl.ErrNone},
		{"put 1 0 0 0 -5 2 0 0 5", impl.ErrNone},
		{"put 1 0 0 0 -4 1 0 0 4", impl.ErrTaken},
		{"put 1 1 0 0 5 0 0 0 -5", impl.ErrTaken},
		{"put 0 0 0 0 -5 1 0 0", impl.ErrText},
		{"put 0 0 0 0 -5 1 0 0 5 0", impl.ErrText},
		{"put 1 0 0 0 -4 1 0 0 x", impl.ErrText},
		{"put x 0 0 0 -5 1 0 0 5", impl.ErrText},
		{"put x", impl.ErrText},
	}
	for _, x := range cases {
		checkStepCode(t, c, x.line, x.want)
	}
	crowd := freshCluster(3, contractsAt(1, 20)...)
	checkStepCode(t, crowd, putLine(pair(21)), impl.ErrMany)
	checkStepSaid(t, crowd, putLine(crowd.Contracts[19]), crowd, "ok")
	full := withMessages(c, manyMessages(199, 1, 0)...)
	checkStepCode(t, full, putLine(pair(2)), impl.ErrMany)
	checkStepSaid(t, full, putLine(pair(1)), full, "ok")
	room := withMessages(c, manyMessages(198, 1, 0)...)
	checkStepSaid(t, room, putLine(pair(2)), impl.SubmitContract(room, pair(2)).Cluster, "ok")
}

// Lines with one place or two, each at right ones and at such beyond them.
func TestLinesWithPlaces(t *testing.T) {
	calls := map[string]func(c impl.Cluster, at int64) impl.ClusterResult{
		"give": impl.DeliverMessage, "copy": impl.CopyMessage, "drop": impl.DropMessage, "crash": impl.CrashLeader, "again": impl.ResendShard,
		"drain": impl.DrainCluster,
	}
	for _, c := range []impl.Cluster{askedCluster(), busyCluster(), fullCluster(), freshCluster(1), freshCluster(2, three(5), pair(7))} {
		places := []int64{-999999999, -201, -100, -1, 0, 1, 2, 3, 7, 8, 150, 199, 200, 201, 999999999}
		for word, call := range calls {
			for _, at := range places {
				told := call(c, at)
				want := impl.ScriptResult{Code: told.Code, Cluster: told.Cluster}
				if told.Code == impl.OK {
					want.Said = "ok"
				}
				if told.Code == impl.OK && word == "drain" {
					want.Said = fmt.Sprint("open ", len(impl.OpenOf(told.Cluster).List))
				}
				checkStep(t, c, fmt.Sprint(word, " ", at), want)
			}
		}
		for _, leader := range places[2:8] {
			for _, id := range append(places, 4, 5, 9) {
				told := impl.TickLeader(c, leader, id)
				want := impl.ScriptResult{Code: told.Code, Cluster: told.Cluster}
				if told.Code == impl.OK {
					want.Said = "ok"
				}
				checkStep(t, c, fmt.Sprint("tick ", leader, " ", id), want)
			}
		}
	}
}

// The codes of the calls that lines make, by name.
func TestCodesOfLines(t *testing.T) {
	asked, busy, full := askedCluster(), busyCluster(), fullCluster()
	heard := withMessages(full, saidTo(0, 0, 1, 0, not(2)))
	spent := withMessages(freshCluster(3, pair(2)))
	spent.Leaders[0].Count = 400
	crowded := withMessages(asked, manyMessages(200, 1, 0)...)
	held := heldAt(heldAt(freshCluster(3, pair(2)), 0, pair(2)), 1, pair(2))
	cases := []struct {
		name string
		c    impl.Cluster
		line string
		want int64
	}{
		{"behind the last message", asked, "give 2", impl.ErrRange},
		{"no messages", freshCluster(3), "give 0", impl.ErrRange},
		{"ahead of all messages", asked, "give -1", impl.ErrRange},
		{"two who hear of it beside 199", crowded, "give 0", impl.ErrMany},
		{"300 were heard", heard, "give 0", impl.ErrMany},
		{"behind the last message", asked, "copy 2", impl.ErrRange},
		{"ahead of all messages", asked, "copy -1", impl.ErrRange},
		{"200 messages", full, "copy 0", impl.ErrMany},
		{"200 messages, and behind the last one", full, "copy 200", impl.ErrRange},
		{"behind the last message", asked, "drop 2", impl.ErrRange},
		{"ahead of all messages", asked, "drop -1", impl.ErrRange},
		{"no messages", freshCluster(3), "drop 0", impl.ErrRange},
		{"leader 2", asked, "tick 2 1", impl.ErrRange},
		{"leader -1", asked, "tick -1 1", impl.ErrRange},
		{"leader 2, and no such contract", asked, "tick 2 7", impl.ErrRange},
		{"no such contract", asked, "tick 0 7", impl.ErrNone},
		{"contract -1", asked, "tick 1 -1", impl.ErrNone},
		{"contract 0", asked, "tick 1 0", impl.ErrNone},
		{"no ballots are left", spent, "tick 0 2", impl.ErrMany},
		{"no ballots are left, and no such contract", spent, "tick 0 3", impl.ErrNone},
		{"no room for ballots", crowded, "tick 0 1", impl.ErrMany},
		{"leader 2", busy, "crash 2", impl.ErrRange},
		{"leader -1", busy, "crash -1", impl.ErrRange},
		{"shard 2 of two", asked, "again 2", impl.ErrRange},
		{"shard 3", busy, "again 3", impl.ErrRange},
		{"shard -1", busy, "again -1", impl.ErrRange},
		{"no room for votes", withMessages(held, manyMessages(200, 2, 0)...), "again 0", impl.ErrMany},
		{"rounds below 0", asked, "drain -1", impl.ErrRange},
		{"more than MaxRounds", asked, "drain 201", impl.ErrRange},
		{"very many rounds", asked, "drain 999999999", impl.ErrRange},
		{"no room in a round", crowded, "drain 1", impl.ErrMany},
		{"no ballots are left in a round", spent, "drain 1", impl.ErrMany},
		{"no such contract", asked, "what 2", impl.ErrNone},
		{"contract 0", asked, "what 0", impl.ErrNone},
		{"contract -1", asked, "what -1", impl.ErrNone},
		{"no contracts", freshCluster(3), "what 1", impl.ErrNone},
		{"shard 2 of two", asked, "has 2 0 0", impl.ErrRange},
		{"shard -1", asked, "has -1 0 0", impl.ErrRange},
		{"account 6", asked, "has 0 6 0", impl.ErrRange},
		{"account -1", asked, "has 0 -1 0", impl.ErrRange},
		{"asset 3", asked, "has 0 0 3", impl.ErrRange},
		{"asset -1", asked, "has 0 0 -1", impl.ErrRange},
		{"all far out", asked, "has -999999999 999999999 -999999999", impl.ErrRange},
	}
	for _, x := range cases {
		t.Run(x.name, func(t *testing.T) {
			checkClusterRight(t, x.name, x.c)
			checkStepCode(t, x.c, x.line, x.want)
			checkRunSaid(t, x.name, x.c, x.line, x.c, fmt.Sprint("! ", x.want, "\n"))
		})
	}
}

// What drain says is of the cluster behind it, and how many are open there.
func TestDrain(t *testing.T) {
	c := askedCluster()
	for n, want := range []string{"open 1", "open 1", "open 1", "open 1", "open 0", "open 0"} {
		checkStepSaid(t, c, fmt.Sprint("drain ", n), impl.DrainCluster(c, int64(n)).Cluster, want)
	}
	checkStepSaid(t, c, "drain 200", impl.DrainCluster(c, 200).Cluster, "open 0")
	checkStepSaid(t, c, "drain -0", c, "open 1")
	checkStepSaid(t, freshCluster(3), "drain 20", freshCluster(3), "open 0")
	checkStepSaid(t, fullCluster(), "drain 0", fullCluster(), "open 20")
	deaf := deafTo(freshCluster(2, contractsAt(1, 12)...))
	checkStepSaid(t, deaf, "drain 200", impl.DrainCluster(deaf, 200).Cluster, "open 12")
	busy := busyCluster()
	checkStepSaid(t, busy, "drain 0", busy, "open 3")
}

func TestWhat(t *testing.T) {
	most := func(v impl.Vote) []impl.Slot { return slotsOf(castOf(v), castOf(v)) }
	cases := []struct {
		c    impl.Cluster
		said string
	}{
		{freshCluster(3, pair(7)), "what 0"},
		{pairTold(most(ready(0)), nil, [2]int64{}, [2]int64{}), "what 0"},
		{pairTold(most(ready(0)), most(ready(3)), [2]int64{}, [2]int64{}), "what 1"},
		{pairTold(most(ready(0)), most(not(3)), [2]int64{}, [2]int64{}), "what 2"},
		{pairTold(most(not(1)), nil, [2]int64{}, [2]int64{}), "what 2"},
		// What shards were told is not asked.
		{settledFor(freshCluster(3, pair(7)), 7, 0, 1), "what 0"},
		{beside(pairTold(most(ready(0)), most(ready(3)), [2]int64{}, [2]int64{})), "what 1"},
	}
	for _, x := range cases {
		checkClusterRight(t, x.said, x.c)
		checkStepSaid(t, x.c, "what 7", x.c, x.said)
		checkStepSaid(t, x.c, "what 000000007", x.c, x.said)
		checkStepCode(t, x.c, "what -7", impl.ErrNone)
	}
}

func TestHas(t *testing.T) {
	g := ledger(bals(bal(0, 0, 9), bal(0, 2, 10), bal(5, 1, impl.MaxAmount)), nil, bals(bal(1, 0, 1), bal(1, 2, 123456789012)))
	c := impl.NewCluster(g, 2).Cluster
	told := map[string]string{
		"has 0 0 0": "has 9", "has 0 0 2": "has 10", "has 0 5 1": "has 1000000000000", "has 2 1 0": "has 1", "has 2 1 2": "has 123456789012",
	}
	for shard := range 3 {
		for account := range 6 {
			for asset := range 3 {
				line := fmt.Sprint("has ", shard, " ", account, " ", asset)
				said := told[line]
				if said == "" {
					said = "has 0"
				}
				checkStepSaid(t, c, line, c, said)
			}
		}
	}
	// What is held is there still, and what is done is not.
	held := impl.DrainCluster(askedCluster(), 1).Cluster
	checkStepSaid(t, held, "has 0 0 0", held, "has 9")
	done := impl.DrainCluster(held, 200).Cluster
	checkStepSaid(t, done, "has 0 0 0", done, "has 4")
	checkStepSaid(t, done, "has 1 0 0", done, "has 5")
}

func TestSafe(t *testing.T) {
	most := func(v impl.Vote) []impl.Slot { return slotsOf(castOf(v), castOf(v)) }
	split := slotsOf(castOf(ready(0), not(3)), castOf(ready(0), not(3)))
	cases := []struct {
		c    impl.Cluster
		said string
	}{
		{freshCluster(3), "safe 1"},
		{askedCluster(), "safe 1"},
		{freshCluster(5, contractsAt(1, 20)...), "safe 1"},
		{fullCluster(), "safe 0"},
		{impl.DrainCluster(askedCluster(), 200).Cluster, "safe 1"},
		{busyCluster(), "safe 0"},
		{settledFor(freshCluster(3, pair(7)), 7, 0), "safe 0"},
		{pairTold(most(ready(0)), split, [2]int64{isReady, isReady}, [2]int64{}), "safe 0"},
		{pairTold(most(ready(0)), most(ready(0)), [2]int64{isReady, isReady}, [2]int64{1, 1}), "safe 1"},
		{pairTold(most(ready(0)), nil, [2]int64{}, [2]int64{}), "safe 0"},
	}
	for _, x := range cases {
		checkClusterRight(t, x.said, x.c)
		checkStepSaid(t, x.c, "safe", x.c, x.said)
	}
}

// Lines of two kinds that differ in a word alone differ in what they do.
func TestEachWordDoesItsOwn(t *testing.T) {
	c := impl.TickLeader(impl.DrainCluster(askedCluster(), 1).Cluster, 0, 1).Cluster
	seen := map[string]string{}
	for _, line := range []string{"give 0", "copy 0", "drop 0", "crash 0", "again 0", "drain 1", "tick 0 1", "tick 1 1", putLine(pair(2)), "what 1", "safe", "has 0 0 0"} {
		r := impl.StepScript(c, line)
		if r.Code != impl.OK {
			t.Fatalf("%s: code %d", line, r.Code)
		}
		name := fmt.Sprint(r)
		if seen[name] != "" {
			t.Errorf("%s does what %s does: %s", line, seen[name], name)
		}
		seen[name] = line
	}
}
