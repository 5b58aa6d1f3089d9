package tests

import (
	"fmt"
	"reflect"
	"slices"
	"strings"
	"testing"

	"loop.example/g00203/impl"
)

// checkCuts asks promise 17 of a script, at each line feed: it does in two
// parts what it does in one. It tells how many line feeds there are, and what
// the whole does.
func checkCuts(t *testing.T, c impl.Cluster, text string) (int, impl.ScriptResult) {
	t.Helper()
	whole := impl.RunScript(c, text)
	if whole.Code != impl.OK {
		t.Fatalf("code %d of %q", whole.Code, text)
	}
	cuts, format := 0, impl.FormatCluster(whole.Cluster)
	for at := range len(text) {
		if text[at] != '\n' {
			continue
		}
		cuts++
		first := impl.RunScript(c, text[:at+1])
		rest := impl.RunScript(first.Cluster, text[at+1:])
		if first.Code != impl.OK || rest.Code != impl.OK || first.Said+rest.Said != whole.Said {
			t.Fatalf("%q, cut behind byte %d: codes %d, %d, %q and %q, whole %q", text, at, first.Code, rest.Code, first.Said, rest.Said, whole.Said)
		}
		if impl.FormatCluster(rest.Cluster) != format || !sameClusters(rest.Cluster, whole.Cluster) {
			t.Fatalf("%q, cut behind byte %d:\ngot  %+v\nwant %+v", text, at, rest.Cluster, whole.Cluster)
		}
	}
	return cuts, whole
}

// checkLineByLine asks for the script cut behind all its line feeds, and for
// its lines by themselves.
func checkLineByLine(t *testing.T, c impl.Cluster, text string, whole impl.ScriptResult) {
	t.Helper()
	parts, steps := impl.ScriptResult{Cluster: c}, impl.ScriptResult{Cluster: c}
	for line := range strings.Lines(text) {
		part := impl.RunScript(parts.Cluster, line)
		parts = impl.ScriptResult{Code: max(parts.Code, part.Code), Cluster: part.Cluster, Said: parts.Said + part.Said}
		step := impl.StepScript(steps.Cluster, strings.TrimSuffix(line, "\n"))
		switch {
		case step.Code != impl.OK:
			steps.Said += fmt.Sprint("! ", step.Code, "\n")
			continue
		case step.Said != "":
			steps.Said += step.Said + "\n"
		}
		steps.Cluster = step.Cluster
	}
	checkScriptResult(t, "in as many parts as there are lines", parts, whole)
	checkScriptResult(t, "step by step", steps, whole)
	if t.Failed() {
		t.Fatalf("%q of %+v", text, c)
	}
}

// Promise 17, for scripts that are thrown, one behind the other, from a new
// cluster on.
func TestScriptsThatAreCut(t *testing.T) {
	t.Parallel()
	d := dice(244)
	seen, cuts := scriptSeen{}, 0
	for walk := range 300 {
		w := d.closeWorld(1+int(d.below(6)), true)
		if walk%5 == 0 {
			w = d.clusterWorld(24, true)
		}
		c := w.start
		for range 6 {
			text := d.script(c, w, int(d.below(16)))
			n, whole := checkCuts(t, c, text)
			checkLineByLine(t, c, text, whole)
			seen.count(whole.Said)
			cuts += n
			c = whole.Cluster
		}
	}
	seen.checkAll(t, 60, "ok", "open", "open 1", "what 0", "what 1", "what 2", "has", "has 1", "safe 1", "! 3", "! 4", "! 5")
	seen.checkAll(t, 20, "! 2")
	if cuts < 3000 {
		t.Errorf("only %d cuts", cuts)
	}
}

// Scripts of as many lines, and of as many bytes, as there may be.
func TestLongScriptsThatAreCut(t *testing.T) {
	t.Parallel()
	d := dice(245)
	lines, bytes := 0, 0
	for range 12 {
		w := d.closeWorld(20, true)
		text := d.script(w.start, w, impl.MaxLines)
		checkCuts(t, w.start, text)
		lines = max(lines, strings.Count(text, "\n"))
		text += strings.Repeat(" ", impl.MaxScript-len(text))
		if strings.HasSuffix(text, "\n") || strings.Count(text, "\n") < impl.MaxLines {
			checkCuts(t, w.start, text)
			bytes = max(bytes, len(text))
		}
	}
	if lines < impl.MaxLines-1 || bytes < impl.MaxScript {
		t.Errorf("%d lines, %d bytes at most", lines, bytes)
	}
	for _, text := range []string{strings.Repeat("\n", 80), strings.Repeat("wink\n", 80), strings.Repeat("safe\n", 80), strings.Repeat("x\n \n", 40), putFive + strings.Repeat("\ncopy 0", 79), strings.Repeat("give 0\n", 79) + putFive} {
		checkCuts(t, newPair(), text)
	}
}

// Each kind of line, a line with a code, one without words and one that cannot
// be read: first, in the middle and last, beside each other kind.
func TestEveryScriptOfThreeLinesThatIsCut(t *testing.T) {
	t.Parallel()
	lines := []string{
		putFive, "put 2 1 0 0 -5 0 1 0 5", "put 1 0 0 0 -4 1 0 0 4", "give 0", "give 1", "copy 0", "drop 0", "tick 0 1", "crash 0", "again 0", "drain 1", "drain 20",
		"what 1", "has 0 0 0", "safe", "", "  ", "wink", "give -1", "put 1 0",
	}
	starts := []impl.Cluster{newPair(), behind(t, newPair(), putFive), behind(t, newPair(), putFive, "drain 2", "tick 1 1")}
	seen := scriptSeen{}
	for _, c := range starts {
		for _, first := range lines {
			for _, second := range lines {
				for _, third := range lines {
					text := strings.Join([]string{first, second, third}, "\n")
					_, whole := checkCuts(t, c, text)
					checkScriptResult(t, "a line feed behind the last line", impl.RunScript(c, text+"\n"), whole)
					seen.count(whole.Said)
				}
			}
		}
	}
	seen.checkAll(t, 100, "ok", "open 1", "what 0", "what 1", "has 1", "safe 1", "! 3", "! 4", "! 5", "! 7")
}

// A script that is too long does nothing; in two parts it may do all of it.
func TestScriptsThatAreTooLongForOne(t *testing.T) {
	c := newPair()
	text := strings.Repeat("safe\n", 80) + putFive + "\n"
	checkRunCode(t, "81 lines", c, text, impl.ErrMany)
	first := impl.RunScript(c, text[:5*80])
	checkRunSaid(t, "the last one", first.Cluster, text[5*80:], behind(t, c, putFive), "ok\n")
}

// scriptArgs are right and wrong clusters.
func scriptArgs() []impl.Cluster {
	d := dice(246)
	list := append(scriptClusters(), servedArgs()...)
	for range 8 {
		right, _ := d.walkedCluster(120)
		wrong, _ := d.anyCluster()
		_, strange := d.strangeCluster()
		list = append(list, right, wrong, strange)
	}
	return list
}

// scriptTexts are right and wrong lines and texts.
func scriptTexts() []string {
	return slices.Concat(rightLines(), wrongLines(), []string{
		"", " ", "\n", "safe\n", "safe\nwink\n\nsafe", "give 0\ngive 0", putFive + "\ndrain 20\nwhat 1", "put 2 0 0 0 -5 1 0 0 5", "tick 1 2", "tick 0 4\ncrash 1\nagain 2", "drain 200", "drain 201",
		"what 2", "has 2 5 2", "has -1 0 0", "give -1", "copy 1", "drop 1", "crash 1", "crash 2", "again 1", "again 3",
		strings.Repeat(" ", 3000), strings.Repeat(" ", 3001), strings.Repeat("\n", 80), strings.Repeat("\n", 81),
	})
}

// Promise 1: an answer at every argument that hangs on it alone, in new
// memory, also where nothing changes.
func TestScriptAnswersAreNewMemory(t *testing.T) {
	t.Parallel()
	for _, c := range scriptArgs() {
		checkPure(t, "FormatCluster", impl.FormatCluster, c)
		for _, text := range scriptTexts() {
			checkPure(t, "StepScript", impl.StepScript, c, text)
			checkPure(t, "RunScript", impl.RunScript, c, text)
		}
	}
	lists := [][]string{nil, {}, make([]string, 0, 3), {""}, {"x"}, {"1", "2", "3", "x"}, slices.Repeat([]string{"7"}, 4000)}
	for n := range 14 {
		lists = append(lists, legWords(4)[:n])
	}
	for _, words := range lists {
		checkPure(t, "ParseLegs", impl.ParseLegs, words)
	}
	for _, word := range append(noNumbers, "0", "-0", "000000007", "999999999") {
		checkPure(t, "ParseLegs", impl.ParseLegs, []string{"1", word, "3", "4"})
	}
}

func TestThrownScriptsAreNewMemory(t *testing.T) {
	t.Parallel()
	d := dice(247)
	for range 150 {
		c, w := d.oddCluster()
		text := d.script(c, w, 12)
		checkPure(t, "RunScript", impl.RunScript, c, text)
		for line := range strings.Lines(text) {
			checkPure(t, "StepScript", impl.StepScript, c, strings.TrimSuffix(line, "\n"))
		}
		checkPure(t, "FormatCluster", impl.FormatCluster, c)
		checkPure(t, "ParseLegs", impl.ParseLegs, strings.Fields(text))
	}
}

// Where nothing changes an answer is as the argument, and lies elsewhere.
func TestScriptsThatChangeNothing(t *testing.T) {
	busy := busyCluster()
	for _, line := range []string{"", "   ", "what 2", "has 0 0 0", "safe", "drain 0", putLine(busy.Contracts[0]), putLine(busy.Contracts[3])} {
		for name, f := range map[string]func(c impl.Cluster, text string) impl.ScriptResult{"StepScript": impl.StepScript, "RunScript": impl.RunScript} {
			before := cloneCluster(busy)
			r := f(busy, line)
			checkCode(t, name+": "+line, r.Code, impl.OK)
			if !sameClusters(r.Cluster, before) {
				t.Errorf("%s: %s changed something: %+v", name, line, r.Cluster)
			}
			checkApart(t, reflect.ValueOf(r), reflect.ValueOf(busy))
			scramble(reflect.ValueOf(&r).Elem())
			if !sameClusters(busy, before) {
				t.Errorf("%s: %s: what is written into the answer changes the argument", name, line)
			}
		}
	}
	for _, text := range []string{"", "\n", "wink\n", "safe\nwhat 2\nwink\ngive -1\n\n", strings.Repeat("\n", 80)} {
		before := cloneCluster(busy)
		r := impl.RunScript(busy, text)
		if r.Code != impl.OK || !sameClusters(r.Cluster, before) {
			t.Errorf("%q: code %d, %+v", text, r.Code, r.Cluster)
		}
		checkApart(t, reflect.ValueOf(r), reflect.ValueOf(busy))
		checkPure(t, "RunScript", impl.RunScript, busy, text)
	}
}

// scriptCalls are the functions of chapter 16 as they may be asked of a
// cluster.
func scriptCalls() map[string]func(c impl.Cluster) any {
	calls := map[string]func(c impl.Cluster) any{
		"FormatCluster": func(c impl.Cluster) any { return impl.FormatCluster(c) },
	}
	for _, text := range append(scriptTexts(), "tick 0 2\ntick 1 4\ndrain 3\nsafe", "put 3 0 0 0 -5 1 0 0 5\ngive 12\ncopy 0") {
		calls["StepScript "+text] = func(c impl.Cluster) any { return impl.StepScript(c, text) }
		calls["RunScript "+text] = func(c impl.Cluster) any { return impl.RunScript(c, text) }
	}
	return calls
}

// Lists of one memory are not changed, and each one of an answer is for
// itself, and none of two answers is the other's.
func TestScriptsOfOneMemoryAreNotChanged(t *testing.T) {
	c := clusterOfOneMemory(slices.Grow(pair(0).Legs, 4))
	balances := slices.Grow(fullShard(9), 4)
	c.Shards[0].Balances, c.Shards[1].Balances = balances, balances
	checkClusterRight(t, "of one memory", c)
	kept, own := keptOf(c), cloneCluster(c)
	for name, call := range scriptCalls() {
		kept.check(t, name, call(c), call(own))
	}
}

// What is written into an answer is in no later one.
func TestScriptsBehindOthersAreAsTheyWere(t *testing.T) {
	c := clusterOfOneMemory(slices.Grow(pair(0).Legs, 4))
	for name, call := range scriptCalls() {
		checkAsItWas(t, name, func() any { return call(c) })
	}
}

// Two scripts behind one cluster are two clusters: neither is seen in the
// other, nor in what came ahead.
func TestTwoScriptsBehindOneCluster(t *testing.T) {
	d := dice(248)
	for range 40 {
		w := d.closeWorld(5, true)
		c := w.start
		for range 12 {
			before := cloneCluster(c)
			a, b := d.script(c, w, 5), d.script(c, w, 5)
			first, second := impl.RunScript(c, a), impl.RunScript(c, b)
			checkScriptResult(t, "the first one", first, wantRunScript(before, a))
			scramble(reflect.ValueOf(&first).Elem())
			checkScriptResult(t, "the second one", second, wantRunScript(before, b))
			if !sameClusters(c, before) {
				t.Fatalf("%q of %+v: changed", a, before)
			}
			c = second.Cluster
		}
	}
}

// Nil and what is empty are one value: they have one answer.
func TestScriptsOfNilAndEmpty(t *testing.T) {
	d := dice(249)
	list := append(scriptClusters(), impl.NewCluster(ledger(nil, nil), 2).Cluster)
	for range 10 {
		c, _ := d.oddCluster()
		list = append(list, c)
	}
	for _, c := range list {
		none, empty := nilled(c), emptied(c)
		for name, call := range scriptCalls() {
			if a, b := call(none), call(empty); !reflect.DeepEqual(a, b) {
				t.Fatalf("%s: nil %+v, empty %+v", name, a, b)
			}
		}
	}
	if a, b := impl.ParseLegs(nil), impl.ParseLegs([]string{}); !reflect.DeepEqual(a, b) {
		t.Errorf("no words: nil %+v, empty %+v", a, b)
	}
}
