package tests

import (
	"fmt"
	"strings"
	"testing"

	"loop.example/g00203/impl"
)

// behind is the cluster behind lines that have no code.
func behind(t *testing.T, c impl.Cluster, lines ...string) impl.Cluster {
	t.Helper()
	for _, line := range lines {
		r := impl.StepScript(c, line)
		if r.Code != impl.OK {
			t.Fatalf("%q: code %d", line, r.Code)
		}
		c = r.Cluster
	}
	return c
}

// newPair is a new cluster of two shards, where the first account has 9.
func newPair() impl.Cluster {
	return impl.NewCluster(ledger(bals(bal(0, 0, 9)), nil), 3).Cluster
}

const putFive = "put 1 0 0 0 -5 1 0 0 5"

func TestRunScript(t *testing.T) {
	c := newPair()
	put := behind(t, c, putFive)
	done := behind(t, put, "drain 20")
	cases := []struct {
		name, text, said string
		after            impl.Cluster
	}{
		{"no lines", "", "", c},
		{"the example", putFive + "\ndrain 20\nwhat 1", "ok\nopen 0\nwhat 1\n", done},
		{"a line feed behind the last line", putFive + "\ndrain 20\nwhat 1\n", "ok\nopen 0\nwhat 1\n", done},
		{"one line", putFive, "ok\n", put},
		{"one line with a line feed", putFive + "\n", "ok\n", put},
		{"what is asked changes nothing", putFive + "\nwhat 1\nsafe\nhas 0 0 0\nhas 1 0 0\nwhat 1", "ok\nwhat 0\nsafe 1\nhas 9\nhas 0\nwhat 0\n", put},
		{"amounts behind it", putFive + "\ndrain 20\nhas 0 0 0\nhas 1 0 0\nhas 1 5 2", "ok\nopen 0\nhas 4\nhas 5\nhas 0\n", done},
		{"round by round", putFive + strings.Repeat("\ndrain 1", 5), "ok\nopen 1\nopen 1\nopen 1\nopen 0\nopen 0\n", done},
		{"each message", putFive + "\ngive 0\ncopy 0\ndrop 1\ngive 0", "ok\nok\nok\nok\nok\n", behind(t, put, "give 0", "copy 0", "drop 1", "give 0")},
		{"nobody is asked", putFive + "\ndrop 1\ndrop 0\ntick 1 1\ncrash 1\nagain 0\ndrain 30\nwhat 1\nhas 0 0 0", "ok\nok\nok\nok\nok\nok\nopen 0\nwhat 2\nhas 9\n", behind(t, put, "drop 1", "drop 0", "tick 1 1", "crash 1", "drain 30")},
		{"a code first", "give 0\n" + putFive, "! 3\nok\n", put},
		{"a code in the middle", putFive + "\ngive 7\ndrain 20", "ok\n! 3\nopen 0\n", done},
		{"a code last", putFive + "\nwink", "ok\n! 5\n", put},
		{"a code alone", "wink", "! 5\n", c},
		{"a code alone, with a line feed", "wink\n", "! 5\n", c},
		{"codes alone", "wink\nput 0\nput 2\nwhat 1\nhas 0 0 3\nput 7 0 0 0 -5 1 0 0 4", "! 5\n! 3\n! 2\n! 4\n! 3\n! 1\n", c},
		{"all that there are", putFive + "\nput 1 0 0 0 -4 1 0 0 4\nput 2 0 0 0 0 1 0 0 0\nput 2\nput 0\nwhat 2\nput", "ok\n! 7\n! 1\n! 2\n! 3\n! 4\n! 5\n", put},
		{"numbers below 0", putFive + "\ndrain -1\nwhat -1\nhas -1 0 0\nhas 0 -1 0\nhas 0 0 -1\ngive -1\ncrash -1\ntick -1 1\ntick 0 -1\nput -1 0 0 0 -5 1 0 0 5", "ok\n! 3\n! 4\n! 3\n! 3\n! 3\n! 3\n! 3\n! 3\n! 4\n! 3\n", put},
		{"-0 is 0", "put 1 -0 -0 -0 -5 1 -0 -0 5\ndrain -0\nhas -0 -0 -0", "ok\nopen 1\nhas 9\n", put},
		{"words of a line that a line feed parts", "put 1 0 0 0 -5\n1 0 0 5", "! 2\n! 5\n", c},
	}
	for _, x := range cases {
		checkRunSaid(t, x.name, c, x.text, x.after, x.said)
	}
}

// Numbers that are said: both of safe, each outcome, how many are open, and
// amounts of one digit and of several.
func TestRunScriptSaysNumbers(t *testing.T) {
	most := func(v impl.Vote) []impl.Slot { return slotsOf(castOf(v), castOf(v)) }
	c := pairTold(most(ready(0)), most(not(3)), [2]int64{isReady, isNot}, [2]int64{})
	c.Shards[2].Balances = bals(bal(1, 0, 7), bal(1, 2, 123456789012), bal(5, 2, impl.MaxAmount))
	checkRunSaid(t, "safe", c, "what 7\nsafe\nhas 2 1 0\nhas 2 1 2\nhas 2 5 2\nhas 2 5 1", c, "what 2\nsafe 1\nhas 7\nhas 123456789012\nhas 1000000000000\nhas 0\n")
	strange := settledFor(freshCluster(3, pair(7)), 7, 0)
	checkRunSaid(t, "not safe", strange, "safe\nwhat 7\nsafe", strange, "safe 0\nwhat 0\nsafe 0\n")
	crowd := freshCluster(5, contractsAt(1, 20)...)
	checkRunSaid(t, "20 are open", crowd, "drain 0\ndrain -0\ndrain -1\ndrain 201", crowd, "open 20\nopen 20\n! 3\n! 3\n")
	checkRunSaid(t, "some are open", crowd, "drain 3\ndrain 30\ndrain 200", behind(t, crowd, "drain 200"), "open 20\nopen 14\nopen 0\n")
}

// Nothing is said of lines without words, not even a line feed, wherever they
// stand.
func TestRunScriptOfLinesWithoutWords(t *testing.T) {
	c := newPair()
	for _, text := range []string{"", " ", "\n", "\n\n\n", "  \n", " \n\n   ", strings.Repeat("\n", 80), strings.Repeat(" \n", 80), strings.Repeat(" ", 3000), strings.Repeat(" ", 2999) + "\n"} {
		checkRunSaid(t, "no words", c, text, c, "")
	}
	put := behind(t, c, putFive)
	lines := []string{putFive, "safe", "wink"}
	for _, nothing := range []string{"\n", " \n", "\n\n", "   \n \n\n"} {
		checkRunSaid(t, "first", c, nothing+strings.Join(lines, "\n"), put, "ok\nsafe 1\n! 5\n")
		checkRunSaid(t, "in the middle", c, strings.Join(lines, "\n"+nothing), put, "ok\nsafe 1\n! 5\n")
		checkRunSaid(t, "last", c, strings.Join(lines, "\n")+"\n"+nothing, put, "ok\nsafe 1\n! 5\n")
	}
	// Other bytes that look like nothing are words.
	for _, line := range []string{"\t", "\r", "\x00", "\v", "\u00a0"} {
		checkRunSaid(t, "not a blank", c, line, c, "! 5\n")
		checkRunSaid(t, "not a blank behind a right line", c, "safe"+line+"\nsafe", c, "! 5\nsafe 1\n")
	}
	checkRunSaid(t, "lines that end as elsewhere", c, "safe\r\nsafe\r\n", c, "! 5\n! 5\n")
}

// Texts of just as many bytes and lines as there may be, and of one more.
func TestScriptBounds(t *testing.T) {
	if impl.MaxScript != 3000 || impl.MaxLines != 80 {
		t.Errorf("MaxScript %d, MaxLines %d", impl.MaxScript, impl.MaxLines)
	}
	c := askedCluster()
	long := func(n int, text string) string { return text + strings.Repeat(" ", n-len(text)) }
	texts := map[string]struct{ right, tooMany, said string }{
		"blanks":                      {strings.Repeat(" ", 3000), strings.Repeat(" ", 3001), ""},
		"a word":                      {strings.Repeat("x", 3000), strings.Repeat("x", 3001), "! 5\n"},
		"a right line":                {long(3000, "safe"), long(3001, "safe"), "safe 1\n"},
		"a line feed last":            {long(2999, "safe") + "\n", long(3000, "safe") + "\n", "safe 1\n"},
		"a line feed first":           {"\n" + long(2999, "safe"), "\n" + long(3000, "safe"), "safe 1\n"},
		"bytes above 127":             {strings.Repeat("é", 1500), strings.Repeat("é", 1500) + " ", "! 5\n"},
		"very many":                   {"", strings.Repeat("safe\n", 100000), ""},
		"lines":                       {strings.Repeat("safe\n", 80), strings.Repeat("safe\n", 81), strings.Repeat("safe 1\n", 80)},
		"no line feed last":           {strings.Repeat("safe\n", 79) + "safe", strings.Repeat("safe\n", 80) + "safe", strings.Repeat("safe 1\n", 80)},
		"blanks behind the last one":  {strings.Repeat("safe\n", 79) + " ", strings.Repeat("safe\n", 80) + " ", strings.Repeat("safe 1\n", 79)},
		"line feeds alone":            {strings.Repeat("\n", 80), strings.Repeat("\n", 81), ""},
		"line feeds, and a last line": {strings.Repeat("\n", 79) + "safe", strings.Repeat("\n", 80) + "safe", "safe 1\n"},
		"wrong lines":                 {strings.Repeat("wink\n", 80), strings.Repeat("wink\n", 81), strings.Repeat("! 5\n", 80)},
		"both":                        {long(3000-79, "safe") + strings.Repeat("\n", 79), long(3000, "safe") + strings.Repeat("\n", 81), "safe 1\n"},
		"80 lines of 3000 bytes":      {long(2920, "") + strings.Repeat("\n", 80), long(2921, "") + strings.Repeat("\n", 80), ""},
		"a text that is wrong inside": {strings.Repeat("wink\n", 79) + "\x00", strings.Repeat("wink\n", 80) + "\x00", strings.Repeat("! 5\n", 80)},
		"more lines than read":        {"safe\nsafe", strings.Repeat("\n", 3000), "safe 1\nsafe 1\n"},
		"a code only in what is last": {putFive + "\n" + strings.Repeat("safe\n", 78) + "wink", putFive + "\n" + strings.Repeat("safe\n", 79) + "wink", "ok\n" + strings.Repeat("safe 1\n", 78) + "! 5\n"},
	}
	for name, x := range texts {
		t.Run(name, func(t *testing.T) {
			checkRunSaid(t, "right", c, x.right, c, x.said)
			checkRunCode(t, "too many", c, x.tooMany, impl.ErrMany)
		})
	}
	// A line of StepScript has no such bounds.
	checkStepSaid(t, c, long(5000, "safe"), c, "safe 1")
	checkStepSaid(t, c, strings.Repeat(" ", 100000)+"safe", c, "safe 1")
	checkStepCode(t, c, strings.Repeat("safe ", 1000), impl.ErrText)
	checkStepCode(t, c, strings.Repeat("\n", 81), impl.ErrText)
}

// Each line of 80 is gone through, and none twice.
func TestRunScriptGoesThroughAll(t *testing.T) {
	c := newPair()
	var text, said string
	after := c
	for n := range 20 {
		x := contract(int64(n+1), leg(0, int64(n%6), 0, -1), leg(1, int64(n%6), 0, 1))
		text += putLine(x) + "\ncopy " + fmt.Sprint(2*n) + "\ndrop " + fmt.Sprint(2*n) + "\nwhat " + fmt.Sprint(n+1) + "\n"
		said += "ok\nok\nok\nwhat 0\n"
		after = behind(t, after, putLine(x), "copy "+fmt.Sprint(2*n), "drop "+fmt.Sprint(2*n))
	}
	checkRunSaid(t, "20 contracts", c, text, after, said)
	if len(after.Contracts) != 20 || len(after.Messages) != 40 {
		t.Errorf("%d contracts, %d messages", len(after.Contracts), len(after.Messages))
	}
}

func checkFormat(t *testing.T, what string, c impl.Cluster, lines ...string) {
	t.Helper()
	checkClusterRight(t, what, c)
	want := impl.TextResult{Text: strings.Join(append(lines, ""), "\n")}
	checkText(t, what, impl.FormatCluster(c), want)
	checkText(t, what+", told once more", wantFormatCluster(c), want)
}

func TestFormatCluster(t *testing.T) {
	checkFormat(t, "one shard", impl.NewCluster(ledger(nil), 1).Cluster, "shard 0", "messages 0")
	checkFormat(t, "two shards", newPair(), "shard 0", "has 0 0 9", "shard 1", "messages 0")
	three := impl.NewCluster(ledger(bals(bal(0, 0, 9), bal(5, 2, 1)), nil, bals(bal(3, 1, impl.MaxAmount))), 5).Cluster
	checkFormat(t, "three shards", three, "shard 0", "has 0 0 9", "has 5 2 1", "shard 1", "shard 2", "has 3 1 1000000000000", "messages 0")

	c := askedCluster()
	checkFormat(t, "asked", c, "shard 0", "has 0 0 9", "shard 1", "contract 1 open", "messages 2")
	c = behind(t, c, "give 0")
	checkFormat(t, "held at shard 0", c, "shard 0", "has 0 0 9", "vote 1 1", "held 1", "shard 1", "contract 1 open", "messages 4")
	c = behind(t, c, "give 0", "put 3 0 0 0 -9 0 1 0 9", "give 6")
	checkFormat(t, "held at both, and one is not ready", c, "shard 0", "has 0 0 9", "vote 1 1", "vote 3 2", "held 1", "shard 1", "vote 1 1", "held 1", "contract 1 open", "contract 3 open", "messages 9")
	c = behind(t, c, "drain 30")
	checkFormat(t, "done, and not", c, "shard 0", "has 0 0 4", "vote 1 1", "vote 3 2", "done 1 1", "done 3 2", "shard 1", "has 0 0 5", "vote 1 1", "done 1 1", "contract 1 done", "contract 3 not", "messages 0")
	c = behind(t, c, "put 2 1 0 0 -5 1 1 0 5", "drop 0", "tick 0 2", "tick 1 2")
	checkFormat(t, "one more between them", c, "shard 0", "has 0 0 4", "vote 1 1", "vote 3 2", "done 1 1", "done 3 2", "shard 1", "has 0 0 5", "vote 1 1", "done 1 1", "contract 1 done", "contract 2 open", "contract 3 not", "messages 6")
}

// It is the texts of the shards and the status, whatever the cluster has.
func TestFormatClusterOfAll(t *testing.T) {
	for _, c := range append(scriptClusters(), servedCluster(), crowdedCluster(), postedCluster(), ring()) {
		var text string
		for _, s := range c.Shards {
			text += impl.ShardText(s).Text
		}
		text += impl.StatusText(c).Text
		checkText(t, "of all", impl.FormatCluster(c), impl.TextResult{Text: text})
		checkText(t, "of all, told once more", wantFormatCluster(c), impl.TextResult{Text: text})
	}
}
