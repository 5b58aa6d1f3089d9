package tests

import (
	"fmt"
	"regexp"
	"slices"
	"strconv"
	"strings"
	"testing"

	"loop.example/g00203/impl"
)

// putLine is the line that submits a contract.
func putLine(x impl.Contract) string {
	line := fmt.Sprint("put ", x.Id)
	for _, l := range x.Legs {
		line += fmt.Sprint(" ", l.Shard, " ", l.Account, " ", l.Asset, " ", l.Amount)
	}
	return line
}

// legWords are n legs told by numbers that rise, a word each.
func legWords(n int) []string {
	var words []string
	for i := range 4 * n {
		words = append(words, strconv.Itoa(i))
	}
	return words
}

// rightLines are one of each kind, with the least numbers that there may be.
func rightLines() []string {
	return []string{
		"put 1 0 0 0 -5 1 0 0 5", "give 0", "copy 0", "drop 0", "tick 0 1", "crash 0", "again 0", "drain 0", "what 1", "has 0 0 0", "safe",
	}
}

// wrongLines are none of those that there are, as one byte or one word of them
// is too much, too few, or another one.
func wrongLines() []string {
	return []string{
		"wink", "put", "put 1 0", "put x 0 0 0 -5 1 0 0 5", "put 1 0 0 0 -5 1 0 0 x", "give", "give 0 0", "give x", "Give 0", "tick 0", "tick 0 1 2",
		"drain", "drain 0 0", "what", "has 0 0", "has 0 0 0 0", "safe 0", "SAFE", "saf", "0", "-1", "\x00", "safe\t", "\tsafe", "safe\r", "give\v0", "\xff", "é", "s\u0430fe",
	}
}

// The want functions tell chapter 16 once more: a line is known by its form, in
// which N stands for each number.
var numberForm = regexp.MustCompile(`^-?[0-9]{1,9}$`)

var lineForms = []struct {
	form *regexp.Regexp
	step func(c impl.Cluster, n []int64) impl.ScriptResult
}{
	{regexp.MustCompile(`^give N$`), func(c impl.Cluster, n []int64) impl.ScriptResult { return wantOk(wantDeliverMessage(c, n[0])) }},
	{regexp.MustCompile(`^copy N$`), func(c impl.Cluster, n []int64) impl.ScriptResult { return wantOk(wantCopyMessage(c, n[0])) }},
	{regexp.MustCompile(`^drop N$`), func(c impl.Cluster, n []int64) impl.ScriptResult { return wantOk(wantDropMessage(c, n[0])) }},
	{regexp.MustCompile(`^tick N N$`), func(c impl.Cluster, n []int64) impl.ScriptResult { return wantOk(wantTickLeader(c, n[0], n[1])) }},
	{regexp.MustCompile(`^crash N$`), func(c impl.Cluster, n []int64) impl.ScriptResult { return wantOk(wantCrashLeader(c, n[0])) }},
	{regexp.MustCompile(`^again N$`), func(c impl.Cluster, n []int64) impl.ScriptResult { return wantOk(wantResendShard(c, n[0])) }},
	{regexp.MustCompile(`^drain N$`), func(c impl.Cluster, n []int64) impl.ScriptResult {
		r := wantOk(wantDrainCluster(c, n[0]))
		if r.Code == impl.OK {
			r.Said = fmt.Sprint("open ", len(wantOpenOf(r.Cluster).List))
		}
		return r
	}},
	{regexp.MustCompile(`^what N$`), func(c impl.Cluster, n []int64) impl.ScriptResult { return wantTells(c, "what", wantOutcomeAt(c, n[0])) }},
	{regexp.MustCompile(`^has N N N$`), func(c impl.Cluster, n []int64) impl.ScriptResult {
		return wantTells(c, "has", wantHas(c, n[0], n[1], n[2]))
	}},
	{regexp.MustCompile(`^safe$`), func(c impl.Cluster, n []int64) impl.ScriptResult {
		told := impl.IntResult{}
		if wantSafeCluster(c) {
			told.Value = 1
		}
		return wantTells(c, "safe", told)
	}},
	{regexp.MustCompile(`^put N( N N N N)*$`), func(c impl.Cluster, n []int64) impl.ScriptResult {
		x := impl.Contract{Id: n[0]}
		for at := 1; at < len(n); at += 4 {
			x.Legs = append(x.Legs, leg(n[at], n[at+1], n[at+2], n[at+3]))
		}
		return wantOk(wantSubmitContract(c, x))
	}},
}

func wantOk(told impl.ClusterResult) impl.ScriptResult {
	if told.Code != impl.OK {
		return impl.ScriptResult{Code: told.Code}
	}
	return impl.ScriptResult{Cluster: told.Cluster, Said: "ok"}
}

func wantTells(c impl.Cluster, word string, told impl.IntResult) impl.ScriptResult {
	if told.Code != impl.OK {
		return impl.ScriptResult{Code: told.Code}
	}
	return impl.ScriptResult{Cluster: cloneCluster(c), Said: fmt.Sprint(word, " ", told.Value)}
}

// wantHas is asked of a cluster without a fault.
func wantHas(c impl.Cluster, shard, account, asset int64) impl.IntResult {
	if !wantPlace(c, "shard", shard) || account < 0 || account > 5 || asset < 0 || asset > 2 {
		return impl.IntResult{Code: impl.ErrRange}
	}
	return impl.IntResult{Value: hasHere(c.Shards[shard], account, asset)}
}

// wantWords goes byte by byte, whatever is behind one another of a rune.
func wantWords(line string) []string {
	var words []string
	var word []byte
	for at := range len(line) + 1 {
		if at < len(line) && line[at] != 32 {
			word = append(word, line[at])
			continue
		}
		if len(word) > 0 {
			words = append(words, string(word))
		}
		word = nil
	}
	return words
}

// wantForm tells each word that is a number by N, and no other one.
func wantForm(words []string) string {
	forms := slices.Clone(words)
	for i, word := range words {
		if numberForm.MatchString(word) {
			forms[i] = "N"
		} else if word == "N" {
			forms[i] = "?"
		}
	}
	return strings.Join(forms, " ")
}

func wantNumbers(words []string) []int64 {
	var list []int64
	for _, word := range words {
		n, _ := strconv.ParseInt(word, 10, 64)
		list = append(list, n)
	}
	return list
}

func wantStepScript(c impl.Cluster, line string) impl.ScriptResult {
	if code := wantClusterFault(c); code != impl.OK {
		return impl.ScriptResult{Code: code}
	}
	words := wantWords(line)
	if len(words) == 0 {
		return impl.ScriptResult{Cluster: cloneCluster(c)}
	}
	for _, l := range lineForms {
		if l.form.MatchString(wantForm(words)) {
			return l.step(c, wantNumbers(words[1:]))
		}
	}
	return impl.ScriptResult{Code: impl.ErrText}
}

func wantRunScript(c impl.Cluster, text string) impl.ScriptResult {
	lines := strings.SplitAfter(text, "\n")
	if lines[len(lines)-1] == "" {
		lines = lines[:len(lines)-1]
	}
	code := wantClusterFault(c)
	if code == impl.OK && (len(text) > 3000 || len(lines) > 80) {
		code = impl.ErrMany
	}
	if code != impl.OK {
		return impl.ScriptResult{Code: code}
	}
	told := impl.ScriptResult{Cluster: cloneCluster(c)}
	for _, line := range lines {
		r := wantStepScript(told.Cluster, strings.TrimRight(line, "\n"))
		switch {
		case r.Code != impl.OK:
			told.Said += fmt.Sprintln("!", r.Code)
			continue
		case r.Said != "":
			told.Said += fmt.Sprintln(r.Said)
		}
		told.Cluster = r.Cluster
	}
	return told
}

func wantFormatCluster(c impl.Cluster) impl.TextResult {
	if code := wantClusterFault(c); code != impl.OK {
		return impl.TextResult{Code: code}
	}
	var told impl.TextResult
	for _, s := range c.Shards {
		told.Text += wantShardText(s).Text
	}
	told.Text += wantStatusText(c).Text
	return told
}

func wantParseLegs(words []string) impl.LegsResult {
	var told impl.LegsResult
	for at := 0; at < len(words); at += 4 {
		if at+4 > len(words) || wantForm(words[at:at+4]) != "N N N N" {
			return impl.LegsResult{Code: impl.ErrText}
		}
		n := wantNumbers(words[at : at+4])
		told.Legs = append(told.Legs, leg(n[0], n[1], n[2], n[3]))
	}
	return told
}

func checkScriptResult(t *testing.T, what string, got, want impl.ScriptResult) {
	t.Helper()
	if got.Code != want.Code || got.Said != want.Said || !sameClusters(got.Cluster, want.Cluster) {
		t.Errorf("%s:\ngot  code %d, %q, %.900s\nwant code %d, %q, %.900s", what, got.Code, got.Said, fmt.Sprint(got.Cluster), want.Code, want.Said, fmt.Sprint(want.Cluster))
	}
}

// checkStep holds a line against what is wanted, and against chapter 16 told
// once more.
func checkStep(t *testing.T, c impl.Cluster, line string, want impl.ScriptResult) {
	t.Helper()
	checkScriptResult(t, fmt.Sprintf("%q", line), impl.StepScript(c, line), want)
	checkScriptResult(t, fmt.Sprintf("%q, told once more", line), wantStepScript(c, line), want)
}

func checkStepCode(t *testing.T, c impl.Cluster, line string, code int64) {
	t.Helper()
	checkStep(t, c, line, impl.ScriptResult{Code: code})
}

func checkStepSaid(t *testing.T, c impl.Cluster, line string, after impl.Cluster, said string) {
	t.Helper()
	checkStep(t, c, line, impl.ScriptResult{Cluster: after, Said: said})
}

// checkRun holds a text against what is wanted, and against chapter 16 told
// once more.
func checkRun(t *testing.T, what string, c impl.Cluster, text string, want impl.ScriptResult) {
	t.Helper()
	checkScriptResult(t, what, impl.RunScript(c, text), want)
	checkScriptResult(t, what+", told once more", wantRunScript(c, text), want)
}

func checkRunSaid(t *testing.T, what string, c impl.Cluster, text string, after impl.Cluster, said string) {
	t.Helper()
	checkRun(t, what, c, text, impl.ScriptResult{Cluster: after, Said: said})
}

func checkRunCode(t *testing.T, what string, c impl.Cluster, text string, code int64) {
	t.Helper()
	checkRun(t, what, c, text, impl.ScriptResult{Code: code})
}

func checkLegs(t *testing.T, words []string, want impl.LegsResult) {
	t.Helper()
	for _, got := range []impl.LegsResult{impl.ParseLegs(words), wantParseLegs(words)} {
		if got.Code != want.Code || !slices.Equal(got.Legs, want.Legs) {
			t.Errorf("ParseLegs %q: %+v, want %+v", words, got, want)
		}
	}
}

// checkScriptFaulted holds the functions of chapter 16 that are given a
// cluster against the code of its fault, whatever else they are given.
func checkScriptFaulted(t *testing.T, what string, c impl.Cluster, code int64) {
	t.Helper()
	checkText(t, what+": FormatCluster", impl.FormatCluster(c), impl.TextResult{Code: code})
	checkText(t, what+", told once more", wantFormatCluster(c), impl.TextResult{Code: code})
	texts := slices.Concat(rightLines(), wrongLines(), []string{
		"", " ", "\n", "safe\n", "\nsafe", "safe\nsafe", "wink\n\n", "give 99", "what 99", "has 3 0 0", "drain 201",
		strings.Repeat("x", 3001), strings.Repeat(" ", 3001), strings.Repeat("\n", 81), strings.Repeat("safe\n", 80), strings.Repeat("safe\n", 80) + "safe",
	})
	for _, text := range texts {
		checkStepCode(t, c, text, code)
		checkRunCode(t, what+": RunScript", c, text, code)
	}
}
