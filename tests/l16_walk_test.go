package tests

import (
	"fmt"
	"strings"
	"testing"

	"loop.example/g00203/impl"
)

// scriptNumber throws a number from 0 to n, now and then another one.
func (d *dice) scriptNumber(n int) int64 {
	if d.below(25) == 0 {
		return []int64{-999999999, -6, -3, -2, -1, 0, 1, 2, 3, 6, 7, 19, 20, 200, 201, 999999999}[d.below(16)]
	}
	return d.below(int64(max(0, n)) + 1)
}

// rightLine throws one that can be read, mostly at places that there are.
func (d *dice) rightLine(c impl.Cluster, w clusterWorld) string {
	x := w.contracts[d.below(int64(len(w.contracts)))]
	known := x.Id
	if n := int64(len(c.Contracts)); n > 0 && d.below(8) > 0 {
		known = c.Contracts[d.below(n)].Id
	}
	if d.below(20) == 0 {
		known = d.scriptNumber(0)
	}
	at := d.scriptNumber(len(c.Messages) - 1)
	switch n := d.below(100); {
	case n < 16:
		return putLine(x)
	case n < 38:
		return fmt.Sprint("give ", at)
	case n < 43:
		return fmt.Sprint("copy ", at)
	case n < 49:
		return fmt.Sprint("drop ", at)
	case n < 56:
		return fmt.Sprint("tick ", d.scriptNumber(1), " ", known)
	case n < 59:
		return fmt.Sprint("crash ", d.scriptNumber(1))
	case n < 64:
		return fmt.Sprint("again ", d.scriptNumber(len(c.Shards)-1))
	case n < 71:
		return fmt.Sprint("drain ", d.scriptNumber(6))
	case n < 81:
		return fmt.Sprint("what ", known)
	case n < 90:
		return fmt.Sprint("has ", d.scriptNumber(len(c.Shards)-1), " ", d.scriptNumber(2), " ", d.scriptNumber(2))
	case n < 96:
		return "safe"
	}
	return fmt.Sprint("put ", d.scriptNumber(5), " ", d.scriptNumber(2), " 0 0 ", d.scriptNumber(3), strings.Repeat(" 1 0 0 -2", int(d.below(3))))
}

// spoiledLine throws one that is near a right one.
func (d *dice) spoiledLine(line string) string {
	at := d.below(int64(len(line)) + 1)
	odd := []string{" ", "  ", "-", "0", "000", "9", "x", "\t", "\r", "\x00", "\xff", "é", "+", "N", "S"}
	piece := odd[d.below(int64(len(odd)))]
	words := strings.Fields(line)
	switch d.below(6) {
	case 0:
		return line[:at] + piece + line[at:]
	case 1:
		return line[:at] + piece + line[min(int(at)+1, len(line)):]
	case 2:
		return line[:at]
	case 3:
		words[d.below(int64(len(words)))] = piece
	case 4:
		words = append(words, fmt.Sprint(d.scriptNumber(3)))
	case 5:
		words = words[:len(words)-1]
	}
	return strings.Join(words, " ")
}

// scriptLine throws one of any kind, without a line feed.
func (d *dice) scriptLine(c impl.Cluster, w clusterWorld) string {
	line := d.rightLine(c, w)
	switch d.below(14) {
	case 0:
		return d.spoiledLine(line)
	case 1:
		return wrongLines()[d.below(int64(len(wrongLines())))]
	case 2:
		return strings.Repeat(" ", int(d.below(4)))
	case 3:
		return strings.Repeat(" ", int(d.below(3))) + strings.ReplaceAll(line, " ", "   ") + " "
	}
	return line
}

// script throws a text of n lines for a cluster, as long as there is room.
// Many of their places are there, as each is thrown for the cluster behind
// those ahead of it.
func (d *dice) script(c impl.Cluster, w clusterWorld, n int) string {
	var text string
	for range n {
		line := d.scriptLine(c, w) + "\n"
		if len(text)+len(line) > impl.MaxScript {
			break
		}
		text += line
		if r := impl.StepScript(c, strings.TrimSuffix(line, "\n")); r.Code == impl.OK {
			c = r.Cluster
		}
	}
	if d.below(3) == 0 {
		return strings.TrimSuffix(text, "\n")
	}
	return text
}

// scriptSeen counts what was said, by the first word and the second one.
type scriptSeen map[string]int

func (s scriptSeen) count(said string) {
	for line := range strings.Lines(said) {
		words := strings.Fields(line)
		switch words[0] {
		case "open", "has":
			s[words[0]+" 1"] += min(1, int(wantNumbers(words[1:])[0]))
		default:
			s[strings.Join(words, " ")]++
		}
		s[words[0]]++
	}
}

func (s scriptSeen) checkAll(t *testing.T, least int, names ...string) {
	t.Helper()
	for _, name := range names {
		if s[name] < least {
			t.Errorf("%s only %d times: %v", name, s[name], s)
		}
	}
}

// Chapter 16 told twice, for texts that are thrown, in clusters that came of
// new ones, in others without a fault, and in such with faults of every kind.
func TestScriptsThatAreThrown(t *testing.T) {
	t.Parallel()
	d := dice(241)
	seen, codes := scriptSeen{}, map[int64]int{}
	for n := range 2400 {
		c, w := d.walkedCluster(80)
		switch n % 6 {
		case 0:
			c, w = d.oddCluster()
		case 1:
			c, w = d.anyCluster()
		case 2, 3:
			w = d.closeWorld(1+int(d.below(5)), true)
			c = w.start
		case 4:
			_, c = d.strangeCluster()
			w.contracts = append(w.contracts, c.Contracts...)
		}
		text := d.script(c, w, int(d.below(24)))
		if d.below(40) == 0 {
			text += strings.Repeat("\n", int(d.below(80)))
		}
		want := wantRunScript(c, text)
		checkScriptResult(t, "RunScript", impl.RunScript(c, text), want)
		checkText(t, "FormatCluster", impl.FormatCluster(c), wantFormatCluster(c))
		if t.Failed() {
			t.Fatalf("%q of %+v", text, c)
		}
		codes[want.Code]++
		seen.count(want.Said)
	}
	seen.checkAll(t, 100, "ok", "open", "open 1", "what 0", "what 1", "what 2", "has", "has 1", "safe 0", "safe 1", "! 2", "! 3", "! 4", "! 5")
	seen.checkAll(t, 20, "! 7")
	for _, code := range []int64{impl.OK, impl.ErrForm, impl.ErrMany, impl.ErrRange, impl.ErrNone} {
		if codes[code] < 10 {
			t.Errorf("codes %v", codes)
		}
	}
}

// Lines one by one, told twice, with a byte 10 in some of them.
func TestLinesThatAreThrown(t *testing.T) {
	t.Parallel()
	d := dice(242)
	codes := map[int64]int{}
	for range 300 {
		c, w := d.oddCluster()
		if d.below(8) == 0 {
			d.spoilCluster(&c)
		}
		for range 20 {
			line := d.scriptLine(c, w)
			if at := d.below(int64(len(line)) + 1); d.below(20) == 0 {
				line = line[:at] + "\n" + line[at:]
			}
			want := wantStepScript(c, line)
			checkScriptResult(t, "StepScript", impl.StepScript(c, line), want)
			if t.Failed() {
				t.Fatalf("%q of %+v", line, c)
			}
			codes[want.Code]++
		}
	}
	for _, code := range []int64{impl.OK, impl.ErrForm, impl.ErrMany, impl.ErrRange, impl.ErrNone, impl.ErrText, impl.ErrTaken} {
		if codes[code] < 10 {
			t.Errorf("codes %v", codes)
		}
	}
}

// Words of legs that are thrown, told twice.
func TestLegsThatAreThrown(t *testing.T) {
	d := dice(243)
	right := 0
	for range 20000 {
		var words []string
		for range d.below(13) {
			word := fmt.Sprint(d.scriptNumber(9))
			if d.below(5) == 0 {
				word = numberWords[d.below(int64(len(numberWords)))].word
			}
			if d.below(60) == 0 {
				word = noNumbers[d.below(int64(len(noNumbers)))]
			}
			words = append(words, word)
		}
		want := wantParseLegs(words)
		checkLegs(t, words, want)
		if t.Failed() {
			t.FailNow()
		}
		if len(want.Legs) > 0 {
			right++
		}
	}
	if right < 2000 {
		t.Errorf("only %d are legs", right)
	}
}

// Every text of a few bytes that lines are made of: told twice.
func TestEveryShortText(t *testing.T) {
	t.Parallel()
	c := impl.NewCluster(ledger(bals(bal(0, 0, 9))), 1).Cluster
	c = impl.SubmitContract(c, contract(1, leg(0, 0, 0, -5), leg(0, 1, 0, 5))).Cluster
	pieces := []string{"\n", " ", "give", "safe", "0", "-", "7"}
	texts := []string{""}
	for range 5 {
		for _, text := range texts[:len(texts):len(texts)] {
			for _, piece := range pieces {
				texts = append(texts, text+piece)
			}
		}
	}
	seen := map[string]int{}
	for _, text := range texts {
		if seen[text]++; seen[text] > 1 {
			continue
		}
		checkScriptResult(t, "RunScript", impl.RunScript(c, text), wantRunScript(c, text))
		checkScriptResult(t, "StepScript", impl.StepScript(c, text), wantStepScript(c, text))
		if t.Failed() {
			t.Fatalf("%q", text)
		}
	}
	if len(seen) < 15000 {
		t.Errorf("only %d texts", len(seen))
	}
}
