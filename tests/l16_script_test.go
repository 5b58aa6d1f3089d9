package tests

import (
	"fmt"
	"slices"
	"strings"
	"testing"

	"loop.example/g00203/impl"
)

// Each fault of a cluster, beside lines and texts of every kind, and with a
// later fault behind it.
func TestScriptFaults(t *testing.T) {
	for i, f := range clusterFaults {
		c := busyCluster()
		f.spoil(&c)
		checkScriptFaulted(t, f.name, c, f.code)
		if i+1 < len(clusterFaults) {
			later := clusterFaults[len(clusterFaults)-1]
			later.spoil(&c)
			checkScriptFaulted(t, f.name+", then "+later.name, c, f.code)
		}
	}
	checkScriptFaulted(t, "the zero value", impl.Cluster{}, impl.ErrMany)
	far := impl.Cluster{Contracts: heldOf(contract(farLow, leg(farHigh, farLow, farHigh, farLow))), Shards: []impl.Shard{{Index: farHigh}}, Acceptors: newAcceptors(1), Leaders: []impl.Leader{{Count: farLow}, {Count: farHigh}}}
	checkScriptFaulted(t, "numbers far out", far, impl.ErrRange)
	for _, n := range []int64{farLow, -1, 401, farHigh} {
		c := freshCluster(3)
		c.Leaders[1].Count = n
		checkScriptFaulted(t, fmt.Sprint("Count ", n), c, impl.ErrRange)
	}
}

// Clusters in which each right line may be asked, and such in which nearly all
// of them have a code.
func scriptClusters() []impl.Cluster {
	asked := impl.SubmitContract(impl.NewCluster(ledger(bals(bal(0, 0, 9)), nil), 3).Cluster, pair(1)).Cluster
	return []impl.Cluster{asked, freshCluster(3), busyCluster(), fullCluster()}
}

// A line with a byte 10 is none, wherever it stands, also where all else in it
// is right, and where there is nothing else.
func TestLinesWithLineFeeds(t *testing.T) {
	for _, c := range scriptClusters() {
		for _, line := range append(rightLines(), "", " ", "wink") {
			for at := range len(line) + 1 {
				checkStepCode(t, c, line[:at]+"\n"+line[at:], impl.ErrText)
			}
			checkStepCode(t, c, line+"\n\n", impl.ErrText)
			checkStepCode(t, c, " \n "+line, impl.ErrText)
		}
	}
}

// Without words nothing changes and nothing is said.
func TestLinesWithoutWords(t *testing.T) {
	for _, c := range scriptClusters() {
		for _, line := range []string{"", " ", "  ", strings.Repeat(" ", 5000)} {
			checkStepSaid(t, c, line, c, "")
		}
	}
}

// Blanks part words, however many there are; nothing else does.
func TestBlanks(t *testing.T) {
	for _, c := range scriptClusters() {
		for _, line := range rightLines() {
			want := impl.StepScript(c, line)
			words := strings.Split(line, " ")
			for _, blanks := range []string{" ", "  ", "       ", strings.Repeat(" ", 300)} {
				told := strings.Join(words, blanks)
				for _, laid := range []string{told, blanks + told, told + blanks, blanks + told + blanks} {
					checkStep(t, c, laid, want)
				}
			}
			for at := 1; at < len(words); at++ {
				checkStep(t, c, strings.Join(words[:at], " ")+"    "+strings.Join(words[at:], " "), want)
			}
			for _, other := range []string{"\t", "\v", "\f", "\r", "\x00", "\x1f", "!", "_", ",", "\u00a0", "\u2003", "\xa0", "\x85"} {
				checkStepCode(t, c, line+other, impl.ErrText)
				checkStepCode(t, c, other+line, impl.ErrText)
				checkStepCode(t, c, line+" "+other, impl.ErrText)
				checkStepCode(t, c, other+" "+line, impl.ErrText)
				if len(words) > 1 {
					checkStepCode(t, c, strings.Join(words, other), impl.ErrText)
				}
			}
		}
		for _, other := range []string{"\t", "\r", "\x00", "\u00a0", "\xff"} {
			checkStepCode(t, c, other, impl.ErrText)
		}
	}
}

func TestWordsThatAreNone(t *testing.T) {
	c := scriptClusters()[0]
	for _, line := range wrongLines() {
		checkStepCode(t, c, line, impl.ErrText)
	}
	for _, line := range rightLines() {
		if r := impl.StepScript(c, line); r.Code != impl.OK {
			t.Errorf("%q: code %d", line, r.Code)
		}
		word, rest, _ := strings.Cut(line, " ")
		others := []string{strings.ToUpper(word), strings.ToUpper(word[:1]) + word[1:], word + word, word + "s", "x" + word, word + "\x00", "\xff" + word, word + "é", word + ".", "'" + word + "'"}
		for at := 1; at < len(word); at++ {
			others = append(others, word[:at], word[at:])
		}
		for _, other := range others {
			checkStepCode(t, c, other+" "+rest, impl.ErrText)
		}
		checkStepCode(t, c, line+" "+word, impl.ErrText)
		if rest != "" {
			checkStepCode(t, c, rest+" "+word, impl.ErrText)
			checkStepCode(t, c, rest, impl.ErrText)
			checkStepCode(t, c, word+rest, impl.ErrText)
			checkStepCode(t, c, line+" x", impl.ErrText)
		}
	}
}

// Each kind of line with each number of numbers: only one is right, and of put
// each that makes legs.
func TestHowManyNumbers(t *testing.T) {
	c := scriptClusters()[0]
	kinds := map[string]int{"give": 1, "copy": 1, "drop": 1, "tick": 2, "crash": 1, "again": 1, "drain": 1, "what": 1, "has": 3, "safe": 0}
	for word, right := range kinds {
		for n := range 12 {
			line := word + strings.Repeat(" 1", n)
			if n != right {
				checkStepCode(t, c, line, impl.ErrText)
				continue
			}
			want := wantStepScript(c, line)
			checkStep(t, c, line, want)
			if want.Code == impl.ErrText {
				t.Errorf("%q", line)
			}
		}
	}
	for n := range 44 {
		code := int64(impl.ErrText)
		switch n {
		case 1, 5, 37, 41:
			// No legs, one, and more than there may be.
			code = impl.ErrMany
		case 9, 13, 17, 21, 25, 29, 33:
			code = impl.ErrTaken
		}
		checkStepCode(t, c, "put"+strings.Repeat(" 1", n), code)
	}
}

// numberWords are words with the number that each of them is.
var numberWords = []struct {
	word string
	want int64
}{
	{"0", 0}, {"5", 5}, {"9", 9}, {"05", 5}, {"00000000", 0}, {"000000000", 0}, {"000000007", 7}, {"100000000", 100000000}, {"123456789", 123456789}, {"999999999", 999999999},
	{"-0", 0}, {"-5", -5}, {"-9", -9}, {"-05", -5}, {"-000000000", 0}, {"-000000007", -7}, {"-100000000", -100000000}, {"-999999999", -999999999},
}

// noNumbers are words that are none.
var noNumbers = []string{
	"-", "--", "--1", "-1-", "1-", "1-1", "+", "+1", "-+1", "+-1", "0000000000", "0000000007", "1000000000", "9999999999", "12345678901234567890", "-0000000000", "-1000000000", "-9999999999",
	"1a", "a1", "1a1", "a", "x", "1.", ".1", "1.0", "1,0", "1_0", "0x1", "0b1", "1e1", "0o7", "N", "-x", "1\t", "\t1", "1\x00", "\x001", "1\r", "1/", "1:", "/1", ":1",
	"\xb1", "1\xb1", "\xff", "1\xff", "\xff1", "é", "1é", "１", "-１", "٣", "²", "½", "−1", "1\u00a0", "\u00a01", "\xe21", "ok", "!",
}

// A number is one at every place of every kind of line, and so is what is
// none.
func TestNumbersOfLines(t *testing.T) {
	if numberForm.MatchString("") {
		t.Error("the empty word")
	}
	for _, word := range noNumbers {
		if numberForm.MatchString(word) {
			t.Errorf("%q is a number, told once more", word)
		}
	}
	for _, c := range scriptClusters()[:2] {
		for _, line := range rightLines() {
			words := strings.Split(line, " ")
			for at := 1; at < len(words); at++ {
				told := slices.Clone(words)
				for _, word := range noNumbers {
					told[at] = word
					checkStepCode(t, c, strings.Join(told, " "), impl.ErrText)
				}
				for _, x := range numberWords {
					told[at] = x.word
					line := strings.Join(told, " ")
					want := wantStepScript(c, line)
					checkStep(t, c, line, want)
					told[at] = fmt.Sprint(x.want)
					checkStep(t, c, strings.Join(told, " "), want)
					if want.Code == impl.ErrText {
						t.Errorf("%q is not read", line)
					}
				}
			}
		}
	}
}

func TestParseLegs(t *testing.T) {
	for _, words := range [][]string{nil, {}, make([]string, 0, 5)} {
		checkLegs(t, words, impl.LegsResult{})
	}
	all := legWords(40)
	for n := range len(all) + 1 {
		want := impl.LegsResult{Code: impl.ErrText}
		if n%4 == 0 {
			want.Code = impl.OK
			for at := range int64(n / 4) {
				want.Legs = append(want.Legs, leg(4*at, 4*at+1, 4*at+2, 4*at+3))
			}
		}
		checkLegs(t, all[:n], want)
	}
	checkLegs(t, []string{"0", "1", "2", "-5", "-3", "-2", "-1", "0"}, impl.LegsResult{Legs: []impl.Leg{leg(0, 1, 2, -5), leg(-3, -2, -1, 0)}})
	checkLegs(t, []string{"-999999999", "999999999", "-0", "000000007"}, impl.LegsResult{Legs: []impl.Leg{leg(-999999999, 999999999, 0, 7)}})
	for at := range 8 {
		for _, x := range numberWords {
			words := legWords(2)
			words[at] = x.word
			want := []int64{0, 1, 2, 3, 4, 5, 6, 7}
			want[at] = x.want
			checkLegs(t, words, impl.LegsResult{Legs: []impl.Leg{leg(want[0], want[1], want[2], want[3]), leg(want[4], want[5], want[6], want[7])}})
		}
		for _, word := range append(noNumbers, "", " ", "1 ", " 1", "1 2", "1\n", "\n1", "\n") {
			words := legWords(2)
			words[at] = word
			checkLegs(t, words, impl.LegsResult{Code: impl.ErrText})
			checkLegs(t, words[:at+1], impl.LegsResult{Code: impl.ErrText})
			checkLegs(t, words[at:], impl.LegsResult{Code: impl.ErrText})
		}
	}
	checkLegs(t, []string{"x"}, impl.LegsResult{Code: impl.ErrText})
	checkLegs(t, []string{"0 1 2 3"}, impl.LegsResult{Code: impl.ErrText})
	checkLegs(t, []string{"", "", "", ""}, impl.LegsResult{Code: impl.ErrText})
	checkLegs(t, slices.Repeat([]string{""}, 3), impl.LegsResult{Code: impl.ErrText})
}

// More legs than a contract has, and such as no contract has, are legs.
func TestParseLegsAsksForNumbersAlone(t *testing.T) {
	for _, n := range []int{0, 1, 7, 8, 9, 20, 1000} {
		words := slices.Repeat([]string{"7", "-1", "99", "0"}, n)
		checkLegs(t, words, impl.LegsResult{Legs: slices.Repeat([]impl.Leg{leg(7, -1, 99, 0)}, n)})
		checkLegs(t, append(words, "0"), impl.LegsResult{Code: impl.ErrText})
		checkLegs(t, append(slices.Clone(words), "0", "0", "0", "x"), impl.LegsResult{Code: impl.ErrText})
	}
}
