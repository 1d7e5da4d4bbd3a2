package tests

import (
	"math"
	"math/rand/v2"
	"slices"
	"strconv"
	"strings"
	"sync"
	"testing"

	"loop.example/witan/impl"
)

// textMax is how many bytes the document lets a text of lines have.
const textMax = 600

// allHold is what is told in the end, if all nodes that are not bad hold the same.
func allHold(bad int, what string) string {
	text := ""
	for _, id := range honestIn(bad) {
		text += strconv.Itoa(id) + " has " + what + "\n"
	}
	return text
}

// nothingFinal is what is told in the end of a world in which nothing is.
func nothingFinal(bad int) string {
	return allHold(bad, "0 9 9 9")
}

func wantLines(t *testing.T, what string, bad int, text, want string) {
	t.Helper()
	if got := impl.LinesRun(bad, text); got != want {
		t.Fatalf("%s: with %d bad, of %q: got %q, want %q", what, bad, text, got, want)
	}
}

// endOf is what is told of the nodes in the end: as many lines as there are nodes that are not bad.
func endOf(bad int, told string) string {
	lines := lineForm.FindAllString(told, -1)
	return strings.Join(lines[max(0, len(lines)-len(honestIn(bad))):], "")
}

// calmLine lets so many epochs go by.
func calmLine(epochs int, p impl.Pay) string {
	return "calm " + strconv.Itoa(epochs) + " " + payWord(p)
}

// repeated are as many of the payment.
func repeated(size int, p impl.Pay) []impl.Pay {
	return slices.Repeat([]impl.Pay{p}, size)
}

// heldOf is what a node holds, if just these payments are final.
func heldOf(pays []impl.Pay) string {
	book := []int{9, 9, 9}
	for _, p := range pays {
		book = paid(book, p)
	}
	return held(len(pays), book)
}

func TestLinesAreTheDocuments(t *testing.T) {
	t.Parallel()
	forAllTexts(t, func(what string, text written) {
		wantLines(t, what, text.bad, text.text, text.want)
	})
}

func TestLinesOfWholePlays(t *testing.T) {
	for n, p := range toldPlays() {
		text := ""
		for _, e := range p.events {
			if line := eventLine(e) + "\n"; len(text)+len(line) <= textMax {
				text += line
			}
		}
		wantLines(t, "play "+strconv.Itoa(n), p.bad, text, linesBy(p.bad, text))
	}
}

func TestDrawnTextsAreWorthIt(t *testing.T) {
	count := map[string]int{}
	forAllTexts(t, func(what string, text written) {
		hold := map[int]bool{}
		for _, n := range honest(text.w) {
			hold[len(finalBy(n.Seen))] = true
		}
		forged := len(badVotes(text.w)) > 0
		for name, is := range map[string]bool{
			"just as many bytes as may be":      len(text.text) == textMax,
			"fewer":                             len(text.text) < textMax,
			"something behind the last newline": !strings.HasSuffix(text.text, "\n"),
			"what":                              strings.Contains(text.want, "what\n"),
			"no what":                           !strings.Contains(text.want, "what\n"),
			"more lines than 30":                len(text.ends) > 30,
			"votes were sent":                   len(text.w.Log) > 12,
			"something is final":                !hold[0],
			"some hold more than others":        len(hold) > 1,
			"forged":                            forged,
			"forged, and something is final":    forged && !hold[0],
			"told more than in the end":         len(text.want) > 120,
		} {
			count[name] += 0
			if is {
				count[name]++
			}
		}
		count["bad "+strconv.Itoa(text.bad)]++
	})
	for name, texts := range count {
		if texts < 10 {
			t.Errorf("%s: %d drawn texts", name, texts)
		}
	}
}

// TestAllWordsThatFitTogether goes through lines of each first word and any of some words behind it, in the first epoch, some being for its item.
func TestAllWordsThatFitTogether(t *testing.T) {
	t.Parallel()
	first := []string{"", "tick", "propose", "bring", "forge", "spread", "calm", "see", "log", "what", "1", "Tick"}
	more := []string{"", "0", "1", "2", "4", "01", "5", "31", "-1", "001", "121", "314", "111", "1:121", "1:232,2:121", "1:12", "tick"}
	bad := 0
	for _, a := range first {
		for _, b := range more {
			for _, c := range more {
				text := linesOf("tick", "propose 1 212", "forge 1:212", a+" "+b+" "+c, "log", "see 2", "spread", "log", "calm 3 314")
				wantLines(t, "words", bad, text, linesBy(bad, text))
				bad = (bad + 1) % 5
			}
		}
	}
}

func TestPromise103ALineOfEachNode(t *testing.T) {
	t.Parallel()
	forAllTexts(t, func(what string, text written) {
		told := lineForm.FindAllString(impl.LinesRun(text.bad, text.text), -1)
		ids := honestIn(text.bad)
		if len(told) < len(ids) {
			t.Fatalf("%s: told %q of %q", what, told, text.text)
		}
		for n, line := range told[len(told)-len(ids):] {
			form := heldForm.FindStringSubmatch(line)
			if form == nil || form[1] != strconv.Itoa(ids[n]) {
				t.Fatalf("%s: told %q of node %d, of %q", what, line, ids[n], text.text)
			}
			if a, b, c := numberBy(form[3]), numberBy(form[4]), numberBy(form[5]); a+b+c != 27 || numberBy(form[2]) > impl.ChainMax {
				t.Fatalf("%s: told %q of node %d, of %q", what, line, ids[n], text.text)
			}
		}
	})
}

// tells is how many lines a line of a text is told by itself.
func tells(line string) int {
	r := readerOf(0, line)
	return strings.Count(r.told, "\n")
}

func TestPromise103NoLineMore(t *testing.T) {
	t.Parallel()
	forAllTexts(t, func(what string, text written) {
		got := impl.LinesRun(text.bad, text.text)
		lines := len(honestIn(text.bad))
		for _, line := range lineForm.FindAllString(text.text, -1) {
			lines += tells(line)
		}
		if strings.Count(got, "\n") != lines || !strings.HasSuffix(got, "\n") {
			t.Fatalf("%s: told %q, want %d lines, of %q", what, got, lines, text.text)
		}
	})
}

func TestPromise103NoSuchWorldOrTooLong(t *testing.T) {
	for _, bad := range []int{-1, impl.NodeMax + 1} {
		wantLines(t, "no such bad node", bad, "see 1\n", "no world\n")
	}
	for bad := 0; bad <= impl.NodeMax; bad++ {
		wantLines(t, "too long", bad, strings.Repeat("log\n", 151), "too long\n")
	}
}

func TestPromise104ThreeOfFour(t *testing.T) {
	for _, p := range okPays() {
		wantLines(t, "four epochs", 0, linesOf(calmLine(4, p)), allHold(0, heldOf(repeated(3, p))))
		wantLines(t, "two and two", 0, linesOf(calmLine(2, p), calmLine(2, p)), allHold(0, heldOf(repeated(3, p))))
		wantLines(t, "two epochs", 0, linesOf(calmLine(2, p)), nothingFinal(0))
		wantLines(t, "three epochs, node 4 bad", 4, linesOf(calmLine(3, p)), allHold(4, heldOf(repeated(2, p))))
	}
	wantLines(t, "as it is written", 0, "calm 4 121\n", "1 has 3 6 12 9\n2 has 3 6 12 9\n3 has 3 6 12 9\n4 has 3 6 12 9\n")
	wantLines(t, "as it is written", 4, "calm 3 235\n", "1 has 2 9 4 14\n2 has 2 9 4 14\n3 has 2 9 4 14\n")
}

func TestPromise104OtherPayments(t *testing.T) {
	pays := drawnPays(12)
	for size := 3; size <= len(pays); size++ {
		text := ""
		for _, p := range pays[:size] {
			text += calmLine(1, p) + "\n"
		}
		wantLines(t, "a payment an epoch", 0, text, allHold(0, heldOf(pays[:size-1])))
	}
}

// forCalmBeginnings goes through lines with which a world without a bad node may begin, and how many epochs it is in then.
func forCalmBeginnings(t *testing.T, check func(what string, text string, epoch int)) {
	t.Helper()
	check("no lines", "", 0)
	forAllTexts(t, func(what string, text written) {
		for _, size := range []int{150, 400} {
			if begun := text.upTo(size); text.bad == 0 {
				check(what, begun, readerOf(0, begun).w.Epoch)
			}
		}
	})
}

func TestPromise105CalmIsInParts(t *testing.T) {
	t.Parallel()
	r := newDraw()
	look := linesOf("log", "see 1", "see 2", "see 3", "see 4")
	forCalmBeginnings(t, func(what, text string, epoch int) {
		p := drawPay(r)
		leader := leads(min(epoch+1, impl.EpochMax))
		parts := linesOf("tick", "spread", "propose "+strconv.Itoa(leader)+" "+payWord(p), "spread")
		want := impl.LinesRun(0, text+calmLine(1, p)+"\n"+look)
		wantLines(t, what, 0, text+parts+look, want)
	})
}

func TestPromise105LogTellsHowManyWereSent(t *testing.T) {
	t.Parallel()
	text, want := "log\n", "0\n"
	for n := 1; n <= impl.ChainMax; n++ {
		text += "calm 1 121\nlog\n"
		want += strconv.Itoa(4*n) + "\n"
	}
	wantLines(t, "calm epochs", 0, text, want+allHold(0, heldOf(repeated(impl.ChainMax-1, pay(1, 2, 1)))))
	forAllTexts(t, func(what string, text written) {
		got := impl.LinesRun(text.bad, text.upTo(textMax-4)+"log\n")
		lines := lineForm.FindAllString(got, -1)
		sent := lines[len(lines)-len(honestIn(text.bad))-1]
		if want := len(readerOf(text.bad, text.upTo(textMax-4)).w.Log); sent != strconv.Itoa(want)+"\n" {
			t.Fatalf("%s: told %q, want %d, of %q", what, sent, want, text.text)
		}
	})
}

// checkAllAlike asks that all nodes that are not bad hold the same in the end, and so much at least.
func checkAllAlike(t *testing.T, what string, bad int, text string, least int) {
	t.Helper()
	ids := honestIn(bad)
	told := lineForm.FindAllString(endOf(bad, impl.LinesRun(bad, text)), -1)
	if len(told) != len(ids) {
		t.Fatalf("%s: told %q of %q", what, told, text)
	}
	for n, line := range told {
		form := heldForm.FindStringSubmatch(line)
		if form == nil || line[1:] != told[0][1:] || form[1] != strconv.Itoa(ids[n]) || numberBy(form[2]) < least {
			t.Fatalf("%s: told %q of %q", what, told, text)
		}
	}
}

// twoForged are lines in which node 1, being bad, is for two chains in the first epoch, and others hear of one, the other, or both.
func twoForged(a, b impl.Pay) []string {
	two := linesOf("tick", "forge 1:"+payWord(a), "forge 1:"+payWord(b))
	texts := []string{two, two + "spread\n", two + "spread\nspread\n"}
	for who := range 27 {
		texts = append(texts, two+linesOf(
			"bring "+strconv.Itoa(who%3)+" 2", "bring "+strconv.Itoa(who/3%3)+" 3", "bring "+strconv.Itoa(who/9)+" 4"))
	}
	return texts
}

func TestPromise106TwoOfTheFirstEpoch(t *testing.T) {
	t.Parallel()
	pays := drawnPays(3)
	for n, a := range pays {
		b := pays[(n+1)%3]
		for _, text := range twoForged(a, b) {
			wantLines(t, "two forged", 1, text, nothingFinal(1))
			wantLines(t, "two forged, and spread", 1, text+"spread\n", nothingFinal(1))
			for _, epochs := range []int{1, 2, 3, 5} {
				checkAllAlike(t, "calm epochs behind two forged", 1, text+linesOf(calmLine(epochs, a)), 0)
			}
			checkAllAlike(t, "more of them", 1, text+linesOf(calmLine(8, b)), 2)
		}
	}
	wantLines(t, "as it is told", 1, linesOf("tick", "forge 1:121", "forge 1:122", "spread", "log"), "5\n"+nothingFinal(1))
}

func TestPromise107NoLineIsWhat(t *testing.T) {
	t.Parallel()
	for _, line := range []string{
		"hello", "ticks", "tic", "Tick", "TICK", "tick1", "tick,", "1tick", "tickspread", "proposes 1 121", "propos 1 121", "Propose 1 121", "bring1 0",
		"brings 0 2", "Bring 0 2", "forged 1:121", "forg 1:121", "forge:1:121", "FORGE 1:121", "spreads", "sprea", "Spread", "calms 3 121", "cal 3 121",
		"Calm 3 121", "calm3 121", "seen 1", "se 1", "See 1", "see1", "logs", "lo", "Log", "log0", "what", "no", "1", "0", "121", "1:121", "-", "*", "#", "//",
		"what tick", "1 tick", ", tick", "see", "see 0", "see 5", "see -1", "see 10", "see 99", "see 001", "see x", "see 1x", "see +1", "see 1,2", "see see",
	} {
		for bad := 0; bad <= impl.NodeMax; bad++ {
			wantLines(t, "what is no line", bad, line+"\n", "what\n"+nothingFinal(bad))
			behind := linesOf("log", "calm 8 121", "see 2", "log")
			wantLines(t, "it changes nothing", bad, line+"\n"+behind, "what\n"+impl.LinesRun(bad, behind))
			want := impl.LinesRun(bad, behind)
			end := endOf(bad, want)
			wantLines(t, "it changes nothing", bad, behind+line+"\n", strings.TrimSuffix(want, end)+"what\n"+end)
		}
	}
}

func TestPromise107OfNoLinesNothingIsFinal(t *testing.T) {
	for bad := 0; bad <= impl.NodeMax; bad++ {
		wantLines(t, "no lines", bad, "", nothingFinal(bad))
	}
}

func TestPromise107NoSuchBadNode(t *testing.T) {
	for _, bad := range []int{-1, impl.NodeMax + 1, -2, -4, 6, 10, 100, 1 << 32, 1<<32 + 1, math.MinInt, math.MaxInt} {
		for _, text := range []string{"", "tick\n", "see 1\n", strings.Repeat("x", textMax), strings.Repeat("x", textMax+1), strings.Repeat("log\n", 1000)} {
			wantLines(t, "no such bad node", bad, text, "no world\n")
		}
	}
}

func TestPromise107HowLongATextIs(t *testing.T) {
	for bad := 0; bad <= impl.NodeMax; bad++ {
		wantLines(t, "one byte", bad, "x", nothingFinal(bad))
		wantLines(t, "one newline", bad, "\n", "what\n"+nothingFinal(bad))
		wantLines(t, "one less", bad, strings.Repeat("x", textMax-1), nothingFinal(bad))
		wantLines(t, "just as long", bad, strings.Repeat("x", textMax), nothingFinal(bad))
		wantLines(t, "just as long, of newlines", bad, strings.Repeat("\n", textMax), strings.Repeat("what\n", textMax)+nothingFinal(bad))
		wantLines(t, "just as long, of one line", bad, strings.Repeat(" ", textMax-4)+"log\n", "0\n"+nothingFinal(bad))
		wantLines(t, "just as long, of lines", bad, strings.Repeat("log\n", 150), strings.Repeat("0\n", 150)+nothingFinal(bad))
		for _, text := range []string{
			strings.Repeat("x", textMax+1), strings.Repeat("\n", textMax+1), strings.Repeat(" ", textMax-3) + "log\n", strings.Repeat("log\n", 150) + "x",
			strings.Repeat("é", textMax/2) + "x", strings.Repeat("log\n", 100000),
		} {
			wantLines(t, "too long", bad, text, "too long\n")
		}
		wantLines(t, "bytes count, not letters", bad, strings.Repeat("é", textMax/2), nothingFinal(bad))
	}
}

func TestPromise108TheSameInTheEnd(t *testing.T) {
	t.Parallel()
	forAllTexts(t, func(what string, text written) {
		begun := text.upTo(textMax - 30)
		want := impl.LinesRun(text.bad, begun)
		end := endOf(text.bad, want)
		rest := strings.TrimSuffix(want, end)
		for _, more := range []string{"see 1\n", "log\n", "what\n", "see 0\nlog\nsee 2\nx\nsee 4\n\n"} {
			got := impl.LinesRun(text.bad, begun+more)
			if endOf(text.bad, got) != end || !strings.HasPrefix(got, rest) {
				t.Fatalf("%s: told %q, behind %q, want %q in the end, and %q ahead, of %q", what, got, more, end, rest, text.text)
			}
		}
	})
}

func TestPromise109NothingIsSent(t *testing.T) {
	r := newDraw()
	for range 200 {
		text, want := "", ""
		for len(text) < textMax-7 {
			line := []string{"tick", "spread", "log"}[r.IntN(3)]
			if line == "log" {
				want += "0\n"
			}
			text += line + "\n"
		}
		bad := r.IntN(impl.NodeMax + 1)
		wantLines(t, "nothing proposed", bad, text, want+nothingFinal(bad))
	}
}

func TestPromise110JustOneOfNine(t *testing.T) {
	t.Parallel()
	for _, way := range [][2]int{{1, 2}, {1, 3}, {2, 1}, {2, 3}, {3, 1}, {3, 2}} {
		book := []int{9, 9, 9}
		book[way[0]-1], book[way[1]-1] = 0, 18
		for epochs := 3; epochs <= impl.EpochMax; epochs++ {
			text := linesOf(calmLine(epochs, pay(way[0], way[1], 9)))
			wantLines(t, "payments of 9", 0, text, allHold(0, held(min(epochs, impl.ChainMax)-1, book)))
		}
	}
}

func TestPromise111TheFirstEpoch(t *testing.T) {
	for _, p := range okPays() {
		one := "propose 1 " + payWord(p)
		for id := 2; id <= impl.NodeMax; id++ {
			other := "propose " + strconv.Itoa(id) + " " + payWord(p)
			told := strconv.Itoa(id)
			wantLines(t, "not the leader", 0, linesOf("tick", other, "log"), "0\n"+nothingFinal(0))
			wantLines(t, "the leader, too", 0, linesOf("tick", other, "log", one, "log", other, "log", one, "log"), "0\n1\n1\n1\n"+nothingFinal(0))
			wantLines(t, "brought to one", 0, linesOf("tick", one, "bring 0 "+told, "log", "bring 0 "+told, "log", "bring 0 1", "log"), "2\n2\n2\n"+nothingFinal(0))
		}
		wantLines(t, "the leader", 0, linesOf("tick", one, "log", one, "log"), "1\n1\n"+nothingFinal(0))
		wantLines(t, "brought to all", 0, linesOf("tick", one, "bring 0 2", "log", "bring 0 3", "log", "bring 0 4", "log"), "2\n3\n4\n"+nothingFinal(0))
		wantLines(t, "ahead of all epochs", 0, linesOf(one, "log", "bring 0 2", "log"), "0\n0\n"+nothingFinal(0))
	}
}

func TestPromise112SilentBadNode(t *testing.T) {
	t.Parallel()
	for bad := 1; bad <= impl.NodeMax; bad++ {
		for n, p := range okPays() {
			checkAllAlike(t, "eight epochs", bad, linesOf(calmLine(8, p)), 2)
			checkAllAlike(t, "eight epochs in parts", bad, linesOf(calmLine(n%8, p), "see 1", calmLine(8-n%8, p)), 2)
		}
		for epochs := 8; epochs <= impl.EpochMax; epochs++ {
			checkAllAlike(t, "more epochs", bad, linesOf(calmLine(epochs, pay(1, 2, 1))), 2)
		}
	}
	wantLines(t, "node 1", 1, "calm 8 121\n", linesBy(1, "calm 8 121\n"))
}

func TestBehindTheLastNewline(t *testing.T) {
	for bad := 0; bad <= impl.NodeMax; bad++ {
		for _, rest := range []string{"tick", "see 1", "log", "hello", "calm 8 121", " ", "x", "spread", "\r", "propose 1 121"} {
			wantLines(t, "behind no newline", bad, rest, nothingFinal(bad))
			wantLines(t, "behind the last one", bad, "log\ntick\n"+rest, "0\n"+nothingFinal(bad))
		}
	}
	wantLines(t, "an event", 0, "tick\npropose 1 121\nlog\npropose 1 121", "1\n"+nothingFinal(0))
	wantLines(t, "calm epochs", 0, "calm 2 121\ncalm 2 121", nothingFinal(0))
}

func TestEmptyLines(t *testing.T) {
	for _, line := range []string{"", " ", "  ", strings.Repeat(" ", 100)} {
		wantLines(t, "alone", 2, line+"\n", "what\n"+nothingFinal(2))
		wantLines(t, "between", 2, "log\n"+line+"\nlog\n", "0\nwhat\n0\n"+nothingFinal(2))
		wantLines(t, "some of them", 2, line+"\n"+line+"\n", "what\nwhat\n"+nothingFinal(2))
	}
}

// wholeLines are lines of each kind, and wholeTold is what they tell with node 4 bad: in the first epoch all four vote,
// in the next two all but the bad one, and in the last one, which it leads, nobody.
var wholeLines = []string{"tick", "propose 1 121", "bring 0 2", "forge 1:121", "log", "spread", "calm 3 232", "see 1", "log"}

const wholeTold = "3\n1 has 2 8 8 11\n10\n1 has 2 8 8 11\n2 has 2 8 8 11\n3 has 2 8 8 11\n"

func TestEachLine(t *testing.T) {
	wantLines(t, "each line", 4, linesOf(wholeLines...), wholeTold)
	wantLines(t, "without a tick", 4, linesOf(wholeLines[1:]...), "1\n1 has 2 9 5 13\n10\n"+allHold(4, "2 9 5 13"))
}

func TestBlanks(t *testing.T) {
	for _, blanks := range []string{" ", "  ", "     "} {
		for n, line := range wholeLines {
			lines := slices.Clone(wholeLines)
			lines[n] = blanks + line
			wantLines(t, "ahead of the first word", 4, linesOf(lines...), wholeTold)
			lines[n] = line + blanks
			wantLines(t, "behind the last word", 4, linesOf(lines...), wholeTold)
			lines[n] = strings.ReplaceAll(line, " ", blanks)
			wantLines(t, "between words", 4, linesOf(lines...), wholeTold)
			lines[n] = blanks + strings.ReplaceAll(line, " ", blanks) + blanks
			wantLines(t, "everywhere", 4, linesOf(lines...), wholeTold)
		}
	}
}

func TestFurtherWords(t *testing.T) {
	for _, more := range []string{"1", "x", "tick", "121", "1:121", ":", "-1", "0 0 0", "see 1", strings.Repeat("x ", 100)} {
		for n, line := range wholeLines {
			lines := slices.Clone(wholeLines)
			lines[n] = line + " " + more
			wantLines(t, "further words", 4, linesOf(lines...), wholeTold)
		}
	}
}

// TestMissingWords holds lines that lack a word against what would be without them.
func TestMissingWords(t *testing.T) {
	for bad := 0; bad <= impl.NodeMax; bad++ {
		for _, line := range []string{
			"propose", "propose 1", "propose 121", "bring", "bring 0", "bring 2", "forge", "calm", "calm 3", "calm 121", "propose  ", "propose 1 ", "bring 0  ",
		} {
			ahead, behind := linesOf("tick", "propose 1 121", "tick"), linesOf("log", "propose 2 232", "bring 0 3", "log", "calm 2 212")
			wantLines(t, "a word is missing", bad, ahead+line+"\n"+behind, impl.LinesRun(bad, ahead+behind))
			wantLines(t, "a word is missing, first", bad, line+"\n"+behind, impl.LinesRun(bad, behind))
		}
	}
}

// numberWords are words, and the numbers that they are; -1, if they are none.
func numberWords() map[string]int {
	words := map[string]int{"00": 0, "01": 1, "02": 2, "03": 3, "04": 4, "05": 5}
	for n := range 100 {
		words[strconv.Itoa(n)] = n
	}
	for _, none := range []string{
		"-1", "-0", "+1", "+", "-", "1-", "1+", "001", "002", "010", "100", "0001", "1x", "x1", "x", "1.", ".1", "1,", "0x1", "1:", ":", "1_", "1e", "\t1", "1\t", "1\r",
		"\x001", "1\x00", "\xff1", "١", "²", "１", "/", "1/", "1;", "99999999999999999999", "4294967297", "18446744073709551617",
	} {
		words[none] = -1
	}
	return words
}

func TestNumbersOfSee(t *testing.T) {
	for word, n := range numberWords() {
		want := "what\n"
		if 1 <= n && n <= impl.NodeMax {
			want = strconv.Itoa(n) + " has 0 9 9 9\n"
		}
		wantLines(t, "see", 3, "see "+word+"\n", want+nothingFinal(3))
	}
}

func TestNumbersOfPropose(t *testing.T) {
	for word, n := range numberWords() {
		for leader := 1; leader <= impl.NodeMax; leader++ {
			want := "0\n"
			if n == leader {
				want = "1\n"
			}
			wantLines(t, "propose", 0, strings.Repeat("tick\n", leader)+linesOf("propose "+word+" 121", "log"), want+nothingFinal(0))
		}
	}
}

func TestNumbersOfBring(t *testing.T) {
	for word, n := range numberWords() {
		sent := func(more bool) string {
			if more {
				return "4\n" + nothingFinal(0)
			}
			return "3\n" + nothingFinal(0)
		}
		ahead := linesOf("tick", "propose 1 121", "bring 0 2", "bring 0 3")
		wantLines(t, "whom it is brought to", 0, ahead+linesOf("bring 0 "+word, "log"), sent(n == 4))
		wantLines(t, "which is brought", 0, ahead+linesOf("bring "+word+" 4", "log"), sent(n == 0))
	}
}

func TestPlacesCountFromNothing(t *testing.T) {
	ahead := linesOf("tick", "forge 1:121", "forge 1:122")
	for place := range 2 {
		text := ahead + linesOf("bring "+strconv.Itoa(place)+" 2", "bring "+strconv.Itoa(place)+" 3", "bring "+strconv.Itoa(place)+" 4", "spread", "calm 2 313", "see 2")
		behind := heldOf([]impl.Pay{pay(1, 2, 1+place), pay(3, 1, 3)})
		wantLines(t, "one of two", 1, text, "2 has "+behind+"\n"+allHold(1, behind))
	}
}

// TestNumbersOfCalm tells by how many votes were sent, and how much is final, how many epochs went by.
func TestNumbersOfCalm(t *testing.T) {
	t.Parallel()
	for word, n := range numberWords() {
		epochs := min(max(n, 0), impl.EpochMax)
		text := linesOf("calm "+word+" 121", "log")
		want := nothingFinal(0)
		if epochs > 2 {
			want = allHold(0, heldOf(repeated(min(epochs, impl.ChainMax)-1, pay(1, 2, 1))))
		}
		wantLines(t, "calm", 0, text, strconv.Itoa(4*min(epochs, impl.ChainMax))+"\n"+want)
	}
}

// TestHowManyEpochsGoBy tells by who may still propose, and by what is voted for, how many epochs went by.
func TestHowManyEpochsGoBy(t *testing.T) {
	t.Parallel()
	for _, epochs := range []int{0, 1, 2, 15, 28, 29, 30, 31, 60, 99} {
		for ticks := range 3 {
			text := strings.Repeat("tick\n", ticks) + linesOf(calmLine(epochs, pay(2, 3, 1)), "log", "forge 30:121", "tick") +
				linesOf("propose 1 121", "propose 2 121", "propose 3 121", "propose 4 121", "spread", "log")
			wantLines(t, "epochs that go by", 3, text, linesBy(3, text))
		}
	}
}

func TestNoCalmEpochs(t *testing.T) {
	for _, line := range []string{
		"calm 0 121", "calm 00 121", "calm -1 121", "calm -3 121", "calm x 121", "calm 003 121", "calm 100 121", "calm 3 111", "calm 3 120", "calm 3 021", "calm 3 141",
		"calm 3 412", "calm 3 12", "calm 3 1211", "calm 3 -12", "calm 3 000", "calm 3 1:121", "calm 121 3", "calm 121", "calm 3", "calm",
	} {
		// Were an epoch gone, node 1 would not lead.
		wantLines(t, "no epoch", 0, linesOf(line, "tick", "propose 1 121", "log", line, "spread", line, "log"), "1\n4\n"+nothingFinal(0))
	}
}

// wrongPayWords are no payments that are ok.
func wrongPayWords() []string {
	words := []string{
		"", "1", "12", "1211", "01211", "0121", "-12", "+12", "1-2", "12-", "12+", "12x", "x21", "1x1", "1.2", "1,2", "1:2", ":12", "12:", "12\t", "\t12", "12\r", "1\x002",
		"12\x00", "12\xff", "a21", "1b1", "12c", "１", "²21", "1²", "1é", "12/", "/21", "1/1", "12;", "0x1", "1e1", "１２１", "121121", "999999999999",
	}
	for from := range 10 {
		for to := range 10 {
			for sum := range 10 {
				if p := pay(from, to, sum); !impl.PayOk(p) {
					words = append(words, payWord(p))
				}
			}
		}
	}
	return words
}

func TestPaymentsThatAreNone(t *testing.T) {
	for _, word := range wrongPayWords() {
		wantLines(t, "propose", 0, linesOf("tick", "propose 1 "+word, "log", "propose 1 121", "log"), "0\n1\n"+nothingFinal(0))
		wantLines(t, "calm", 0, linesOf("calm 4 "+word, "log", "tick", "propose 1 121", "log"), "0\n1\n"+nothingFinal(0))
		wantLines(t, "forge", 2, linesOf("tick", "forge 1:"+word, "log", "forge 1:121,2:"+word, "log"), "0\n0\n"+nothingFinal(2))
		wantLines(t, "forge, ahead", 2, linesOf("forge 1:"+word+",2:121", "forge 1:121,2:"+word+",3:121", "log"), "0\n"+nothingFinal(2))
	}
}

func TestEachPayment(t *testing.T) {
	for _, p := range okPays() {
		word := payWord(p)
		want := heldOf(repeated(2, p))
		wantLines(t, "propose", 0, linesOf("tick", "propose 1 "+word, "spread", "tick", "propose 2 "+word, "spread", "tick", "propose 3 "+word, "spread"), allHold(0, want))
		wantLines(t, "forge", 1, linesOf("tick", "forge 1:"+word, "spread", calmLine(2, p)), allHold(1, want))
	}
}

// wrongChainWords are no chains that are ok, or nothing.
func wrongChainWords() []string {
	return []string{
		"", "1", "121", "1121", "1;121", "1.121", "1:", ":121", ":", "::", "1::121", "1:1:121", "1:121:", ":1:121", "1:12:", "1::12", "1:1:2", "1:121:2:232",
		"1:12", "1:1211", "1:111", "1:120", "1:021", "1:141", "1:412", "1:-12", "1:x21", "0:121", "00:121", "31:121", "99:121", "001:121", "100:121", "-1:121", "+1:121", "x:121",
		"1x:121", "1-:121", "\t1:121", "1:121\t", "1:121\r", "1:121\x00", "\x001:121", "1:121\xff", "１:121", "1：121", ",", ",,", "1:121,", ",1:121", "1:121,,2:232",
		"1:121,2", "1:121,2:", "1:121,:232", "1:121,232", "1,2:232", "1:121,2:2:232", "1:121,2:232,", ",1:121,2:232", "1:121;2:232", "1:121.2:232", "1:121/2:232",
		"2:232,1:121", "1:121,1:121", "1:121,1:232", "2:121,2:232", "1:121,3:232,2:313", "1:121,3:232,3:313", "30:121,31:232", "29:121,30:232,1:313", "1:121,02:232,2:313",
		"1:121,002:232", "0:121,1:232", "-1:121,1:232", chainWord(rowOf(1, impl.ChainMax+1)), chainWord(rowOf(1, impl.ChainMax+4)), "forge", "tick",
		chainWord(rowOf(1, impl.ChainMax)) + ",", "," + chainWord(rowOf(1, impl.ChainMax)),
	}
}

func TestChainsThatAreNone(t *testing.T) {
	for _, word := range wrongChainWords() {
		for bad := 1; bad <= impl.NodeMax; bad++ {
			wantLines(t, "forge", bad, linesOf("forge "+word, "log", "tick", "forge "+word, "log"), "0\n0\n"+nothingFinal(bad))
		}
	}
}

// okChainWords are chains, each once.
func okChainWords() []string {
	return []string{
		"1:121", "2:121", "9:121", "30:121", "30:239", "01:122", "09:122", "1:121,2:232", "01:122,02:232", "1:121,30:232", "1:121,2:232,3:313", "8:121,9:232,10:313", "9:121,10:232",
		"29:121,30:232", chainWord(rowOf(1, impl.ChainMax-1)), chainWord(rowOf(1, impl.ChainMax)), chainWord(rowOf(15, impl.ChainMax)), chainWord(rowAt(1, 3, 4, 9, 17, 30)),
	}
}

func TestForgedByEachOfTheBad(t *testing.T) {
	for bad := 0; bad <= impl.NodeMax; bad++ {
		each := 1
		if bad == 0 {
			each = 0
		}
		text, want, sent := "", "", 0
		for _, word := range okChainWords() {
			alone := strconv.Itoa(each) + "\n" + nothingFinal(bad)
			wantLines(t, "forge", bad, linesOf("forge "+word, "log"), alone)
			wantLines(t, "forge twice", bad, linesOf("forge "+word, "forge "+word, "log"), alone)
			wantLines(t, "forge, and further words", bad, linesOf("forge "+word+" 4:121", "log"), alone)
			if line := linesOf("forge "+word, "log"); len(text+line) <= textMax {
				sent += each
				text, want = text+line, want+strconv.Itoa(sent)+"\n"
			}
		}
		wantLines(t, "forge all", bad, text, want+nothingFinal(bad))
	}
}

func TestForgedOfTheSameNumbers(t *testing.T) {
	wantLines(t, "a zero ahead", 3, linesOf("forge 1:121", "forge 01:121", "log", "forge 01:121,02:232", "forge 1:121,2:232", "log"), "1\n2\n"+nothingFinal(3))
}

func TestForgedIsByTheBadNode(t *testing.T) {
	// Were it by another one, too few would be for the leader's chain, or too many.
	for bad := 1; bad <= impl.NodeMax; bad++ {
		for _, chain := range []string{"1:121", "1:121,2:232"} {
			text := linesOf("tick", "propose 1 121", "forge "+chain, "spread", "log", "tick", "propose 2 232", "forge "+chain, "spread", "log", "calm 6 313")
			wantLines(t, "forged", bad, text, linesBy(bad, text))
		}
	}
	text := linesOf("tick", "propose 1 121", "bring 0 2", "forge 1:121", "log", "tick", "bring 2 2", "bring 1 1", "bring 2 1") +
		linesOf("propose 2 232", "bring 3 1", "forge 1:121,2:232", "log")
	wantLines(t, "the third of three", 4, text, linesBy(4, text))
}

// TestForgedChainOfItems lets a bad leader go on behind a longest sure chain; only if each item is read as it is written, all go with it.
func TestForgedChainOfItems(t *testing.T) {
	ahead := linesOf("tick", "propose 1 121", "spread", "tick", "propose 2 232", "spread", "tick")
	text := ahead + linesOf("forge 1:121,2:232,3:319", "spread", "calm 2 121", "log", "see 3")
	want := heldOf([]impl.Pay{pay(1, 2, 1), pay(2, 3, 2), pay(3, 1, 9), pay(1, 2, 1)})
	wantLines(t, "three items", 3, text, "16\n3 has 0 9 9 9\n"+allHold(3, want))
	for _, word := range []string{"1:121,2:232,3:310", "1:121,2:233,3:319", "1:122,2:232,3:319", "1:121,3:232,3:319", "1:121,2:232,4:319", "1:121,3:319", "3:319", "2:232,3:319"} {
		other := strings.Replace(text, "1:121,2:232,3:319", word, 1)
		wantLines(t, "other ones", 3, other, linesBy(3, other))
		if strings.HasSuffix(impl.LinesRun(3, other), allHold(3, want)) {
			t.Fatalf("of %q as much is final as of the chain that goes on", word)
		}
	}
}

func TestSeeOfEachNode(t *testing.T) {
	for bad := 0; bad <= impl.NodeMax; bad++ {
		ahead := linesOf("calm 9 124")
		end := impl.LinesRun(bad, ahead)
		for id := 1; id <= impl.NodeMax; id++ {
			want := seenOf(readerOf(bad, ahead).w, id)
			if id == bad && want != strconv.Itoa(id)+" has 0 9 9 9\n" {
				t.Fatalf("the bad node has seen something: %q", want)
			}
			wantLines(t, "see", bad, ahead+linesOf("see "+strconv.Itoa(id)), want+end)
		}
		wantLines(t, "see of no node", bad, ahead+linesOf("see 0", "see 5"), "what\nwhat\n"+end)
	}
}

func TestSeeOfNodesThatHoldMoreThanOthers(t *testing.T) {
	ahead := linesOf("calm 2 121", "tick", "propose 3 313", "bring 8 1", "bring 9 2", "bring 8 2", "see 1", "see 2", "see 3")
	told := "1 has 0 9 9 9\n2 has 2 7 11 9\n3 has 0 9 9 9\n"
	wantLines(t, "one holds more", 0, ahead, told+"1 has 0 9 9 9\n2 has 2 7 11 9\n3 has 0 9 9 9\n4 has 0 9 9 9\n")
	more := linesOf("bring 9 3", "see 3", "bring 10 3", "see 3")
	told += "3 has 0 9 9 9\n3 has 2 7 11 9\n"
	wantLines(t, "two do", 0, ahead+more, told+"1 has 0 9 9 9\n2 has 2 7 11 9\n3 has 2 7 11 9\n4 has 0 9 9 9\n")
}

func TestToldInTheOrderOfTheLines(t *testing.T) {
	text := linesOf("log", "see 2", "hello", "calm 3 121", "see 2", "log", "", "see 4", "see 0", "log", "see 1")
	wantLines(t, "in order", 4, text, "0\n2 has 0 9 9 9\nwhat\n2 has 2 7 11 9\n9\nwhat\n4 has 0 9 9 9\nwhat\n9\n1 has 2 7 11 9\n"+allHold(4, "2 7 11 9"))
}

// TestAllBytes puts each byte where it might be taken for another one: what the model says is told, and nothing panics.
func TestAllBytes(t *testing.T) {
	t.Parallel()
	for b := range 256 {
		sign := string([]byte{byte(b)})
		for _, text := range []string{
			sign, sign + "\n", sign + "tick\nlog\n", "tick" + sign + "\npropose 1 121\nlog\n", "ti" + sign + "ck\nlog\n",
			"tick\npropose" + sign + "1 121\nlog\n", "tick\npropose 1" + sign + "121\nlog\n", "tick\npropose 1 121" + sign + "\nlog\n",
			"tick\npropose 1 " + sign + "21\nlog\n", "tick\npropose 1 1" + sign + "1\nlog\n", "tick\npropose 1 12" + sign + "\nlog\n",
			"see " + sign + "\n", "see 0" + sign + "\n", "see " + sign + "1\n", "see" + sign + "1\n", "see 1" + sign + "\n",
			"forge " + sign + ":121\nlog\n", "forge 1" + sign + "121\nlog\n", "forge 1:121" + sign + "2:121\nlog\n", "forge 1:121" + sign + "\nlog\n",
			"calm " + sign + " 121\n", "calm 3" + sign + "121\n", strings.Repeat(sign, textMax), "log" + sign + "log\n", "log\n" + sign, "log" + sign + "\n",
		} {
			wantLines(t, "byte "+strconv.Itoa(b), 1+b%4, text, linesBy(1+b%4, text))
		}
	}
}

func TestTextsOfAnyBytes(t *testing.T) {
	t.Parallel()
	r := rand.New(rand.NewPCG(31, 31))
	signs := "tick see log calm forge spread propose bring 0123456789 ::,, \n\n\n\n\t\r\x00\xff\xc3\xa9"
	for range 2000 {
		text := make([]byte, r.IntN(textMax+3))
		for n := range text {
			text[n] = signs[r.IntN(len(signs))]
			if r.IntN(20) == 0 {
				text[n] = byte(r.IntN(256))
			}
		}
		bad := r.IntN(impl.NodeMax+3) - 1
		wantLines(t, "any bytes", bad, string(text), linesBy(bad, string(text)))
	}
}

// TestLongWork has texts that let as much happen as there may.
func TestLongWork(t *testing.T) {
	t.Parallel()
	made := func(size int) string { return heldOf(repeated(size, pay(1, 2, 1))) }
	for _, line := range []string{"calm 99 121\n", "calm 30 121\n", "calm 30 121\nspread\nspread\n", "tick\ncalm 30 121\n", "forge 30:121\ncalm 30 121\n"} {
		text := strings.Repeat(line, textMax/len(line))
		once := impl.LinesRun(2, line)
		if line == "calm 99 121\n" {
			wantLines(t, "without a bad node", 0, text, allHold(0, made(impl.ChainMax-1)))
			wantLines(t, "once, and often", 2, text, once)
		}
		for bad := 0; bad <= impl.NodeMax; bad++ {
			checkAllAlike(t, "long work", bad, text, 2)
		}
	}
	full := ""
	for n := 0; len(full) < textMax-50; n++ {
		full += "forge " + strconv.Itoa(1+n/9) + ":12" + strconv.Itoa(1+n%9) + "\n"
	}
	for bad := 1; bad <= impl.NodeMax; bad++ {
		text := full + linesOf("calm 30 121", "log")
		wantLines(t, "much forged", bad, text, linesBy(bad, text))
	}
}

func TestLinesAreAlikeAtOnce(t *testing.T) {
	texts := someTexts()[:40]
	var asking sync.WaitGroup
	got := make([]string, 4*len(texts))
	for n := range got {
		asking.Go(func() {
			text := texts[n%len(texts)]
			got[n] = impl.LinesRun(text.bad, text.text)
		})
	}
	asking.Wait()
	for n, told := range got {
		if text := texts[n%len(texts)]; told != text.want {
			t.Fatalf("of %q: got %q, want %q", text.text, told, text.want)
		}
	}
}
