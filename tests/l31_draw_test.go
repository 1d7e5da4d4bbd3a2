package tests

import (
	"math/rand/v2"
	"regexp"
	"strconv"
	"strings"
	"sync"
	"testing"

	"loop.example/witan/impl"
)

// What lines, words, numbers, payments and items look like, for the model.
var (
	lineForm   = regexp.MustCompile(`[^\n]*\n`)
	wordForm   = regexp.MustCompile(`[^ \n]+`)
	numberForm = regexp.MustCompile(`^[0-9][0-9]?$`)
	payForm    = regexp.MustCompile(`^[0-9][0-9][0-9]$`)
	itemForm   = regexp.MustCompile(`^([^:]*):([^:]*)$`)
	heldForm   = regexp.MustCompile(`^([1-4]) has ([0-9]+) ([0-9]+) ([0-9]+) ([0-9]+)\n$`)
)

func numberBy(word string) int {
	if !numberForm.MatchString(word) {
		return -1
	}
	n, _ := strconv.Atoi(word)
	return n
}

func payBy(word string) impl.Pay {
	if !payForm.MatchString(word) {
		return impl.Pay{}
	}
	return pay(numberBy(word[:1]), numberBy(word[1:2]), numberBy(word[2:]))
}

func chainBy(word string) []impl.Item {
	var c []impl.Item
	for _, part := range strings.Split(word, ",") {
		var i impl.Item
		if form := itemForm.FindStringSubmatch(part); form != nil {
			i = impl.Item{Epoch: numberBy(form[1]), Pay: payBy(form[2])}
		}
		c = append(c, i)
	}
	return c
}

// reader is the model: what lines do and tell, by another way than the program's.
type reader struct {
	w    impl.World
	told string
}

func (r *reader) line(line string) {
	words := append(wordForm.FindAllString(line, -1), "", "", "")
	switch one, two := words[1], words[2]; words[0] {
	case "tick":
		doBy(&r.w, tick())
	case "propose":
		doBy(&r.w, propose(numberBy(one), payBy(two)))
	case "bring":
		doBy(&r.w, bring(numberBy(one), numberBy(two)))
	case "forge":
		doBy(&r.w, forge(vote(r.w.Bad, chainBy(one))))
	case "spread":
		spreadBy(&r.w)
	case "calm":
		if p := payBy(two); impl.PayOk(p) {
			for n := 0; n < 30 && n < numberBy(one); n++ {
				r.w = calmBy(r.w, p)
			}
		}
	case "see":
		r.told += seenOf(r.w, numberBy(one))
	case "log":
		r.told += strconv.Itoa(len(r.w.Log)) + "\n"
	default:
		r.told += "what\n"
	}
}

func seenOf(w impl.World, id int) string {
	if id < 1 || id > 4 {
		return "what\n"
	}
	final := finalBy(w.Nodes[id-1].Seen)
	return strconv.Itoa(id) + " has " + held(len(final), bookBehind(final)) + "\n"
}

// held is what is told of a node behind its number: how much is final, and what each of three has.
func held(size int, book []int) string {
	text := strconv.Itoa(size)
	for _, sum := range book {
		text += " " + strconv.Itoa(sum)
	}
	return text
}

func readerOf(bad int, text string) *reader {
	r := &reader{w: newWorld(bad)}
	for _, line := range lineForm.FindAllString(text, -1) {
		r.line(line)
	}
	return r
}

func (r *reader) end() string {
	text := ""
	for _, id := range honestIn(r.w.Bad) {
		text += seenOf(r.w, id)
	}
	return text
}

func linesBy(bad int, text string) string {
	if bad < 0 || bad > 4 {
		return "no world\n"
	}
	if len(text) > 600 {
		return "too long\n"
	}
	r := readerOf(bad, text)
	return r.told + r.end()
}

// linesOf is a text of these lines.
func linesOf(lines ...string) string {
	return strings.Join(append(lines, ""), "\n")
}

func payWord(p impl.Pay) string {
	return strconv.Itoa(p.From) + strconv.Itoa(p.To) + strconv.Itoa(p.Sum)
}

func chainWord(c []impl.Item) string {
	var parts []string
	for _, i := range c {
		parts = append(parts, strconv.Itoa(i.Epoch)+":"+payWord(i.Pay))
	}
	return strings.Join(parts, ",")
}

// eventLine is the line of an event, without its newline.
func eventLine(e impl.Event) string {
	a, b := strconv.Itoa(e.A), strconv.Itoa(e.B)
	switch e.Kind {
	case impl.EvTick:
		return "tick"
	case impl.EvPropose:
		return "propose " + a + " " + payWord(e.Pay)
	case impl.EvBring:
		return "bring " + a + " " + b
	case impl.EvForge:
		return "forge " + chainWord(e.Vote.Chain)
	}
	return "event " + strconv.Itoa(e.Kind)
}

// oddLines are such as are none, or do nothing.
func oddLines() []string {
	return []string{
		"", " ", "   ", "\t", "\r", "\x00", "hello", "Tick", "TICK", "ticks", "tic", "tick\t", "tick\r", "\ttick", "tick,", "tick\x00", "\xff", "\xfftick",
		"seen 1", "see", "see 0", "see 5", "see 001", "see -1", "see x", "See 1", "logs", "lo", "Log", "log.", "spreads", "spread\xa0", "calm", "calm 3",
		"calm 3 11", "calm x 121", "calm -1 121", "calm 121 3", "calms 3 121", "propose", "propose 1", "propose 1 12", "propose 1 1211", "propose 1 111",
		"propose 121 1", "bring", "bring 0", "bring -1 2", "bring 0 0", "bring 0 5", "forge", "forge 1", "forge :", "forge 1:", "forge 1:121,", "forge ,1:121",
		"forge 1:121,,2:121", "forge 1:1:121", "forge 1::121", "forge 001:121", "forge 2:121,1:121", "forge 1:120", "forge 31:121", "1 tick", "what", "end",
	}
}

// author draws a text, line by line: what comes next hangs on how the world is by then.
type author struct {
	*director
	reader *reader
	calm   int // one of so many lines lets calm epochs go by
	spread int // one of so many lines spreads
	odd    int // one of so many lines is none, or another than it should be
	early  int // all comes in time in so many lines alone; behind them late, or never
}

func authorOf(r *rand.Rand, bad int) *author {
	rare := func() int { return []int{5, 10, 30, 1 << 30}[r.IntN(4)] }
	a := &author{director: directorOf(r, bad), reader: readerOf(bad, ""), calm: rare(), spread: rare(), odd: rare()}
	a.early = []int{6, 12, 1 << 30}[r.IntN(3)]
	a.director.w = a.reader.w
	return a
}

func (a *author) one(of int) bool {
	return a.r.IntN(of) == 0
}

func (a *author) line() string {
	a.early--
	switch {
	case a.early > 0 && a.one(a.calm):
		return "calm " + strconv.Itoa(a.r.IntN(4)) + " " + payWord(drawPay(a.r))
	case a.early > 0 && a.one(a.spread):
		return "spread"
	case a.one(10):
		return "see " + strconv.Itoa(1+a.r.IntN(impl.NodeMax))
	case a.one(15):
		return "log"
	}
	return eventLine(a.next())
}

// twist makes another line of one; often it is none.
func twist(r *rand.Rand, line string) string {
	at := r.IntN(len(line) + 1)
	signs := "0123456789:, \t\r\x00-+xT\xff\xc3\xa9"
	sign := string(signs[r.IntN(len(signs))])
	switch r.IntN(6) {
	case 0:
		return line[:at] + sign + line[at:]
	case 1:
		return line[:at] + sign + line[min(at+1, len(line)):]
	case 2:
		return line[:at] + line[min(at+1, len(line)):]
	case 3:
		return " " + strings.ReplaceAll(line, " ", "   ") + "  "
	case 4:
		return line + " " + []string{"1", "121", "tick", ":"}[r.IntN(4)]
	}
	return oddLines()[r.IntN(len(oddLines()))]
}

// written is a text, what it tells by the model, how the world is then, and where in the text its lines end.
type written struct {
	bad  int
	text string
	want string
	w    impl.World
	ends []int
}

// write has as many lines as there is room for, and behind the last newline what else is left.
func (a *author) write(size int) written {
	text := ""
	ends := []int{0}
	for {
		line := a.line()
		if a.one(a.odd) {
			line = twist(a.r, line)
		}
		if len(text)+len(line)+1 > size {
			break
		}
		text += line + "\n"
		ends = append(ends, len(text))
		a.reader.line(line)
		a.director.w = a.reader.w
	}
	rest := strings.Repeat("tick tick calm 3 121 see 1 what log", 20)
	text += rest[:size-len(text)]
	return written{a.reader.w.Bad, text, a.reader.told + a.reader.end(), a.reader.w, ends}
}

// upTo is the text's lines that end within so many bytes, without what is behind them.
func (t written) upTo(size int) string {
	end := 0
	for _, e := range t.ends {
		if e <= size {
			end = e
		}
	}
	return t.text[:end]
}

// someTexts are drawn, most of just as many bytes as there may be, with each of the nodes bad, and with none.
var someTexts = sync.OnceValue(func() []written {
	texts := make([]written, 250)
	var making sync.WaitGroup
	for n := range texts {
		making.Go(func() {
			r := rand.New(rand.NewPCG(31, uint64(n)))
			size := 600
			if n%5 == n/5%5 {
				size = r.IntN(600)
			}
			texts[n] = authorOf(r, n%5).write(size)
		})
	}
	making.Wait()
	return texts
})

func forAllTexts(t *testing.T, check func(what string, text written)) {
	t.Helper()
	for n, text := range someTexts() {
		check("text "+strconv.Itoa(n), text)
	}
}
