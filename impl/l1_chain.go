package impl

import (
	"errors"
	"strconv"
	"strings"
)

// Limits: how many keep the book, how long chains are, and how many epochs there are.
const (
	NodeMax  = 4
	ChainMax = 16
	EpochMax = 30
)

// Limits that no other layer needs: who pays, how much at once, and how long a text is that is read.
const (
	payerMax     = 3
	sumMax       = 9
	chainTextMax = 130
)

// Pay is a payment: from whom, to whom, and how much.
type Pay struct {
	From int
	To   int
	Sum  int
}

// Item is a payment of an epoch.
type Item struct {
	Epoch int
	Pay   Pay
}

// chainItem is all that a chain asks of an item: what an item holds is its own affair.
type chainItem interface {
	epoch() int
	okBehind(epoch int) bool
	line() string
}

// paidItem is the one kind of item that there is.
type paidItem Item

func (i paidItem) epoch() int {
	return i.Epoch
}

// okBehind holds the first item against epoch 0, so that no epoch below 1 is let in.
func (i paidItem) okBehind(epoch int) bool {
	return epoch < i.Epoch && i.Epoch <= EpochMax && PayOk(i.Pay)
}

func (i paidItem) line() string {
	figures := strconv.Itoa(i.Pay.From) + strconv.Itoa(i.Pay.To) + strconv.Itoa(i.Pay.Sum)
	return strconv.Itoa(i.Epoch) + ":" + figures + "\n"
}

// asked is an item as a chain asks it.
func asked(i Item) chainItem {
	return paidItem(i)
}

// chainFault is why a text is none of a chain: which of its lines, from 1 on, or 0 for all of it.
type chainFault struct {
	line int
}

func (f chainFault) Error() string {
	if f.line == 0 {
		return "the text is too long for a chain"
	}
	return "line " + strconv.Itoa(f.line) + " is not the next one of a chain"
}

// PayOk says whether a payment is in form.
func PayOk(p Pay) bool {
	return isPayer(p.From) && isPayer(p.To) && p.From != p.To && 1 <= p.Sum && p.Sum <= sumMax
}

func isPayer(who int) bool {
	return 1 <= who && who <= payerMax
}

// ChainOk says whether a chain is ok.
func ChainOk(c []Item) bool {
	if len(c) > ChainMax {
		return false
	}
	last := 0
	for n := range c {
		i := asked(c[n])
		if !i.okBehind(last) {
			return false
		}
		last = i.epoch()
	}
	return true
}

// ChainIn says whether a chain begins another one.
func ChainIn(a []Item, b []Item) bool {
	return ChainOk(a) && ChainOk(b) && sharedItems(a, b) == len(a)
}

// ChainBoth is how both begin.
func ChainBoth(a []Item, b []Item) []Item {
	if !ChainOk(a) || !ChainOk(b) {
		return nil
	}
	both := make([]Item, sharedItems(a, b))
	copy(both, a)
	return both
}

// sharedItems is with how many items both begin.
func sharedItems(a []Item, b []Item) int {
	n := 0
	for n < len(a) && n < len(b) && a[n] == b[n] {
		n++
	}
	return n
}

// ChainText is the text of a chain.
func ChainText(c []Item) string {
	if !ChainOk(c) {
		return ""
	}
	text := ""
	for n := range c {
		text += asked(c[n]).line()
	}
	return text
}

// ChainRead is the chain of a text.
func ChainRead(text string) ([]Item, bool) {
	c, err := chainOfText(text)
	var fault chainFault
	if errors.As(err, &fault) {
		return nil, false
	}
	return c, true
}

// chainOfText takes a line only if the item that it tells has just that line:
// so no chain has a second text, with zeros ahead or without its last newline.
func chainOfText(text string) ([]Item, error) {
	if len(text) > chainTextMax {
		return nil, chainFault{}
	}
	var c []Item
	for text != "" {
		line, rest := cutLine(text)
		c = append(c, itemOfLine(line))
		if !ChainOk(c) || asked(c[len(c)-1]).line() != line {
			return nil, chainFault{line: len(c)}
		}
		text = rest
	}
	return c, nil
}

// cutLine is the first line of a text, with its newline, if it has one, and what is behind it.
func cutLine(text string) (string, string) {
	end := strings.Index(text, "\n") + 1
	if end == 0 {
		return text, ""
	}
	return text[:end], text[end:]
}

// itemOfLine is the item that a line tells; one that is not ok, if it tells none.
func itemOfLine(line string) Item {
	epoch, pay, _ := strings.Cut(strings.TrimSuffix(line, "\n"), ":")
	return Item{Epoch: numberOf(epoch), Pay: payOf(pay)}
}

// payOf is the payment of three figures; one that is not ok of any other text.
func payOf(text string) Pay {
	if len(text) != 3 {
		return Pay{}
	}
	return Pay{From: numberOf(text[:1]), To: numberOf(text[1:2]), Sum: numberOf(text[2:])}
}

// numberOf is the number of one figure, or two; -1 of any other text.
func numberOf(text string) int {
	if len(text) < 1 || len(text) > 2 {
		return -1
	}
	n := 0
	for i := 0; i < len(text); i++ {
		if text[i] < '0' || text[i] > '9' {
			return -1
		}
		n = 10*n + int(text[i]-'0')
	}
	return n
}
