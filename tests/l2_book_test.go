package tests

import (
	"math"
	"slices"
	"testing"

	"loop.example/witan/impl"
)

func pay(from, to, sum int) impl.Pay {
	return impl.Pay{From: from, To: to, Sum: sum}
}

// okBooks are all that there are.
func okBooks() [][]int {
	var books [][]int
	for first := range 28 {
		for second := range 28 - first {
			books = append(books, []int{first, second, 27 - first - second})
		}
	}
	return books
}

// wrongBooks are just not ok, each for one reason.
func wrongBooks() map[string][]int {
	return map[string][]int{
		"nil":                     nil,
		"none":                    {},
		"one":                     {27},
		"two":                     {9, 18},
		"four":                    {9, 9, 9, 0},
		"four, the last too much": {9, 9, 9, 9},
		"a first that is nobody":  {0, 9, 9, 9},
		"many":                    make([]int, 100),
		"one less":                {9, 9, 8},
		"one more":                {9, 10, 9},
		"none of all":             {0, 0, 0},
		"the first below 0":       {-1, 14, 14},
		"the second below 0":      {14, -1, 14},
		"the third below 0":       {28, 0, -1},
		"two below 0":             {-1, 29, -1},
		"more than there is":      {28, 0, 0},
		"far more":                {math.MaxInt, 0, 0},
		"far less":                {math.MinInt, 0, 0},
		"wraps round to 27":       {math.MaxInt, math.MaxInt, 29},
		"wraps round to 27, last": {29, math.MaxInt, math.MaxInt},
		"wraps round, 2 of 32":    {1 << 32, 27, 0},
		"wraps round, below 0":    {math.MinInt, math.MinInt, 27},
		"far apart, together 27":  {math.MaxInt, -math.MaxInt, 27},
	}
}

func wrongPays() []impl.Pay {
	wrong := []impl.Pay{{}}
	for _, from := range oddNumbers() {
		wrong = append(wrong, pay(from, from, 1))
		if from < 1 || from > 3 {
			wrong = append(wrong, pay(from, 1, 1), pay(1, from, 1))
		}
		if from < 1 || from > 9 {
			wrong = append(wrong, pay(1, 2, from), pay(3, 2, from))
		}
	}
	return wrong
}

func wantBook(t *testing.T, what string, got, want []int) {
	t.Helper()
	if !slices.Equal(got, want) {
		t.Fatalf("%s: got %v, want %v", what, got, want)
	}
}

// forAllPays goes through each ok book with each ok payment, and says whether that can be made.
func forAllPays(check func(b []int, p impl.Pay, made bool)) {
	for _, b := range okBooks() {
		for _, p := range okPays() {
			check(b, p, b[p.From-1] >= p.Sum)
		}
	}
}

// paid tells by another way than the program's what a book is behind a payment.
func paid(b []int, p impl.Pay) []int {
	has := map[int]int{1: b[0], 2: b[1], 3: b[2]}
	if has[p.From]-p.Sum >= 0 {
		has[p.To] += p.Sum
		has[p.From] -= p.Sum
	}
	return []int{has[1], has[2], has[3]}
}

func bookBehind(c []impl.Item) []int {
	b := []int{9, 9, 9}
	for _, i := range c {
		b = paid(b, i.Pay)
	}
	return b
}

func turned(p impl.Pay) impl.Pay {
	return pay(p.To, p.From, p.Sum)
}

// rowOfPays is a chain of these payments, of the epochs from 1 on.
func rowOfPays(pays ...impl.Pay) []impl.Item {
	var c []impl.Item
	for i, p := range pays {
		c = append(c, impl.Item{Epoch: i + 1, Pay: p})
	}
	return c
}

func TestBookNewIsTheDocuments(t *testing.T) {
	if impl.BookStart != 9 {
		t.Fatal(impl.BookStart)
	}
	wantBook(t, "new", impl.BookNew(), []int{9, 9, 9})
	if !impl.BookOk(impl.BookNew()) {
		t.Fatal("new is ok")
	}
}

func TestPromise12NothingIsLost(t *testing.T) {
	forAllPays(func(b []int, p impl.Pay, made bool) {
		got := impl.BookPay(b, p)
		if !impl.BookOk(got) || len(got) != 3 || got[0]+got[1]+got[2] != 27 || slices.Min(got) < 0 {
			t.Fatal(b, p, got)
		}
	})
}

func TestPromise13JustAsMuch(t *testing.T) {
	forAllPays(func(b []int, p impl.Pay, made bool) {
		got := impl.BookPay(b, p)
		if !made {
			wantBook(t, "not made", got, b)
			return
		}
		third := 6 - p.From - p.To
		if got[p.From-1] != b[p.From-1]-p.Sum || got[p.To-1] != b[p.To-1]+p.Sum || got[third-1] != b[third-1] {
			t.Fatal("made", b, p, got)
		}
	})
}

func TestPayAtItsEdges(t *testing.T) {
	for _, c := range []struct {
		why  string
		book []int
		pay  impl.Pay
		want []int
	}{
		{"just as much", []int{3, 4, 20}, pay(1, 2, 3), []int{0, 7, 20}},
		{"one less than is asked", []int{2, 5, 20}, pay(1, 2, 3), []int{2, 5, 20}},
		{"one more than is asked", []int{4, 3, 20}, pay(1, 2, 3), []int{1, 6, 20}},
		{"just 1", []int{1, 0, 26}, pay(1, 2, 1), []int{0, 1, 26}},
		{"nothing of 1", []int{0, 1, 26}, pay(1, 2, 1), []int{0, 1, 26}},
		{"nothing of 9", []int{18, 0, 9}, pay(2, 3, 9), []int{18, 0, 9}},
		{"just 9", []int{9, 9, 9}, pay(3, 1, 9), []int{18, 9, 0}},
		{"8 of 9", []int{9, 10, 8}, pay(3, 1, 9), []int{9, 10, 8}},
		{"10 of 9", []int{9, 8, 10}, pay(3, 1, 9), []int{18, 8, 1}},
		{"all that there is, 9", []int{0, 27, 0}, pay(2, 3, 9), []int{0, 18, 9}},
		{"all that there is, 1", []int{0, 27, 0}, pay(2, 1, 1), []int{1, 26, 0}},
		{"to one who has all", []int{0, 27, 0}, pay(1, 2, 1), []int{0, 27, 0}},
		{"the last to one who has the rest", []int{9, 18, 0}, pay(1, 2, 9), []int{0, 27, 0}},
	} {
		wantBook(t, c.why, impl.BookPay(c.book, c.pay), c.want)
	}
}

func TestPromise14ToAndFro(t *testing.T) {
	made := 0
	forAllPays(func(b []int, p impl.Pay, can bool) {
		if !can {
			return
		}
		made++
		wantBook(t, "and back", impl.BookPay(impl.BookPay(b, p), turned(p)), b)
	})
	if made == 0 {
		t.Fatal("none was made")
	}
}

func TestPromise15BookOfEachItem(t *testing.T) {
	for _, c := range append(someChains(), smallChains()...) {
		want := impl.BookNew()
		for _, i := range c {
			want = impl.BookPay(want, i.Pay)
		}
		got := impl.BookOf(c)
		wantBook(t, "of each item", got, want)
		wantBook(t, "told otherwise", got, bookBehind(c))
		if !impl.BookOk(got) {
			t.Fatal(c, got)
		}
	}
}

// A payment that cannot be made is passed over; it does not end the chain, and what comes behind it may make up for it.
func TestBookOfGoesOnBehindWhatCannotBe(t *testing.T) {
	c := rowOfPays(pay(1, 2, 9), pay(1, 3, 1), pay(2, 1, 5), pay(1, 3, 5), pay(1, 3, 1), pay(3, 2, 9))
	wants := [][]int{{9, 9, 9}, {0, 18, 9}, {0, 18, 9}, {5, 13, 9}, {0, 13, 14}, {0, 13, 14}, {0, 22, 5}}
	for n, want := range wants {
		wantBook(t, "beginning", impl.BookOf(c[:n]), want)
	}
}

func TestBookOfChainsAtTheirEnds(t *testing.T) {
	wantBook(t, "the empty one", impl.BookOf([]impl.Item{}), []int{9, 9, 9})
	wantBook(t, "nil", impl.BookOf(nil), []int{9, 9, 9})
	var full []impl.Pay
	for range impl.ChainMax {
		full = append(full, pay(1, 2, 1))
	}
	wantBook(t, "more than 1 has", impl.BookOf(rowOfPays(full...)), []int{0, 18, 9})
	full[impl.ChainMax-1] = pay(3, 1, 9)
	wantBook(t, "the last of them counts", impl.BookOf(rowOfPays(full...)), []int{9, 18, 0})
	wantBook(t, "one too many", impl.BookOf(rowOfPays(append(full, pay(1, 2, 1))...)), nil)
}

func TestPromise16ThreeTimesBookStart(t *testing.T) {
	for first := -2; first <= 30; first++ {
		for second := -2; second <= 30; second++ {
			for third := -2; third <= 30; third++ {
				b := []int{first, second, third}
				ok := first >= 0 && second >= 0 && third >= 0 && first+second+third == 3*impl.BookStart
				if impl.BookOk(b) != ok {
					t.Fatal(b, !ok)
				}
			}
		}
	}
	for _, b := range okBooks() {
		for i := range b {
			for _, more := range []int{-27, -9, -1, 1, 9, 27, math.MaxInt - 27, math.MinInt} {
				other := slices.Clone(b)
				other[i] += more
				if impl.BookOk(other) {
					t.Fatal("more, or less", other)
				}
			}
		}
	}
}

func TestWrongBooksAreAnsweredNothing(t *testing.T) {
	for why, b := range wrongBooks() {
		if impl.BookOk(b) {
			t.Error("is not ok:", why)
		}
		for _, p := range append(okPays(), wrongPays()...) {
			if got := impl.BookPay(b, p); len(got) != 0 {
				t.Fatal(why, p, got)
			}
		}
	}
	for _, b := range okBooks() {
		for _, other := range [][]int{b[:2], b[1:], append(slices.Clone(b), 0)} {
			if impl.BookOk(other) || len(impl.BookPay(other, pay(1, 2, 1))) != 0 {
				t.Fatal("not three", other)
			}
		}
	}
}

func TestWrongPaymentsAreAnsweredNothing(t *testing.T) {
	for _, b := range [][]int{{9, 9, 9}, {0, 27, 0}, {27, 0, 0}, {0, 0, 27}, {1, 1, 25}} {
		for _, p := range wrongPays() {
			if got := impl.BookPay(b, p); len(got) != 0 {
				t.Fatal(b, p, got)
			}
		}
	}
}

func TestWrongChainsAreAnsweredNothing(t *testing.T) {
	for why, c := range wrongChains() {
		if got := impl.BookOf(c); len(got) != 0 {
			t.Error(why, got)
		}
	}
	for _, p := range wrongPays() {
		for at := range 3 {
			c := rowOf(1, 3)
			c[at].Pay = p
			if got := impl.BookOf(c); len(got) != 0 {
				t.Fatal(c, got)
			}
		}
	}
}

func TestPromise17InTwoParts(t *testing.T) {
	forAllPays(func(b []int, p impl.Pay, made bool) {
		if !made {
			return
		}
		whole := impl.BookPay(b, p)
		for part := 1; part < p.Sum; part++ {
			one, others := pay(p.From, p.To, part), pay(p.From, p.To, p.Sum-part)
			wantBook(t, "in two parts", impl.BookPay(impl.BookPay(b, one), others), whole)
		}
	})
}

func TestPromise18RoundAboutAllThree(t *testing.T) {
	forAllPays(func(b []int, p impl.Pay, made bool) {
		if !made {
			return
		}
		third := 6 - p.From - p.To
		got := impl.BookPay(b, p)
		got = impl.BookPay(got, pay(p.To, third, p.Sum))
		got = impl.BookPay(got, pay(third, p.From, p.Sum))
		wantBook(t, "round about", got, b)
	})
}

func TestPromise19MoreThanOneHas(t *testing.T) {
	for _, b := range okBooks() {
		for i, has := range b {
			for _, to := range []int{1, 2, 3} {
				if to == i+1 {
					continue
				}
				for sum := has + 1; sum <= 9; sum++ {
					wantBook(t, "more than one has", impl.BookPay(b, pay(i+1, to, sum)), b)
				}
				if 1 <= has && has <= 9 {
					got := impl.BookPay(b, pay(i+1, to, has))
					if len(got) != 3 || got[i] != 0 || got[to-1] != b[to-1]+has {
						t.Fatal("all that one has", b, i+1, to, got)
					}
				}
			}
		}
	}
}

func TestPromise20OnePaymentMore(t *testing.T) {
	for _, c := range someChains() {
		last := 0
		if len(c) > 0 {
			last = c[len(c)-1].Epoch
		}
		if len(c) == impl.ChainMax || last == impl.EpochMax {
			continue
		}
		for _, p := range okPays() {
			more := append(slices.Clone(c), impl.Item{Epoch: last + 1, Pay: p})
			wantBook(t, "one payment more", impl.BookOf(more), impl.BookPay(impl.BookOf(c), p))
		}
	}
}

func TestPromise20ToAndFroInAChain(t *testing.T) {
	r := newDraw()
	for range 500 {
		var pays []impl.Pay
		for len(pays) < impl.ChainMax {
			p := drawPay(r)
			pays = append(pays, p, turned(p))
			wantBook(t, "to and fro", impl.BookOf(rowOfPays(pays...)), impl.BookNew())
		}
	}
	for _, p := range okPays() {
		for _, q := range okPays() {
			if q.From == p.From && p.Sum+q.Sum > 9 {
				continue
			}
			nested := rowOfPays(p, q, turned(q), turned(p))
			wantBook(t, "to and fro, one inside the other", impl.BookOf(nested), impl.BookNew())
		}
	}
}

func TestPromise21EachBeginning(t *testing.T) {
	for _, c := range someChains() {
		for n := range len(c) + 1 {
			if got := impl.BookOf(c[:n]); !impl.BookOk(got) {
				t.Fatal(c[:n], got)
			}
		}
	}
}

// Of BookNew any payment can be made; so none can be only behind another one, which is then all that was.
func TestPromise21NoneCanBeMade(t *testing.T) {
	wantBook(t, "none at all", impl.BookOf(nil), impl.BookNew())
	r := newDraw()
	for _, first := range okPays() {
		if first.Sum != 9 {
			continue
		}
		pays := []impl.Pay{first}
		for len(pays) < impl.ChainMax {
			p := drawPay(r)
			p.From, p.To = first.From, []int{first.To, 6 - first.From - first.To}[r.IntN(2)]
			pays = append(pays, p)
			wantBook(t, "nothing is left to pay", impl.BookOf(rowOfPays(pays...)), impl.BookOf(rowOfPays(first)))
		}
		pays[0] = turned(first)
		for i := range pays[1:] {
			pays[i+1].From, pays[i+1].To = first.To, 6-first.From-first.To
		}
		wantBook(t, "turned about", impl.BookOf(rowOfPays(pays...)), impl.BookOf(rowOfPays(turned(first))))
	}
}

func TestBookNewIsNewMemory(t *testing.T) {
	first, second := impl.BookNew(), impl.BookNew()
	spoilWith(first, -99)
	wantBook(t, "the second one", second, []int{9, 9, 9})
	wantBook(t, "the third one", impl.BookNew(), []int{9, 9, 9})
	wantBook(t, "of no item", impl.BookOf(nil), []int{9, 9, 9})
}

func TestBookPayIsNewMemory(t *testing.T) {
	both := map[bool]int{}
	forAllPays(func(b []int, p impl.Pay, made bool) {
		both[made]++
		book, all := guard(b, 77)
		was := slices.Clone(all)
		first, second := impl.BookPay(book, p), impl.BookPay(book, p)
		spoilWith(first, -99)
		wantBook(t, "the argument", all, was)
		wantBook(t, "the second one", second, paid(b, p))
		spoilWith(book, -77)
		wantBook(t, "the argument is spoilt, the answer is not", second, paid(b, p))
	})
	if both[true] == 0 || both[false] == 0 {
		t.Fatal("made, and not made", both)
	}
}

func TestBookOfIsNewMemory(t *testing.T) {
	for _, c := range someChains() {
		chain, all := guarded(c)
		was := slices.Clone(all)
		first, second := impl.BookOf(chain), impl.BookOf(chain)
		spoilWith(first, -99)
		wantBook(t, "the second one", second, bookBehind(c))
		wantSame(t, "the argument", all, was)
	}
}

func TestBookArgumentsStay(t *testing.T) {
	books := okBooks()
	for _, b := range wrongBooks() {
		books = append(books, b)
	}
	for _, b := range books {
		book, all := guard(b, 77)
		was := slices.Clone(all)
		impl.BookOk(book)
		for _, p := range append(wrongPays(), pay(1, 2, 1), pay(3, 1, 9)) {
			impl.BookPay(book, p)
		}
		wantBook(t, "the book", all, was)
	}
	for _, c := range wrongChains() {
		chain, all := guarded(c)
		was := slices.Clone(all)
		impl.BookOf(chain)
		wantSame(t, "the chain", all, was)
	}
}
