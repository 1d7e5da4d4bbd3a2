package tests

import (
	"math"
	"regexp"
	"slices"
	"strconv"
	"strings"
	"testing"

	"loop.example/witan/impl"
)

// oddNumbers are the numbers around each limit of a payment, and the ends of int.
func oddNumbers() []int {
	odd := []int{math.MinInt, math.MinInt + 1, math.MaxInt - 1, math.MaxInt, 1 << 32, 1<<32 + 1}
	for n := -3; n <= 14; n++ {
		odd = append(odd, n)
	}
	return odd
}

func begins(a, b []impl.Item) bool {
	return len(a) <= len(b) && slices.Equal(a, b[:len(a)])
}

func TestLimits(t *testing.T) {
	if impl.NodeMax != 4 || impl.ChainMax != 16 || impl.EpochMax != 30 {
		t.Fatal(impl.NodeMax, impl.ChainMax, impl.EpochMax)
	}
}

func TestPromise1PayBothWays(t *testing.T) {
	if impl.PayOk(impl.Pay{}) {
		t.Fatal("nothing is no payment")
	}
	for _, from := range oddNumbers() {
		for _, to := range oddNumbers() {
			for _, sum := range oddNumbers() {
				p := impl.Pay{From: from, To: to, Sum: sum}
				if !impl.PayOk(p) {
					continue
				}
				if from == to {
					t.Fatal("from and to are one", p)
				}
				if !impl.PayOk(impl.Pay{From: to, To: from, Sum: sum}) {
					t.Fatal("not the other way about", p)
				}
			}
		}
	}
}

func TestPayOkIsJustTheDocuments(t *testing.T) {
	want := okPays()
	for _, from := range oddNumbers() {
		for _, to := range oddNumbers() {
			for _, sum := range oddNumbers() {
				p := impl.Pay{From: from, To: to, Sum: sum}
				if impl.PayOk(p) != slices.Contains(want, p) {
					t.Fatal(p, impl.PayOk(p))
				}
			}
		}
	}
}

func TestPromise2Beginnings(t *testing.T) {
	for _, c := range someChains() {
		for n := range len(c) + 1 {
			if !impl.ChainOk(c[:n]) || !impl.ChainIn(c[:n], c) {
				t.Fatal("beginning", n, c)
			}
		}
		if len(c) == 0 || len(c) == impl.ChainMax {
			continue
		}
		for e := -2; e <= c[len(c)-1].Epoch; e++ {
			if impl.ChainOk(append(slices.Clone(c), item(e, 1, 2, 1))) {
				t.Fatal("an epoch that is no later", e, c)
			}
		}
	}
}

func TestPromise2AnyTwoChangedAbout(t *testing.T) {
	for _, c := range someChains() {
		for i := range c {
			for j := range i {
				d := slices.Clone(c)
				d[i], d[j] = d[j], d[i]
				if impl.ChainOk(d) {
					t.Fatal("epochs go down", d)
				}
				d = slices.Clone(c)
				d[i].Epoch = d[j].Epoch
				if impl.ChainOk(d) {
					t.Fatal("epochs are the same", d)
				}
			}
		}
	}
}

func TestChainOkEdges(t *testing.T) {
	for _, c := range someChains() {
		if !impl.ChainOk(c) {
			t.Fatal("is ok", c)
		}
	}
	for why, c := range wrongChains() {
		if impl.ChainOk(c) {
			t.Error("is not ok:", why)
		}
	}
	for _, e := range []int{math.MinInt, -1, 0, 1, 2, impl.EpochMax - 1, impl.EpochMax, impl.EpochMax + 1, math.MaxInt} {
		if impl.ChainOk([]impl.Item{item(e, 1, 2, 1)}) != (1 <= e && e <= impl.EpochMax) {
			t.Error("epoch", e)
		}
	}
}

// A chain with one payment that is not ok is not, wherever that stands.
func TestChainOkLooksAtEachPayment(t *testing.T) {
	for _, c := range someChains() {
		for i := range c {
			for _, p := range []impl.Pay{{}, {From: 1, To: 1, Sum: 1}, {From: 1, To: 2, Sum: 10}, {From: 4, To: 2, Sum: 1}} {
				d := slices.Clone(c)
				d[i].Pay = p
				if impl.ChainOk(d) {
					t.Fatal(i, p)
				}
			}
		}
	}
}

func TestPromise3In(t *testing.T) {
	chains := smallChains()
	for _, a := range chains {
		if !impl.ChainIn(a, a) || !impl.ChainIn(nil, a) || !impl.ChainIn([]impl.Item{}, a) {
			t.Fatal("in itself, and nothing in all", a)
		}
		for _, b := range chains {
			if impl.ChainIn(a, b) != begins(a, b) {
				t.Fatal(a, b)
			}
			if impl.ChainIn(a, b) && impl.ChainIn(b, a) && !slices.Equal(a, b) {
				t.Fatal("in each other", a, b)
			}
			for _, c := range chains {
				if impl.ChainIn(a, c) && impl.ChainIn(b, c) && !impl.ChainIn(a, b) && !impl.ChainIn(b, a) {
					t.Fatal("two in a third one", a, b, c)
				}
			}
		}
	}
}

// One item that is another one in any of its four numbers ends what both share.
func TestInAndBothLookAtAllOfAnItem(t *testing.T) {
	c := rowOf(5, 4)
	for i := range c {
		for _, other := range []impl.Item{
			{Epoch: c[i].Epoch, Pay: impl.Pay{From: c[i].Pay.To, To: c[i].Pay.From, Sum: c[i].Pay.Sum}},
			{Epoch: c[i].Epoch, Pay: impl.Pay{From: 6 - c[i].Pay.From - c[i].Pay.To, To: c[i].Pay.To, Sum: c[i].Pay.Sum}},
			{Epoch: c[i].Epoch, Pay: impl.Pay{From: c[i].Pay.From, To: 6 - c[i].Pay.From - c[i].Pay.To, Sum: c[i].Pay.Sum}},
			{Epoch: c[i].Epoch, Pay: impl.Pay{From: c[i].Pay.From, To: c[i].Pay.To, Sum: 1 + c[i].Pay.Sum%9}},
		} {
			d := slices.Clone(c)
			d[i] = other
			if impl.ChainIn(c, d) || impl.ChainIn(d, c) {
				t.Fatal(c, d)
			}
			wantSame(t, "both", impl.ChainBoth(c, d), c[:i])
		}
	}
	wantSame(t, "another epoch", impl.ChainBoth([]impl.Item{item(1, 1, 2, 1)}, []impl.Item{item(2, 1, 2, 1)}), nil)
}

func TestInAndBothOfWrongChains(t *testing.T) {
	good := rowOf(1, 3)
	for why, c := range wrongChains() {
		if impl.ChainIn(c, c) || impl.ChainIn(nil, c) || impl.ChainIn(c, good) || impl.ChainIn(good, c) {
			t.Error("in:", why)
		}
		for _, n := range []int{0, min(1, len(c)), len(c) - 1} {
			if impl.ChainIn(c[:n], c) || impl.ChainIn(c, c[:n]) {
				t.Error("in, beginnings:", why)
			}
			if len(impl.ChainBoth(c[:n], c)) != 0 || len(impl.ChainBoth(c, c[:n])) != 0 {
				t.Error("both, beginnings:", why)
			}
		}
		if len(impl.ChainBoth(c, c)) != 0 || len(impl.ChainBoth(c, good)) != 0 || len(impl.ChainBoth(good, c)) != 0 {
			t.Error("both:", why)
		}
	}
}

func checkBoth(t *testing.T, a, b []impl.Item) {
	t.Helper()
	both := impl.ChainBoth(a, b)
	if !impl.ChainIn(both, a) || !impl.ChainIn(both, b) {
		t.Fatal("in both", a, b, both)
	}
	wantSame(t, "which is first", impl.ChainBoth(b, a), both)
	n := len(both)
	if n < len(a) && n < len(b) && a[n] == b[n] {
		t.Fatal("both go on alike", a, b, both)
	}
	if slices.Equal(both, a) != impl.ChainIn(a, b) || slices.Equal(both, b) != impl.ChainIn(b, a) {
		t.Fatal("one of both just if that is in the other one", a, b, both)
	}
}

func TestPromise4Both(t *testing.T) {
	chains := smallChains()
	for _, a := range chains {
		for _, b := range chains {
			checkBoth(t, a, b)
		}
	}
	r := newDraw()
	for range 2000 {
		a := drawChain(r)
		checkBoth(t, a, drawBehind(r, a))
	}
	full := rowOf(1, impl.ChainMax)
	wantSame(t, "a full one with itself", impl.ChainBoth(full, slices.Clone(full)), full)
}

func TestPromise5ReadBack(t *testing.T) {
	for _, c := range append(someChains(), smallChains()...) {
		text := impl.ChainText(c)
		if strings.Count(text, "\n") != len(c) || len(c) > 0 && !strings.HasSuffix(text, "\n") {
			t.Fatal("a line of each item", c, text)
		}
		d, ok := impl.ChainRead(text)
		if !ok {
			t.Fatal("is not read", text)
		}
		wantSame(t, text, d, c)
	}
}

func TestChainTextIsTheDocuments(t *testing.T) {
	for _, c := range someChains() {
		want := ""
		for _, i := range c {
			want += strconv.Itoa(i.Epoch) + ":" + strconv.Itoa(100*i.Pay.From+10*i.Pay.To+i.Pay.Sum) + "\n"
		}
		if got := impl.ChainText(c); got != want {
			t.Fatalf("got %q, want %q", got, want)
		}
	}
	for why, c := range wrongChains() {
		if impl.ChainText(c) != "" {
			t.Error("of no chain:", why)
		}
	}
}

var chainLines = regexp.MustCompile(`\A(?:(?:[1-9]|[12][0-9]|30):(?:12|13|21|23|31|32)[1-9]\n){0,16}\z`)

// textOk says by another way than the program's whether a text is one of an ok chain.
func textOk(text string) bool {
	if !chainLines.MatchString(text) {
		return false
	}
	last := 0
	for line := range strings.Lines(text) {
		epoch, _ := strconv.Atoi(line[:strings.Index(line, ":")])
		if epoch <= last {
			return false
		}
		last = epoch
	}
	return true
}

func checkRead(t *testing.T, text string) {
	t.Helper()
	c, ok := impl.ChainRead(text)
	if ok != textOk(text) {
		t.Fatalf("%q: %v", text, ok)
	}
	if ok && (!impl.ChainOk(c) || impl.ChainText(c) != text) {
		t.Fatalf("%q: not its own text: %v", text, c)
	}
	if !ok && len(c) != 0 {
		t.Fatalf("%q: something beside false: %v", text, c)
	}
}

func TestPromise6OneWay(t *testing.T) {
	const others = "0123456789:\n\r \t-+,x\x00\xff"
	r := newDraw()
	for range 20000 {
		bytes := []byte(impl.ChainText(drawChainOf(r, r.IntN(4))))
		for range 1 + r.IntN(3) {
			at := r.IntN(len(bytes) + 1)
			other := others[r.IntN(len(others))]
			switch {
			case at == len(bytes) || r.IntN(3) == 0:
				bytes = slices.Insert(bytes, at, other)
			case r.IntN(2) == 0:
				bytes[at] = other
			default:
				bytes = slices.Delete(bytes, at, at+1)
			}
		}
		checkRead(t, string(bytes))
	}
}

func TestPromise6AnyByteElsewhere(t *testing.T) {
	for _, text := range []string{"", "1:121\n", "9:319\n30:231\n", "1:121\n3:232\n12:319\n"} {
		for at := range len(text) + 1 {
			for b := range 256 {
				checkRead(t, text[:at]+string([]byte{byte(b)})+text[at:])
				if at < len(text) {
					checkRead(t, text[:at]+string([]byte{byte(b)})+text[at+1:])
				}
			}
			if at < len(text) {
				checkRead(t, text[:at]+text[at+1:])
				checkRead(t, text[:at])
				checkRead(t, text[at:])
			}
		}
	}
}

func TestReadOfAllShortLines(t *testing.T) {
	for epoch := range 110 {
		for figures := range 1000 {
			tail := strconv.Itoa(1000 + figures)[1:]
			checkRead(t, strconv.Itoa(epoch)+":"+tail+"\n")
			checkRead(t, "0"+strconv.Itoa(epoch)+":"+tail+"\n")
		}
	}
}

func TestReadOfTextsThatAreNone(t *testing.T) {
	for _, text := range []string{
		"1:121", "1:121\n3:232", "\n", "\n1:121\n", "1:121\n\n", "1:121\n\n3:232\n", "1:121\r\n", " 1:121\n", "1:121 \n", "1 :121\n",
		"01:121\n", "001:121\n", "1:0121\n", "1:1210\n", "1:12\n", "1:\n", ":121\n", ":\n", ":", "1121\n", "1::121\n", "1:1:21\n", "1:121:\n",
		"+1:121\n", "-1:121\n", "1:+21\n", "1:-21\n", "1:1-1\n", "0:121\n", "31:121\n", "100:121\n", "130:121\n", "4294967297:121\n", "18446744073709551617:121\n",
		"1:111\n", "1:221\n", "1:331\n", "1:120\n", "1:021\n", "1:101\n", "1:141\n", "1:421\n", "1:12a\n", "a:121\n", "1;121\n", "1:1 2 1\n", "1:1,2,1\n",
		"2:121\n2:121\n", "3:121\n2:121\n", "1:121\n3:121\n2:121\n", "1:121,2:121\n", "1:121\x00\n", "\x001:121\n", "\xef\xbb\xbf1:121\n",
		"\xff:121\n", "1:121\xff", "١:121\n", "1:1２1\n", "0x1:121\n", "1e0:121\n", "1_0:121\n", "1.0:121\n",
	} {
		if c, ok := impl.ChainRead(text); ok || len(c) != 0 {
			t.Errorf("%q: %v %v", text, c, ok)
		}
	}
}

func TestReadOfLongTexts(t *testing.T) {
	longest := impl.ChainText(rowOf(impl.EpochMax-impl.ChainMax+1, impl.ChainMax))
	if c, ok := impl.ChainRead(longest); !ok || len(c) != impl.ChainMax || len(longest) != 112 {
		t.Fatal("the longest text of a chain", len(longest), c, ok)
	}
	oneMore := ""
	for e := 1; e <= impl.ChainMax+1; e++ {
		oneMore += strconv.Itoa(e) + ":121\n"
		checkRead(t, oneMore)
	}
	for _, size := range []int{113, 129, 130, 131, 132, 200, 1 << 16} {
		fill := size - len(longest)
		for _, with := range []string{"0", "\n", " ", "\x00", "1"} {
			checkRead(t, longest+strings.Repeat(with, fill))
			checkRead(t, strings.Repeat(with, fill)+longest)
		}
		checkRead(t, strings.Repeat("1:121\n", size)[:size])
		checkRead(t, "1:121\n"+strings.Repeat("x", size-7)+"\n")
		checkRead(t, strings.Repeat("0", size-6)+"1:121\n")
	}
	if c, ok := impl.ChainRead(""); !ok || len(c) != 0 {
		t.Fatal("the empty chain's text", c, ok)
	}
}

func TestPromise7TextsTellChains(t *testing.T) {
	chains := append(smallChains(), rowOf(1, 1), rowOf(1, 12), rowOf(10, 2), rowOf(11, 3), []impl.Item{item(1, 1, 2, 1), item(12, 1, 2, 1)})
	r := newDraw()
	for range 40 {
		c := drawChain(r)
		chains = append(chains, c, drawBehind(r, c))
	}
	for _, a := range chains {
		for _, b := range chains {
			one, other := impl.ChainText(a), impl.ChainText(b)
			if (one == other) != slices.Equal(a, b) {
				t.Fatal("the same text", a, b)
			}
			if impl.ChainIn(a, b) != strings.HasPrefix(other, one) {
				t.Fatal("begins the text", a, b)
			}
		}
	}
}

func TestPromise8OtherSumsAndOthers(t *testing.T) {
	for _, p := range okPays() {
		for _, n := range oddNumbers() {
			among := 1 <= n && n <= 3
			if impl.PayOk(impl.Pay{From: p.From, To: p.To, Sum: n}) != (1 <= n && n <= 9) {
				t.Fatal("sum", n, p)
			}
			if impl.PayOk(impl.Pay{From: n, To: p.To, Sum: p.Sum}) != (among && n != p.To) {
				t.Fatal("from", n, p)
			}
			if impl.PayOk(impl.Pay{From: p.From, To: n, Sum: p.Sum}) != (among && n != p.From) {
				t.Fatal("to", n, p)
			}
		}
	}
}

func TestPromise9LaterItem(t *testing.T) {
	for _, c := range someChains() {
		last := 0
		if len(c) > 0 {
			last = c[len(c)-1].Epoch
		}
		for e := last + 1; e <= impl.EpochMax+1; e++ {
			d := append(slices.Clone(c), item(e, 3, 1, 9))
			ok := len(c) < impl.ChainMax && e <= impl.EpochMax
			if impl.ChainOk(d) != ok || impl.ChainIn(c, d) != ok || impl.ChainIn(d, c) {
				t.Fatal(e, c)
			}
		}
	}
}

func TestPromise10ThreeChains(t *testing.T) {
	check := func(a, b, c []impl.Item) {
		t.Helper()
		want := impl.ChainBoth(impl.ChainBoth(a, b), c)
		wantSame(t, "b, c, a", impl.ChainBoth(impl.ChainBoth(b, c), a), want)
		wantSame(t, "a, c, b", impl.ChainBoth(impl.ChainBoth(a, c), b), want)
		wantSame(t, "a, b and c", impl.ChainBoth(a, impl.ChainBoth(b, c)), want)
	}
	chains := smallChains()
	for _, a := range chains {
		for _, b := range chains {
			for _, c := range chains {
				check(a, b, c)
			}
		}
	}
	r := newDraw()
	for range 2000 {
		a := drawChain(r)
		b := drawBehind(r, a)
		check(a, b, drawBehind(r, b))
	}
}

func TestPromise11ShorterTexts(t *testing.T) {
	for _, c := range append(someChains(), smallChains()...) {
		if len(c) == 0 {
			continue
		}
		text := impl.ChainText(c)
		cut := text[:len(text)-1]
		if d, ok := impl.ChainRead(cut); ok || len(d) != 0 {
			t.Fatalf("without its last byte: %q", text)
		}
		d, ok := impl.ChainRead(text[:strings.LastIndex(cut, "\n")+1])
		if !ok {
			t.Fatalf("without its last line: %q", text)
		}
		wantSame(t, text, d, c[:len(c)-1])
	}
}

func TestBothIsNewMemory(t *testing.T) {
	for _, a := range someChains() {
		for _, size := range []int{0, len(a) / 2, len(a)} {
			one, oneAll := guarded(a)
			other, otherAll := guarded(a[:size])
			oneWas, otherWas := slices.Clone(oneAll), slices.Clone(otherAll)
			spoil(impl.ChainBoth(one, other))
			spoil(impl.ChainBoth(other, one))
			spoil(impl.ChainBoth(one, one))
			spoil(impl.ChainBoth(one, one[:size]))
			wantSame(t, "the longer one", oneAll, oneWas)
			wantSame(t, "the shorter one", otherAll, otherWas)
		}
	}
}

func TestReadIsNewMemory(t *testing.T) {
	for _, c := range someChains() {
		text := impl.ChainText(c)
		first, _ := impl.ChainRead(text)
		second, _ := impl.ChainRead(text)
		spoil(first)
		wantSame(t, "the second one", second, c)
		third, ok := impl.ChainRead(text)
		if !ok || impl.ChainText(c) != text {
			t.Fatal(text)
		}
		wantSame(t, "the third one", third, c)
	}
}

func TestChainArgumentsStay(t *testing.T) {
	chains := someChains()
	for _, c := range wrongChains() {
		chains = append(chains, c)
	}
	other, otherAll := guarded(rowOf(1, 3))
	otherWas := slices.Clone(otherAll)
	for _, c := range chains {
		arg, all := guarded(c)
		was := slices.Clone(all)
		impl.ChainOk(arg)
		impl.ChainText(arg)
		impl.ChainIn(arg, other)
		impl.ChainIn(other, arg)
		impl.ChainBoth(arg, other)
		impl.ChainBoth(other, arg)
		wantSame(t, "the argument", all, was)
		wantSame(t, "the other argument", otherAll, otherWas)
	}
}

func TestNilIsTheEmptyChain(t *testing.T) {
	for _, c := range [][]impl.Item{nil, {}, rowOf(1, 3)[:0]} {
		if !impl.ChainOk(c) || impl.ChainText(c) != "" || !impl.ChainIn(c, nil) || !impl.ChainIn(nil, c) {
			t.Fatal(c)
		}
		if impl.ChainIn(rowOf(1, 1), c) || len(impl.ChainBoth(c, rowOf(1, 1))) != 0 || len(impl.ChainBoth(c, c)) != 0 {
			t.Fatal(c)
		}
	}
}
