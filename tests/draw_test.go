package tests

import (
	"math/rand/v2"
	"slices"
	"testing"

	"loop.example/witan/impl"
)

// The drawn inputs are the same in each run, so that a failure comes again.
func newDraw() *rand.Rand {
	return rand.New(rand.NewPCG(1, 16))
}

func item(epoch, from, to, sum int) impl.Item {
	return impl.Item{Epoch: epoch, Pay: impl.Pay{From: from, To: to, Sum: sum}}
}

func okPays() []impl.Pay {
	var pays []impl.Pay
	for _, way := range [][2]int{{1, 2}, {1, 3}, {2, 1}, {2, 3}, {3, 1}, {3, 2}} {
		for sum := 1; sum <= 9; sum++ {
			pays = append(pays, impl.Pay{From: way[0], To: way[1], Sum: sum})
		}
	}
	return pays
}

func drawPay(r *rand.Rand) impl.Pay {
	pays := okPays()
	return pays[r.IntN(len(pays))]
}

func drawChainOf(r *rand.Rand, size int) []impl.Item {
	epochs := r.Perm(impl.EpochMax)[:size]
	slices.Sort(epochs)
	c := []impl.Item{}
	for _, e := range epochs {
		c = append(c, impl.Item{Epoch: e + 1, Pay: drawPay(r)})
	}
	return c
}

func drawChain(r *rand.Rand) []impl.Item {
	return drawChainOf(r, r.IntN(impl.ChainMax+1))
}

// drawBehind begins as c does, so that pairs share more than chance would let them.
func drawBehind(r *rand.Rand, c []impl.Item) []impl.Item {
	d := slices.Clone(c[:r.IntN(len(c)+1)])
	last := 0
	if len(d) > 0 {
		last = d[len(d)-1].Epoch
	}
	for len(d) < impl.ChainMax && last < impl.EpochMax && r.IntN(4) > 0 {
		last += 1 + r.IntN(min(3, impl.EpochMax-last))
		d = append(d, impl.Item{Epoch: last, Pay: drawPay(r)})
	}
	return d
}

func rowOf(first, size int) []impl.Item {
	c := []impl.Item{}
	for e := first; e < first+size; e++ {
		c = append(c, item(e, 1+e%3, 1+(e+1)%3, 1+e%9))
	}
	return c
}

// someChains are ok: the edges that the document names, and drawn ones.
func someChains() [][]impl.Item {
	chains := [][]impl.Item{
		nil,
		{},
		{item(1, 1, 2, 1)},
		{item(impl.EpochMax, 3, 2, 9)},
		{item(1, 1, 3, 9), item(impl.EpochMax, 3, 1, 1)},
		rowOf(1, impl.ChainMax),
		rowOf(impl.EpochMax-impl.ChainMax+1, impl.ChainMax),
		rowOf(3, impl.ChainMax-1),
	}
	r := newDraw()
	for range 200 {
		chains = append(chains, drawChain(r))
	}
	return chains
}

// smallChains are all chains of the epochs 1 to 3 with one of two payments each.
func smallChains() [][]impl.Item {
	chains := [][]impl.Item{{}}
	for e := 1; e <= 3; e++ {
		for _, c := range slices.Clone(chains) {
			for sum := 1; sum <= 2; sum++ {
				chains = append(chains, append(slices.Clone(c), item(e, 1, 2, sum)))
			}
		}
	}
	return chains
}

// wrongChains are just not ok, each for one reason.
func wrongChains() map[string][]impl.Item {
	return map[string][]impl.Item{
		"one too many":           rowOf(1, impl.ChainMax+1),
		"far too many":           rowOf(1, 1000),
		"epoch 0":                {item(0, 1, 2, 1)},
		"epoch below 0":          {item(-1, 1, 2, 1)},
		"epoch past the last":    {item(impl.EpochMax+1, 1, 2, 1)},
		"past the last, behind":  {item(impl.EpochMax, 1, 2, 1), item(impl.EpochMax+1, 1, 2, 1)},
		"the greatest number":    {item(1<<63-1, 1, 2, 1)},
		"the least number":       {item(-1<<63, 1, 2, 1)},
		"epochs the same":        {item(2, 1, 2, 1), item(2, 1, 2, 1)},
		"same, other payments":   {item(2, 1, 2, 1), item(2, 2, 1, 3)},
		"epochs go down":         {item(3, 1, 2, 1), item(2, 1, 2, 1)},
		"go down in the end":     {item(3, 1, 2, 1), item(7, 1, 2, 1), item(6, 1, 2, 1)},
		"go down, above first":   {item(1, 1, 2, 1), item(7, 1, 2, 1), item(3, 1, 2, 1), item(9, 1, 2, 1)},
		"epoch 0 behind":         {item(1, 1, 2, 1), item(0, 1, 2, 1)},
		"sum 0":                  {item(1, 1, 2, 0)},
		"sum 10":                 {item(1, 1, 2, 10)},
		"from and to one":        {item(1, 2, 2, 1)},
		"from nobody":            {item(1, 0, 2, 1)},
		"to a fourth":            {item(1, 1, 4, 1)},
		"wrong payment behind":   {item(1, 1, 2, 1), item(2, 1, 1, 1)},
		"wrong payment, first":   {item(1, 1, 1, 1), item(2, 1, 2, 1)},
		"nothing for an item":    {{}},
		"nothing between":        {item(1, 1, 2, 1), {}, item(2, 1, 2, 1)},
		"epochs without payment": {{Epoch: 1}, {Epoch: 2}},
	}
}

// guard is the list with room behind its end, and all of that memory, to see whether it is written into.
func guard[T any](list []T, fill T) ([]T, []T) {
	all := make([]T, 0, len(list)+8)
	all = append(all, list...)
	for len(all) < cap(all) {
		all = append(all, fill)
	}
	return all[:len(list)], all
}

// spoilWith writes over all of a list's memory, its spare room included.
func spoilWith[T any](list []T, fill T) {
	list = list[:cap(list)]
	for i := range list {
		list[i] = fill
	}
}

func guarded(c []impl.Item) ([]impl.Item, []impl.Item) {
	return guard(c, item(77, 7, 7, 77))
}

func spoil(c []impl.Item) {
	spoilWith(c, item(-99, -9, -9, -99))
}

func wantSame(t *testing.T, what string, got, want []impl.Item) {
	t.Helper()
	if !slices.Equal(got, want) {
		t.Fatalf("%s: got %v, want %v", what, got, want)
	}
}
