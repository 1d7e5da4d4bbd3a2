package tests

import (
	"math"
	"math/rand/v2"
	"slices"
	"testing"

	"loop.example/witan/impl"
)

// manyBy are those that are enough: each Quorum of nodes, and all.
var manyBy = [][]int{{1, 2, 3}, {1, 2, 4}, {1, 3, 4}, {2, 3, 4}, {1, 2, 3, 4}}

func cert(c []impl.Item, by ...[]int) impl.Cert {
	return impl.Cert{Chain: c, By: by}
}

// certOf is a cert with the same nodes for each of the three, in memory of its own.
func certOf(c []impl.Item, by ...int) impl.Cert {
	return copyOfCert(cert(c, by, by, by))
}

func copyOfCert(c impl.Cert) impl.Cert {
	d := impl.Cert{Chain: slices.Clone(c.Chain)}
	for _, by := range c.By {
		d.By = append(d.By, slices.Clone(by))
	}
	return d
}

// withBy is the cert with others for one of its three.
func withBy(c impl.Cert, at int, by ...int) impl.Cert {
	c = copyOfCert(c)
	c.By[at] = by
	return c
}

func wantCert(t *testing.T, what string, got, want impl.Cert) {
	t.Helper()
	if !slices.Equal(got.Chain, want.Chain) || !slices.EqualFunc(got.By, want.By, slices.Equal) {
		t.Fatalf("%s: got %v, want %v", what, got, want)
	}
}

// wantOf holds what CertOf answers of votes by which something is final.
func wantOf(t *testing.T, what string, list []impl.Vote, want impl.Cert) {
	t.Helper()
	got, ok := impl.CertOf(list)
	wantCert(t, what, got, want)
	if !ok || !impl.CertOk(got) {
		t.Fatal(what, "is none", got)
	}
}

func wantNoneOf(t *testing.T, what string, list []impl.Vote) {
	t.Helper()
	c, ok := impl.CertOf(list)
	wantCert(t, what, c, impl.Cert{})
	if ok {
		t.Fatal(what, "is one", list)
	}
}

// wantNoCert holds all answers of what is no cert against the document.
func wantNoCert(t *testing.T, what string, c impl.Cert) {
	t.Helper()
	if impl.CertOk(c) {
		t.Fatal("is none:", what, c)
	}
	wantSame(t, "final: "+what, impl.CertFinal(c), nil)
	wantVotes(t, "votes: "+what, impl.CertVotes(c), nil)
}

// okBy, certBy and shownBy tell by another way than the program's; the last of a cert that is ok.
func okBy(c impl.Cert) bool {
	size := len(c.Chain)
	if !impl.ChainOk(c.Chain) || size < 3 || len(c.By) != 3 || len(finalPart(c.Chain)) != size-1 {
		return false
	}
	for _, by := range c.By {
		if !slices.ContainsFunc(manyBy, func(many []int) bool { return slices.Equal(by, many) }) {
			return false
		}
	}
	return true
}

func certBy(list []impl.Vote) (impl.Cert, bool) {
	size := len(finalBy(list))
	for _, c := range sureChains(list) {
		if size > 0 && len(finalPart(c)) == size {
			c = c[:size+1]
			return cert(c, nodesFor(list, c[:size-1]), nodesFor(list, c[:size]), nodesFor(list, c)), true
		}
	}
	return impl.Cert{}, false
}

func shownBy(c impl.Cert) []impl.Vote {
	size := len(c.Chain)
	return join(votesOf(c.Chain[:size-2], c.By[0]...), votesOf(c.Chain[:size-1], c.By[1]...), votesOf(c.Chain, c.By[2]...))
}

// certChains end with a row: the edges that the document names.
func certChains() [][]impl.Item {
	return [][]impl.Item{
		rowOf(1, 3),
		rowOf(2, 3),
		rowOf(impl.EpochMax-2, 3),
		rowOf(1, 4),
		rowAt(1, 3, 4, 5),
		rowAt(1, 2, 4, 5, 6),
		rowAt(1, 2, 3, 5, 6, 7),
		rowAt(1, 28, 29, 30),
		rowOf(1, impl.ChainMax-1),
		rowOf(1, impl.ChainMax),
		rowOf(impl.EpochMax-impl.ChainMax+1, impl.ChainMax),
		rowAt(1, 3, 5, 7, 9, 11, 13, 15, 17, 19, 21, 23, 25, 28, 29, 30),
	}
}

func drawMany(r *rand.Rand) []int {
	return manyBy[r.IntN(len(manyBy))]
}

// drawCert ends with a row, behind any chain that leaves room for it.
func drawCert(r *rand.Rand) impl.Cert {
	first := 1 + r.IntN(impl.EpochMax-2)
	ahead := drawChain(r)
	c := []impl.Item{}
	for _, i := range ahead {
		if i.Epoch < first && len(c) < impl.ChainMax-3 {
			c = append(c, i)
		}
	}
	for e := first; e < first+3; e++ {
		c = append(c, impl.Item{Epoch: e, Pay: drawPay(r)})
	}
	return copyOfCert(cert(c, drawMany(r), drawMany(r), drawMany(r)))
}

// someCerts are ok: the edges, and drawn ones.
func someCerts() []impl.Cert {
	var certs []impl.Cert
	for _, c := range certChains() {
		for _, by := range manyBy {
			certs = append(certs, certOf(c, by...))
		}
		certs = append(certs, copyOfCert(cert(c, manyBy[0], manyBy[4], manyBy[3])))
	}
	r := newDraw()
	for range 300 {
		certs = append(certs, drawCert(r))
	}
	return certs
}

// drawForks is votes for two chains, or three, of which as much is final, or one item more; most go on behind that.
func drawForks(r *rand.Rand) []impl.Vote {
	var list []impl.Vote
	long := r.IntN(4)
	for range 2 + r.IntN(2) {
		first := 1 + r.IntN(6)
		c := []impl.Item{}
		for e := first; e < first+3+long+r.IntN(5)/4; e++ {
			c = append(c, item(e, 1, 2, 1+r.IntN(2)))
		}
		for n := r.IntN(3); n > 0; n-- {
			c = append(c, item(lastEpoch(c)+2, 2, 3, 1+r.IntN(2)))
		}
		for n := 1; n <= len(c); n++ {
			for _, v := range votesOf(c[:n], drawMany(r)...) {
				if !among(list, v) {
					list = append(list, v)
				}
			}
		}
	}
	if r.IntN(3) > 0 {
		list = drawOrder(r, list)
	}
	return list[:len(list)-r.IntN(2)]
}

// certTrees are ok: of many of them more than one chain may be shown.
func certTrees() [][]impl.Vote {
	trees := someTrees()
	r := newDraw()
	for range 250 {
		trees = append(trees, drawForks(r))
	}
	return trees
}

// wrongBys are lists of nodes that are not enough, or none, each for one reason.
func wrongBys() map[string][]int {
	return map[string][]int{
		"nobody":                    nil,
		"nobody, an empty list":     {},
		"one":                       {2},
		"one less than Quorum":      {1, 4},
		"two, the last ones":        {3, 4},
		"one twice, first":          {1, 1, 2},
		"one twice, last":           {1, 2, 2},
		"one three times":           {3, 3, 3},
		"one twice, beside Quorum":  {1, 2, 3, 3},
		"one twice, between":        {1, 2, 2, 4},
		"one twice, not side by":    {1, 2, 3, 1},
		"the other way about":       {3, 2, 1},
		"all, the other way about":  {4, 3, 2, 1},
		"out of order, first":       {2, 1, 3},
		"out of order, last":        {1, 3, 2},
		"all, out of order":         {1, 3, 2, 4},
		"node 0":                    {0, 1, 2},
		"node 0 beside Quorum":      {0, 1, 2, 3},
		"node 0 beside all":         {0, 1, 2, 3, 4},
		"one past NodeMax":          {1, 2, impl.NodeMax + 1},
		"past NodeMax, all others":  {1, 2, 3, 4, impl.NodeMax + 1},
		"past NodeMax, Quorum":      {2, 3, 4, impl.NodeMax + 1},
		"one below 0":               {-1, 1, 2},
		"one below 0 beside Quorum": {-1, 1, 2, 4},
		"all are none":              {5, 6, 7},
		"all are below 1":           {-2, -1, 0},
		"the least":                 {math.MinInt, 1, 2, 3},
		"the greatest":              {1, 2, 3, math.MaxInt},
		"1 and 2 of 32":             {1, 2, 1<<32 + 3},
		"far too many":              make([]int, 1000),
	}
}

// wrongCerts are just not ok, each for one reason.
func wrongCerts() map[string]impl.Cert {
	good, all := rowOf(1, 4), []int{1, 2, 3, 4}
	wrong := map[string]impl.Cert{
		"nothing":                      {},
		"no chain":                     certOf(nil, all...),
		"an empty chain":               certOf(good[:0], all...),
		"one item":                     certOf(good[:1], all...),
		"two items":                    certOf(good[:2], all...),
		"two items, the later ones":    certOf(good[1:3], all...),
		"two items of the last epochs": certOf(rowOf(impl.EpochMax-1, 2), all...),
		"a gap ahead of the last":      certOf(rowAt(1, 2, 4), all...),
		"a gap ahead of the middle":    certOf(rowAt(1, 3, 4), all...),
		"two gaps":                     certOf(rowAt(1, 3, 5), all...),
		"a row that does not end it":   certOf(rowAt(1, 2, 3, 5), all...),
		"a row, and two behind":        certOf(rowAt(1, 2, 3, 5, 6), all...),
		"a row, and two more, gaps":    certOf(rowAt(1, 2, 3, 4, 6, 8), all...),
		"full, without a row":          certOf(rowAt(1, 3, 5, 7, 9, 11, 13, 15, 17, 19, 21, 23, 25, 27, 28, 30), all...),
		"a row of 17":                  certOf(rowOf(1, impl.ChainMax+1), all...),
		"By: none":                     cert(good),
		"By: one":                      cert(good, all),
		"By: two":                      cert(good, all, all),
		"By: four":                     cert(good, all, all, all, all),
		"By: four, one empty behind":   cert(good, all, all, all, nil),
		"By: four, one empty ahead":    cert(good, nil, all, all, all),
		"By: three empty":              cert(good, nil, nil, nil),
		"By: many":                     impl.Cert{Chain: good, By: make([][]int, 1000)},
		"By: as many as items":         impl.Cert{Chain: rowOf(1, 5), By: [][]int{all, all, all, all, all}},
		"past the last epoch":          certOf(rowOf(impl.EpochMax-1, 3), all...),
		"from epoch 0 on":              certOf([]impl.Item{item(0, 1, 2, 1), item(1, 1, 2, 1), item(2, 1, 2, 1)}, all...),
		"epochs go down":               certOf([]impl.Item{item(3, 1, 2, 1), item(2, 1, 2, 1), item(1, 1, 2, 1)}, all...),
		"the middle one is the first":  certOf([]impl.Item{item(1, 1, 2, 1), item(1, 1, 2, 1), item(3, 1, 2, 1)}, all...),
		"the middle one is the last":   certOf([]impl.Item{item(1, 1, 2, 1), item(3, 1, 2, 1), item(3, 1, 2, 1)}, all...),
		"the middle one is none":       certOf([]impl.Item{item(1, 1, 2, 1), item(2, 1, 1, 1), item(3, 1, 2, 1)}, all...),
		"the last one is none":         certOf([]impl.Item{item(1, 1, 2, 1), item(2, 1, 2, 1), item(3, 1, 2, 0)}, all...),
		"epochs without payment":       certOf([]impl.Item{{Epoch: 1}, {Epoch: 2}, {Epoch: 3}}, all...),
		"wrap round": certOf([]impl.Item{
			item(math.MaxInt, 1, 2, 1), item(math.MinInt, 1, 2, 1), item(math.MinInt+1, 1, 2, 1)}, all...),
	}
	for why, c := range wrongChains() {
		wrong["chain: "+why] = certOf(c, all...)
		wrong["chain, and a row: "+why] = certOf(slices.Concat(c, rowOf(20, 3)), all...)
	}
	for why, by := range wrongBys() {
		for at, which := range []string{"first", "second", "third"} {
			wrong["the "+which+" By: "+why] = withBy(certOf(good, 1, 2, 4), at, by...)
		}
	}
	return wrong
}

func TestCertIsTheDocuments(t *testing.T) {
	for _, list := range append(certTrees(), someVotes()...) {
		want, ok := certBy(list)
		if ok {
			wantOf(t, "some votes", list, want)
		} else {
			wantNoneOf(t, "some votes", list)
		}
	}
	for _, c := range someCerts() {
		if !okBy(c) || !impl.CertOk(c) {
			t.Fatal("is ok", c)
		}
		wantSame(t, "final", impl.CertFinal(c), c.Chain[:len(c.Chain)-1])
		wantVotes(t, "votes", impl.CertVotes(c), shownBy(c))
	}
	for why, c := range wrongCerts() {
		if okBy(c) {
			t.Fatal("the model:", why)
		}
		wantNoCert(t, why, c)
	}
}

// The drawn trees must be such that what is asked of their certs says something.
func TestDrawnCertsAreWorthIt(t *testing.T) {
	shown, none, forked, further, unlike := 0, 0, 0, 0, 0
	for _, list := range certTrees() {
		c, ok := certBy(list)
		if !ok {
			none++
			continue
		}
		shown++
		if !slices.Equal(c.By[0], c.By[1]) || !slices.Equal(c.By[1], c.By[2]) {
			unlike++
		}
		sure := sureChains(list)
		if first := slices.IndexFunc(sure, func(d []impl.Item) bool { return len(finalPart(d)) == len(c.Chain)-1 }); len(sure[first]) > len(c.Chain) {
			further++
		}
		for _, d := range sure {
			if len(finalPart(d)) == len(c.Chain)-1 && !begins(c.Chain, d) {
				forked++
			}
		}
	}
	if min(shown, none, forked, further, unlike) < 50 {
		t.Fatal(shown, none, forked, further, unlike)
	}
}

// Each list of at most five numbers of 0 to 5, in each of the three places.
func TestCertOfAllSmallBy(t *testing.T) {
	enough := 0
	var try func(by []int)
	try = func(by []int) {
		ok := slices.ContainsFunc(manyBy, func(many []int) bool { return slices.Equal(by, many) })
		for at := range 3 {
			c := withBy(certOf(rowOf(1, 3), 2, 3, 4), at, by...)
			if impl.CertOk(c) != ok {
				t.Fatal(at, by, !ok)
			}
			if ok {
				enough++
			}
		}
		for n := 0; n <= 5 && len(by) < 5; n++ {
			try(append(slices.Clone(by), n))
		}
	}
	try(nil)
	if enough != 15 {
		t.Error("each Quorum, and all", enough)
	}
}

func TestNodesOfACert(t *testing.T) {
	for _, n := range oddNodes() {
		for at := range 3 {
			good := certOf(rowOf(4, 3), 1, 2, 3, 4)
			for _, by := range [][]int{{n, 2, 3}, {n, 2, 3, 4}, {1, n, 4}, {2, 3, n}, {1, 2, 3, n}} {
				c := withBy(good, at, by...)
				if impl.CertOk(c) != okBy(c) {
					t.Fatal(at, by)
				}
			}
		}
	}
	for _, by := range [][]int{{1, 2, 3}, {1, 2, impl.NodeMax}, {2, 3, impl.NodeMax}} {
		if !impl.CertOk(certOf(rowOf(1, 3), by...)) {
			t.Error("is ok", by)
		}
	}
}

// Each three epochs, with nothing ahead, or with as much as there is room for.
func TestCertOfAllThreeEpochs(t *testing.T) {
	for a := 1; a <= impl.EpochMax; a++ {
		for b := a + 1; b <= impl.EpochMax; b++ {
			for c := b + 1; c <= impl.EpochMax; c++ {
				ok := b == a+1 && c == a+2
				for _, ahead := range [][]impl.Item{nil, rowOf(1, min(a-1, impl.ChainMax-3)), rowOf(a, 0)} {
					if impl.CertOk(certOf(slices.Concat(ahead, rowAt(a, b, c)), 1, 3, 4)) != ok {
						t.Fatal(a, b, c, !ok)
					}
				}
			}
		}
	}
}

func TestCertOfSmallChains(t *testing.T) {
	for _, c := range smallChains() {
		if impl.CertOk(certOf(c, 1, 2, 3)) != (len(c) == 3) {
			t.Error(c)
		}
	}
}

func TestHowLongACertIs(t *testing.T) {
	for size := range 2 * impl.ChainMax {
		c := certOf(rowOf(1, size), 1, 2, 3)
		if impl.CertOk(c) != (size >= 3 && size <= impl.ChainMax) {
			t.Error("a row of", size)
		}
		if impl.CertOk(c) {
			wantSame(t, "final", impl.CertFinal(c), rowOf(1, size-1))
			wantVotes(t, "votes", impl.CertVotes(c), votesUp(rowOf(1, size), 1, 2, 3)[3*(size-3):])
		} else {
			wantNoCert(t, "a row", c)
		}
	}
}

func TestHowManyByACertHas(t *testing.T) {
	for size := range 9 {
		c := impl.Cert{Chain: rowOf(1, 9)}
		for range size {
			c.By = append(c.By, []int{1, 2, 4})
		}
		if impl.CertOk(c) != (size == 3) {
			t.Error("By of", size)
		}
	}
}

func TestPromise60ThreeInTheEnd(t *testing.T) {
	certs := someCerts()
	for _, c := range wrongCerts() {
		certs = append(certs, c)
	}
	ok := 0
	for _, c := range certs {
		if !impl.CertOk(c) {
			continue
		}
		ok++
		end := c.Chain[len(c.Chain)-3:]
		if end[1].Epoch != end[0].Epoch+1 || end[2].Epoch != end[1].Epoch+1 || len(c.By) != 3 {
			t.Fatal("three epochs in the end", c)
		}
		for _, by := range c.By {
			once := slices.Compact(slices.Sorted(slices.Values(by)))
			if len(once) < impl.Quorum || len(once) != len(by) || once[0] < 1 || once[len(once)-1] > impl.NodeMax {
				t.Fatal("Quorum voted, each node once", c)
			}
		}
	}
	if ok != len(someCerts()) {
		t.Fatal("so many are ok", ok)
	}
}

func TestPromise61JustIfSomethingIsFinal(t *testing.T) {
	for _, list := range append(certTrees(), someVotes()...) {
		final := impl.TreeFinal(list)
		c, ok := impl.CertOf(list)
		if ok != (len(final) > 0) {
			t.Fatal("just if something is final", list, c)
		}
		if !ok {
			wantCert(t, "nothing", c, impl.Cert{})
			continue
		}
		if !impl.CertOk(c) || len(impl.CertFinal(c)) != len(final) {
			t.Fatal("is ok, as long as what is final", list, c)
		}
		for _, v := range impl.CertVotes(c) {
			if !among(list, v) {
				t.Fatal("a vote that is not among them", list, v)
			}
		}
	}
}

func TestPromise61AsMuchAsIsFinal(t *testing.T) {
	for _, list := range certTrees() {
		if c, ok := impl.CertOf(list); ok {
			wantSame(t, "what is final", impl.CertFinal(c), impl.TreeFinal(list))
		}
	}
}

func TestPromise62WithoutTheLast(t *testing.T) {
	for _, c := range someCerts() {
		wantSame(t, "without the last", impl.CertFinal(c), c.Chain[:len(c.Chain)-1])
	}
	for why, c := range wrongCerts() {
		wantSame(t, why, impl.CertFinal(c), nil)
	}
}

func TestPromise63Votes(t *testing.T) {
	for _, c := range someCerts() {
		votes := impl.CertVotes(c)
		if !impl.VotesOk(votes) || len(votes) != len(c.By[0])+len(c.By[1])+len(c.By[2]) {
			t.Fatal("in form, as many as By, each once", c, votes)
		}
		for n := range 3 {
			part := c.Chain[:len(c.Chain)-2+n]
			wantNodes(t, "who is for it", impl.VotesFor(votes, part), c.By[n])
		}
	}
	for why, c := range wrongCerts() {
		wantVotes(t, why, impl.CertVotes(c), nil)
	}
}

// The first By comes first, each ascending.
func TestOrderOfCertVotes(t *testing.T) {
	c := rowAt(2, 7, 8, 9)
	wantVotes(t, "in order", impl.CertVotes(cert(c, []int{2, 3, 4}, []int{1, 2, 3, 4}, []int{1, 2, 4})), []impl.Vote{
		vote(2, c[:2]), vote(3, c[:2]), vote(4, c[:2]),
		vote(1, c[:3]), vote(2, c[:3]), vote(3, c[:3]), vote(4, c[:3]),
		vote(1, c), vote(2, c), vote(4, c),
	})
}

func TestPromise64AllNodesOrTooFew(t *testing.T) {
	for _, c := range someCerts() {
		if !impl.CertOk(certOf(c.Chain, 1, 2, 3, 4)) {
			t.Fatal("all nodes for each", c)
		}
		for at := range 3 {
			if !impl.CertOk(withBy(c, at, 1, 2, 3, 4)) {
				t.Fatal("all nodes for one", c, at)
			}
			for size := range impl.Quorum {
				wantNoCert(t, "fewer than Quorum", withBy(c, at, c.By[at][:size]...))
				wantNoCert(t, "fewer, the last ones", withBy(c, at, c.By[at][len(c.By[at])-size:]...))
			}
			for n := range c.By[at] {
				for m := range len(c.By[at]) + 1 {
					wantNoCert(t, "one twice", withBy(c, at, slices.Insert(slices.Clone(c.By[at]), m, c.By[at][n])...))
				}
				if n > 0 {
					by := slices.Clone(c.By[at])
					by[n] = by[n-1]
					wantNoCert(t, "one twice in place of another one", withBy(c, at, by...))
				}
			}
		}
	}
}

func TestPromise65AnEpochLeftOut(t *testing.T) {
	less := 0
	for _, c := range someCerts() {
		size := len(c.Chain)
		for from := size - 2; from < size; from++ {
			for more := 1; c.Chain[size-1].Epoch+more <= impl.EpochMax; more++ {
				d := copyOfCert(c)
				for n := from; n < size; n++ {
					d.Chain[n].Epoch += more
				}
				wantNoCert(t, "an epoch left out", d)
			}
		}
		d := copyOfCert(c)
		d.Chain = d.Chain[:size-1]
		if okBy(d) {
			less++
			wantSame(t, "one item less, that ends so", impl.CertFinal(d), c.Chain[:size-2])
		} else {
			wantNoCert(t, "one item less", d)
		}
	}
	if less < 10 {
		t.Fatal("too few", less)
	}
}

func TestPromise66WithVotesByAll(t *testing.T) {
	r := newDraw()
	for _, c := range someCerts() {
		list := impl.CertVotes(c)
		for _, v := range votesUp(c.Chain, 1, 2, 3, 4) {
			if !among(list, v) {
				list = append(list, v)
			}
		}
		for _, list := range [][]impl.Vote{list, turnedVotes(list), drawOrder(r, list)} {
			wantOf(t, "shows as much", list, certOf(c.Chain, 1, 2, 3, 4))
		}
	}
}

// A cert's own votes are enough for its last three chains, not for what is ahead of these.
func TestVotesOfACertAlone(t *testing.T) {
	for _, c := range someCerts() {
		list := impl.CertVotes(c)
		if len(c.Chain) > 3 {
			wantNoneOf(t, "nobody is for what is ahead", list)
			list = join(list, votesUp(c.Chain[:len(c.Chain)-3], 4, 2, 1))
		}
		wantOf(t, "its own again", list, c)
		for n := range list {
			if len(nodesFor(list, list[n].Chain)) == impl.Quorum && len(list[n].Chain) > len(c.Chain)-3 {
				if d, ok := impl.CertOf(without(list, n)); ok && len(d.Chain) >= len(c.Chain) {
					t.Fatal("one vote lacks", c, list[n], d)
				}
			}
		}
	}
}

func TestPromise67InTheOtherOrder(t *testing.T) {
	r := newDraw()
	for _, list := range append(certTrees(), someVotes()...) {
		c, ok := impl.CertOf(list)
		for _, other := range [][]impl.Vote{turnedVotes(list), drawOrder(r, list), drawOrder(r, list)} {
			d, again := impl.CertOf(other)
			if again != ok || len(impl.CertFinal(d)) != len(impl.CertFinal(c)) {
				t.Fatal("shows as much", list, c, d)
			}
		}
	}
}

func TestPromise68Books(t *testing.T) {
	for _, c := range someCerts() {
		book := impl.BookOf(impl.CertFinal(c))
		if !impl.BookOk(book) {
			t.Fatal("is ok", c, book)
		}
		last := c.Chain[len(c.Chain)-1].Pay
		wantBook(t, "but for the last payment", impl.BookPay(book, last), impl.BookOf(c.Chain))
		wantBook(t, "without the last payment", book, bookBehind(c.Chain[:len(c.Chain)-1]))
	}
}

func TestPromise69NoLessOfMore(t *testing.T) {
	r := newDraw()
	for _, list := range certTrees() {
		c, ok := impl.CertOf(list)
		for n := 0; n < len(list); n += 2 {
			for _, fewer := range [][]impl.Vote{list[:n], without(list, n)} {
				d, some := impl.CertOf(fewer)
				if some && !ok || len(impl.CertFinal(d)) > len(impl.CertFinal(c)) {
					t.Fatal("of fewer votes more", list, n, c, d)
				}
			}
		}
		more := slices.Clone(list)
		for _, v := range drawTree(r) {
			if !among(more, v) {
				more = append(more, v)
			}
		}
		d, most := impl.CertOf(more)
		if ok && !most || len(impl.CertFinal(d)) < len(impl.CertFinal(c)) {
			t.Fatal("of more votes less", list, more, c, d)
		}
	}
}

func TestCertOfTwoOfWhichAsMuchIsFinal(t *testing.T) {
	c, d := rowOf(1, 3), rowOf(4, 3)
	up, down := votesUp(c, 1, 2, 3), votesUp(d, 2, 3, 4)
	one, two := certOf(c, 1, 2, 3), certOf(d, 2, 3, 4)
	wantOf(t, "the first", join(up, down), one)
	wantOf(t, "the other is the first", join(down, up), two)
	wantOf(t, "the vote for all three counts, not that for a beginning",
		join(votesUp(c[:2], 1, 2, 3), down, votesOf(c, 1, 2, 3)), two)
	wantOf(t, "the first vote for all three counts, not the last",
		join(votesOf(c, 1), down, votesUp(c[:2], 1, 2, 3), votesOf(c, 2, 3)), one)
	wantOf(t, "more of the later is final", join(up, votesUp(rowOf(4, 4), 1, 2, 3)), certOf(rowOf(4, 4), 1, 2, 3))
	wantOf(t, "more of the first is final", join(votesUp(rowOf(4, 4), 1, 2, 3), up), certOf(rowOf(4, 4), 1, 2, 3))
	wantOf(t, "the first does not become sure", join(without(up, 8), down), two)
}

// The first of these may go on behind what its cert shows.
func TestCertOfAChainThatGoesOn(t *testing.T) {
	c, d := rowOf(1, 3), rowOf(4, 3)
	on, off := rowAt(1, 2, 3, 7, 9), rowAt(4, 5, 6, 8, 10)
	up, down := votesUp(c, 1, 2, 3), votesUp(d, 2, 3, 4)
	one, two := certOf(c, 1, 2, 3), certOf(d, 2, 3, 4)
	wantOf(t, "alone", votesUp(on, 1, 2, 3), one)
	wantOf(t, "alone, the other way", turnedVotes(votesUp(on, 1, 2, 3)), one)
	wantOf(t, "the longer one is behind", join(up, votesUp(off, 2, 3, 4)), one)
	wantOf(t, "the longer one is ahead", join(votesUp(off, 2, 3, 4), up), two)
	wantOf(t, "what goes on is voted for first, what it begins with last",
		join(votesOf(on[:4], 2, 3, 4), down, up), one)
	wantOf(t, "what goes on longest is voted for first", join(votesOf(on, 4, 3, 1), down, votesUp(on[:4], 1, 2, 3)), one)
	wantOf(t, "what goes on is voted for first, and is not sure", join(votesOf(on[:4], 2, 3), down, up), two)
	wantOf(t, "behind a gap that is not sure", join(votesOf(on, 2, 3, 4), down, up), two)
	far := rowAt(1, 2, 3, 5, 6, 7, 9, 10)
	wantOf(t, "the last row counts", votesUp(far, 1, 3, 4), certOf(far[:6], 1, 3, 4))
	full := rowAt(1, 2, 3, 5, 7, 9, 11, 13, 15, 17, 19, 21, 23, 25, 27, 29)
	wantOf(t, "full", votesUp(full, 1, 2, 4), certOf(full[:3], 1, 2, 4))
}

// Two chains that go on otherwise behind one row, and such as have a row each behind one beginning.
func TestCertOfTwoThatBeginAlike(t *testing.T) {
	c := rowOf(1, 3)
	left, right := with(c, item(5, 1, 2, 1)), with(c, item(5, 1, 2, 2))
	wantOf(t, "one row", join(votesOf(left, 2, 3, 4), votesOf(right, 1, 2, 3), votesUp(c, 1, 2, 3, 4)), certOf(c, 1, 2, 3, 4))
	mid := rowOf(1, 2)
	third := with(mid, item(3, 1, 2, 9))
	both := votesUp(mid, 1, 2, 3, 4)
	all := []int{1, 2, 3, 4}
	wantOf(t, "the third is the first's", join(both, votesOf(third, 1, 2, 4), votesOf(c, 1, 3, 4)), cert(third, all, all, []int{1, 2, 4}))
	wantOf(t, "the third is the other's", join(both, votesOf(c, 1, 3, 4), votesOf(third, 1, 2, 4)), cert(c, all, all, []int{1, 3, 4}))
}

// Who is for each of the three is told of just that chain, however the votes stand.
func TestWhoIsForEachOfTheThree(t *testing.T) {
	for _, c := range certChains() {
		size := len(c)
		for n, by := range manyBy {
			next, last := manyBy[(n+1)%5], manyBy[(n+3)%5]
			list := join(votesUp(c[:size-3], 4, 3, 2, 1), votesOf(c[:size-2], by...), votesOf(c[:size-1], next...), votesOf(c, last...))
			more := join(list, votesOf(rowAt(29), 1, 2, 3, 4), votesOf(with(c[:size-2], item(30, 1, 2, 3)), 1, 2))
			more = keep(more, func(v impl.Vote) bool { return impl.VoteOk(v) })
			for _, list := range [][]impl.Vote{list, turnedVotes(list), more, turnedVotes(more)} {
				wantOf(t, "each of the three", list, cert(c, by, next, last))
			}
		}
	}
}

// Each set of the votes of all nodes for a chain of three items, and for each of its beginnings.
func TestCertOfAllSmallSets(t *testing.T) {
	c := rowOf(1, 3)
	every := votesUp(c, 1, 2, 3, 4)
	shown := 0
	for which := range 1 << len(every) {
		var list []impl.Vote
		for i := range every {
			if which>>i&1 == 1 {
				list = append(list, every[i])
			}
		}
		first, second, third := nodesFor(list, c[:1]), nodesFor(list, c[:2]), nodesFor(list, c)
		if min(len(first), len(second), len(third)) < impl.Quorum {
			wantNoneOf(t, "too few", list)
			continue
		}
		shown++
		wantOf(t, "enough", list, cert(c, first, second, third))
	}
	if shown != 125 {
		t.Error("enough for each", shown)
	}
}

func TestVotesByWhichNothingIsFinal(t *testing.T) {
	for why, list := range map[string][]impl.Vote{
		"none":                   nil,
		"an empty list":          {},
		"one vote":               votesOf(rowOf(1, 3), 1),
		"all three at once":      votesOf(rowOf(1, 3), 1, 2, 3, 4),
		"one item":               votesUp(rowOf(1, 1), 1, 2, 3, 4),
		"two items":              votesUp(rowOf(1, 2), 1, 2, 3, 4),
		"two, of epochs 2 and 3": votesUp(rowOf(2, 2), 1, 2, 3, 4),
		"by two":                 votesUp(rowOf(1, impl.ChainMax), 2, 4),
		"a gap behind":           votesUp(rowAt(1, 2, 4), 1, 2, 3, 4),
		"a gap ahead":            votesUp(rowAt(1, 3, 4), 1, 2, 3, 4),
		"each other one":         votesUp(rowAt(1, 3, 5, 7, 9), 1, 2, 3, 4),
		"two by two":             votesUp(rowAt(1, 2, 4, 5, 7, 8), 1, 2, 3, 4),
		"the first lacks one":    without(votesUp(rowOf(1, 5), 1, 2, 3), 0),
		"the middle lacks one":   without(votesUp(rowOf(1, 3), 1, 2, 3), 4),
		"the last lacks one":     without(votesUp(rowOf(1, 3), 1, 2, 3), 8),
		"not of one chain":       join(votesUp(rowOf(1, 2), 1, 2, 3), votesUp(rowOf(3, 1), 1, 2, 3)),
		"two thirds, two each": join(votesUp(rowOf(1, 2), 1, 2, 3, 4),
			votesOf(rowOf(1, 3), 1, 2), votesOf(with(rowOf(1, 2), item(3, 1, 2, 9)), 3, 4)),
	} {
		wantNoneOf(t, why, list)
		wantNoneOf(t, why+", the other way", turnedVotes(list))
	}
}

func TestCertOfVotesThatAreNotOk(t *testing.T) {
	good := votesUp(rowOf(1, 4), 1, 2, 3)
	wantOf(t, "is one", good, certOf(rowOf(1, 4), 1, 2, 3))
	for why, v := range wrongVotes() {
		wantNoneOf(t, why+", alone", []impl.Vote{v})
		for at := range len(good) + 1 {
			wantNoneOf(t, why, slices.Insert(slices.Clone(good), at, v))
		}
	}
	for _, v := range good {
		for at := range len(good) + 1 {
			wantNoneOf(t, "twice", slices.Insert(slices.Clone(good), at, vote(v.By, slices.Clone(v.Chain))))
		}
	}
}

// No limit of a later layer holds of votes here: there may be any number.
func TestCertOfManyVotes(t *testing.T) {
	var chains [][]impl.Item
	for e := 1; e <= impl.EpochMax; e++ {
		for _, p := range okPays() {
			chains = append(chains, []impl.Item{{Epoch: e, Pay: p}})
		}
	}
	full := rowOf(1, impl.ChainMax)
	wantOf(t, "of many", join(allVotes(chains), votesUp(full, 1, 2, 3, 4)[4:]), certOf(full, 1, 2, 3, 4))
	wantNoneOf(t, "of many that are too short", allVotes(chains))
}

// guardedCert is a copy of the cert with room behind all its lists, and a check that all of that stayed.
func guardedCert(t *testing.T, c impl.Cert) (impl.Cert, func(what string)) {
	chain, chainRoom := guarded(c.Chain)
	var bys, rooms [][]int
	for _, by := range c.By {
		list, room := guard(by, 77)
		bys, rooms = append(bys, list), append(rooms, room)
	}
	by, byRoom := guard(bys, []int{77})
	was := copyOfCert(cert(chainRoom, byRoom...))
	roomsWere := copyOfCert(cert(nil, rooms...))
	return cert(chain, by...), func(what string) {
		t.Helper()
		wantCert(t, what+": an argument", cert(chainRoom, byRoom...), was)
		wantCert(t, what+": behind one of By", cert(nil, rooms...), roomsWere)
	}
}

// spoilCert writes over all memory of the cert, all spare room included.
func spoilCert(c impl.Cert) {
	spoil(c.Chain)
	for _, by := range c.By {
		spoilWith(by, -99)
	}
	spoilWith(c.By, nil)
}

func TestCertOfIsNewMemory(t *testing.T) {
	for _, votes := range append(certTrees(), votesUp(rowOf(1, impl.ChainMax), 1, 2, 3, 4)) {
		want, _ := certBy(deepCopy(votes))
		list, stays := guardedVotes(t, votes)
		first, _ := impl.CertOf(list)
		second, _ := impl.CertOf(list)
		stays("asked")
		wantCert(t, "the first", first, want)
		for n := range first.By {
			spoilWith(first.By[n], -99)
			wantCert(t, "one of By is spoilt", withBy(first, n, want.By[n]...), want)
			copy(first.By[n], want.By[n])
		}
		spoil(first.Chain)
		wantCert(t, "the chain is spoilt", cert(want.Chain, first.By...), want)
		spoilCert(first)
		stays("the answer is spoilt")
		wantCert(t, "the second one", second, want)
		spoilVotes(list)
		wantCert(t, "the argument is spoilt", second, want)
	}
}

// What is put behind one list of a cert must not be seen in another one.
func TestCertLeavesNoRoomInCommon(t *testing.T) {
	full := rowOf(1, impl.ChainMax)
	c, _ := impl.CertOf(votesUp(full, 1, 2, 3))
	for n := range c.By {
		c.By[n] = append(c.By[n], 10+n)
	}
	for n := range c.By {
		wantNodes(t, "its own end", c.By[n], []int{1, 2, 3, 10 + n})
	}
	short, _ := impl.CertOf(votesUp(rowAt(1, 2, 3, 5), 1, 2, 3))
	more := append(impl.CertFinal(short), item(30, 3, 2, 1))
	wantSame(t, "final, and one behind", more, with(rowOf(1, 2), item(30, 3, 2, 1)))
	wantSame(t, "the cert", short.Chain, rowOf(1, 3))
	wantSame(t, "the votes' chain", full, rowOf(1, impl.ChainMax))
}

func TestCertFinalIsNewMemory(t *testing.T) {
	for _, c := range someCerts() {
		want := slices.Clone(c.Chain[:len(c.Chain)-1])
		given, stays := guardedCert(t, c)
		first, second := impl.CertFinal(given), impl.CertFinal(given)
		stays("asked")
		spoil(first)
		stays("the answer is spoilt")
		wantSame(t, "the second one", second, want)
		spoilCert(given)
		wantSame(t, "the argument is spoilt", second, want)
	}
}

func TestCertVotesIsNewMemory(t *testing.T) {
	for _, c := range someCerts() {
		want := deepCopy(shownBy(c))
		given, stays := guardedCert(t, c)
		first, second := impl.CertVotes(given), impl.CertVotes(given)
		stays("asked")
		for n := range first {
			spoil(first[n].Chain)
			copy(first[n].Chain, want[n].Chain)
			wantVotes(t, "a chain of the answer is spoilt", first, want)
		}
		spoilVotes(first)
		stays("the answer is spoilt")
		wantVotes(t, "the second one", second, want)
		spoilCert(given)
		wantVotes(t, "the argument is spoilt", second, want)
	}
}

// The three of By may share their memory; what is answered does not.
func TestCertOfSharedMemory(t *testing.T) {
	by, c := []int{1, 2, 3, 4}, rowOf(1, 5)
	given := cert(c[:4], by[:3], by, by[1:])
	votes := impl.CertVotes(given)
	want := deepCopy(shownBy(given))
	wantVotes(t, "of shared memory", votes, want)
	for n := range votes {
		spoil(votes[n].Chain)
		votes[n].Chain = nil
		wantVotes(t, "the other votes", votes[n+1:], want[n+1:])
	}
	spoil(impl.CertFinal(given))
	wantNodes(t, "By", by, []int{1, 2, 3, 4})
	wantSame(t, "the chain", c, rowOf(1, 5))
}

func TestCertArgumentsStay(t *testing.T) {
	for why, c := range wrongCerts() {
		given, stays := guardedCert(t, c)
		impl.CertOk(given)
		impl.CertFinal(given)
		impl.CertVotes(given)
		stays(why)
	}
	for _, c := range someCerts() {
		given, stays := guardedCert(t, c)
		impl.CertOk(given)
		stays("ok")
	}
	for why, v := range wrongVotes() {
		list, stays := guardedVotes(t, join(votesUp(rowOf(1, 3), 1, 2, 3), []impl.Vote{v}))
		impl.CertOf(list)
		stays(why)
	}
}

// A map is gone through in another order each time: the answers are the same.
func TestSameVotesSameCert(t *testing.T) {
	var chains [][]impl.Item
	for e := 1; e <= 10; e++ {
		chains = append(chains, rowOf(e, 3), rowOf(e, 2), rowOf(e, 1))
	}
	for _, list := range [][]impl.Vote{allVotes(chains), drawOrder(newDraw(), allVotes(chains)), turnedVotes(allVotes(chains))} {
		want, _ := certBy(list)
		for range 200 {
			wantOf(t, "the same", list, want)
		}
	}
}
