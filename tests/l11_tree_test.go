package tests

import (
	"math/rand/v2"
	"slices"
	"strings"
	"testing"

	"loop.example/witan/impl"
)

// rowAt is the chain of these epochs, with the payments that rowOf has in them.
func rowAt(epochs ...int) []impl.Item {
	c := []impl.Item{}
	for _, e := range epochs {
		c = append(c, rowOf(e, 1)...)
	}
	return c
}

// with is the chain with an item behind, in memory of its own.
func with(c []impl.Item, i impl.Item) []impl.Item {
	return append(slices.Clone(c), i)
}

// votesOf are those of these nodes for just that chain.
func votesOf(c []impl.Item, by ...int) []impl.Vote {
	var list []impl.Vote
	for _, n := range by {
		list = append(list, vote(n, c))
	}
	return list
}

// votesUp are those of these nodes for each beginning of the chain, the shortest first.
func votesUp(c []impl.Item, by ...int) []impl.Vote {
	var list []impl.Vote
	for n := 1; n <= len(c); n++ {
		list = append(list, votesOf(c[:n], by...)...)
	}
	return list
}

func join(lists ...[]impl.Vote) []impl.Vote {
	return slices.Concat(lists...)
}

func turnedVotes(list []impl.Vote) []impl.Vote {
	list = slices.Clone(list)
	slices.Reverse(list)
	return list
}

// without is the list but for one place.
func without(list []impl.Vote, at int) []impl.Vote {
	return slices.Delete(slices.Clone(list), at, at+1)
}

// keep is those of the votes that are so.
func keep(list []impl.Vote, so func(v impl.Vote) bool) []impl.Vote {
	var kept []impl.Vote
	for _, v := range list {
		if so(v) {
			kept = append(kept, v)
		}
	}
	return kept
}

func hasChain(chains [][]impl.Item, c []impl.Item) bool {
	return slices.ContainsFunc(chains, func(d []impl.Item) bool { return slices.Equal(c, d) })
}

// sureBy, sureChains, firstLongest and finalBy tell by another way than the program's, of votes that are ok.
func sureBy(list []impl.Vote, c []impl.Item) bool {
	for n := 1; n <= len(c); n++ {
		if len(nodesFor(list, c[:n])) < 3 {
			return false
		}
	}
	return true
}

func sureChains(list []impl.Vote) [][]impl.Item {
	chains := [][]impl.Item{nil}
	for _, v := range list {
		if sureBy(list, v.Chain) && !hasChain(chains, v.Chain) {
			chains = append(chains, v.Chain)
		}
	}
	return chains
}

func firstLongest(chains [][]impl.Item) []impl.Item {
	var first []impl.Item
	for _, c := range chains {
		if len(c) > len(first) {
			first = c
		}
	}
	return first
}

func finalPart(c []impl.Item) []impl.Item {
	size := 0
	for n := 2; n < len(c); n++ {
		if c[n].Epoch-c[n-1].Epoch == 1 && c[n].Epoch-c[n-2].Epoch == 2 {
			size = n
		}
	}
	return c[:size]
}

func finalBy(list []impl.Vote) []impl.Item {
	var parts [][]impl.Item
	for _, c := range sureChains(list) {
		parts = append(parts, finalPart(c))
	}
	return firstLongest(parts)
}

func wantChains(t *testing.T, what string, got, want [][]impl.Item) {
	t.Helper()
	if !slices.EqualFunc(got, want, slices.Equal) {
		t.Fatalf("%s: got %v, want %v", what, got, want)
	}
}

func wantText(t *testing.T, what string, got []impl.Item, want ...string) {
	t.Helper()
	if lines := strings.Join(append(want, ""), "\n"); impl.ChainText(got) != lines {
		t.Errorf("%s: got %q, want %q", what, impl.ChainText(got), lines)
	}
}

// checkTree holds all answers of votes that are ok against the document.
func checkTree(t *testing.T, what string, list []impl.Vote) {
	t.Helper()
	sure := sureChains(list)
	wantChains(t, what+": all", impl.TreeAll(list), sure)
	wantSame(t, what+": tip", impl.TreeTip(list), firstLongest(sure))
	wantSame(t, what+": final", impl.TreeFinal(list), finalBy(list))
	if got := impl.TreeLong(list); got != len(firstLongest(sure)) {
		t.Fatalf("%s: long: got %d, want %d", what, got, len(firstLongest(sure)))
	}
	for _, c := range asked(list) {
		if impl.TreeSure(list, c) != sureBy(list, c) {
			t.Fatal(what, "sure", list, c)
		}
	}
}

// asked are chains that may be sure, or just not: all that votes are for, their beginnings, and what may be behind.
func asked(list []impl.Vote) [][]impl.Item {
	chains := [][]impl.Item{nil, {}, {item(1, 1, 2, 1)}, rowOf(1, impl.ChainMax)}
	for _, v := range list {
		for n := 1; n <= len(v.Chain); n++ {
			if !hasChain(chains, v.Chain[:n]) {
				chains = append(chains, v.Chain[:n])
			}
		}
		if last := v.Chain[len(v.Chain)-1]; last.Epoch < impl.EpochMax && len(v.Chain) < impl.ChainMax {
			chains = append(chains, with(v.Chain, item(last.Epoch+1, 3, 1, 9)))
		}
	}
	return chains
}

// drawGrown are chains that grow from each other, most of them in epochs one behind the other.
func drawGrown(r *rand.Rand) [][]impl.Item {
	chains := [][]impl.Item{{}}
	for range 2 + r.IntN(12) {
		ahead := chains[len(chains)-1]
		if r.IntN(3) == 0 {
			ahead = chains[r.IntN(len(chains))]
		}
		last := 0
		if len(ahead) > 0 {
			last = ahead[len(ahead)-1].Epoch
		}
		if r.IntN(5) == 0 {
			last++
		}
		c := with(ahead, item(last+1, 1, 2, 1+r.IntN(3)))
		if impl.ChainOk(c) && !hasChain(chains, c) {
			chains = append(chains, c)
		}
	}
	return chains[1:]
}

// drawTree is votes for such chains: mostly enough of them.
func drawTree(r *rand.Rand) []impl.Vote {
	var list []impl.Vote
	for _, c := range drawGrown(r) {
		for _, n := range r.Perm(impl.NodeMax)[:[]int{0, 1, 2, 3, 3, 3, 3, 3, 4, 4, 4, 4}[r.IntN(12)]] {
			list = append(list, vote(n+1, c))
		}
	}
	if r.IntN(3) > 0 {
		list = drawOrder(r, list)
	}
	return list
}

// edgeTrees are ok: the edges that the document names.
func edgeTrees() [][]impl.Vote {
	full, late := rowOf(1, impl.ChainMax), rowOf(impl.EpochMax-impl.ChainMax+1, impl.ChainMax)
	one, row, other := rowOf(1, 1), rowOf(1, 3), rowOf(4, 3)
	return [][]impl.Vote{
		nil,
		{},
		votesOf(one, 1),
		votesOf(one, 1, 4),
		votesOf(one, 2, 3, 4),
		votesOf(one, 1, 2, 3, 4),
		votesOf(rowOf(1, 2), 1, 2, 3, 4),
		votesUp(full, 1, 2),
		votesUp(full, 1, 2, 4),
		votesUp(full, 1, 2, 3, 4),
		turnedVotes(votesUp(late, 4, 3, 1)),
		without(votesUp(full, 1, 2, 3), 0),
		without(votesUp(full, 1, 2, 3), 3*impl.ChainMax-1),
		join(votesUp(row, 1, 2, 3), votesUp(other, 1, 2, 4)),
		join(votesUp(other, 1, 2, 3), votesUp(row, 1, 2, 4)),
		join(votesUp(row[:2], 1, 2, 3), votesUp(other, 1, 2, 4), votesOf(row, 1, 2, 3)),
		join(votesUp(row, 1, 2, 3), votesUp(rowAt(1, 2, 4, 5, 6)[:2], 4), votesOf(rowAt(1, 2, 4), 2, 3, 4)),
		join(votesUp(rowAt(2, 4, 6, 8, 10), 1, 3, 4), votesUp(rowAt(1, 3, 5, 7, 9), 1, 3, 4)),
	}
}

// someTrees are ok: the edges, and drawn ones.
func someTrees() [][]impl.Vote {
	trees := edgeTrees()
	r := newDraw()
	for range 250 {
		trees = append(trees, drawTree(r))
	}
	return trees
}

func TestTreeIsTheDocuments(t *testing.T) {
	for _, list := range append(someTrees(), someVotes()...) {
		checkTree(t, "a tree", list)
	}
	r := newDraw()
	for range 1500 {
		checkTree(t, "a drawn tree", drawTree(r))
	}
}

// The drawn trees must be such that what is asked of them says something.
func TestDrawnTreesAreWorthIt(t *testing.T) {
	long, final, forked, gaps := 0, 0, 0, 0
	for _, list := range someTrees() {
		sure := sureChains(list)
		long += len(firstLongest(sure)) / 4
		final += len(finalBy(list)) / 2
		for _, c := range sure {
			if len(c) > 0 && !begins(c, firstLongest(sure)) {
				forked++
			}
		}
		for _, c := range asked(list) {
			if len(nodesFor(list, c)) >= impl.Quorum && !sureBy(list, c) {
				gaps++
			}
		}
	}
	if min(long, final, forked, gaps) < 50 {
		t.Fatal(long, final, forked, gaps)
	}
}

func TestTreeWithoutVotes(t *testing.T) {
	for _, list := range [][]impl.Vote{nil, {}} {
		if all := impl.TreeAll(list); len(all) != 1 || len(all[0]) != 0 {
			t.Error("nothing alone", all)
		}
		if impl.TreeLong(list) != 0 || len(impl.TreeTip(list)) != 0 || len(impl.TreeFinal(list)) != 0 {
			t.Error("nothing is long, and final")
		}
		if !impl.TreeSure(list, nil) || !impl.TreeSure(list, []impl.Item{}) || impl.TreeSure(list, rowOf(1, 1)) {
			t.Error("nothing alone is sure")
		}
	}
}

func TestJustEnoughVotes(t *testing.T) {
	for _, c := range [][]impl.Item{rowOf(1, 1), rowOf(impl.EpochMax, 1), rowOf(1, 4), rowOf(1, impl.ChainMax)} {
		for by, size := range map[int]int{1: 0, 2: 0, 3: len(c), impl.NodeMax: len(c)} {
			list := votesUp(c, []int{4, 1, 3, 2}[:by]...)
			if impl.TreeSure(list, c) != (size > 0) || impl.TreeLong(list) != size || len(impl.TreeAll(list)) != size+1 {
				t.Error(by, "votes each", size, impl.TreeLong(list))
			}
			wantSame(t, "tip", impl.TreeTip(list), c[:size])
		}
	}
	full := rowOf(1, impl.ChainMax)
	wantSame(t, "all of a full chain but its last is final", impl.TreeFinal(votesUp(full, 2, 3, 4)), full[:impl.ChainMax-1])
}

// Each set of the votes of all nodes for a chain of three items, and for each of its beginnings.
func TestTreeOfAllSmallSets(t *testing.T) {
	c := rowOf(1, 3)
	every := votesUp(c, 1, 2, 3, 4)
	for which := range 1 << len(every) {
		var list []impl.Vote
		for i := range every {
			if which>>i&1 == 1 {
				list = append(list, every[i])
			}
		}
		size := len(firstLongest(sureChains(list)))
		if impl.TreeLong(list) != size || len(impl.TreeAll(list)) != size+1 {
			t.Fatal("long", list, size)
		}
		if final := impl.TreeFinal(list); (len(final) == 2) != (size == 3) || len(final) != 0 && len(final) != 2 {
			t.Fatal("final", list, final)
		}
	}
}

func TestPromise30EachBeginning(t *testing.T) {
	for _, list := range someTrees() {
		for _, c := range asked(list) {
			if !impl.TreeSure(list, c) {
				continue
			}
			for n := range len(c) + 1 {
				if !impl.TreeSure(list, c[:n]) {
					t.Fatal("a beginning is not sure", list, c[:n])
				}
				if n > 0 && len(nodesFor(list, c[:n])) < impl.Quorum {
					t.Fatal("too few for a beginning", list, c[:n])
				}
			}
		}
	}
}

// A chain for which enough voted, behind one for which not enough did.
func TestPromise30NotBehindTooFew(t *testing.T) {
	full := rowOf(1, impl.ChainMax)
	for gap := 1; gap <= impl.ChainMax; gap++ {
		for _, by := range [][]int{nil, {1}, {2, 4}} {
			list := votesOf(full[:gap], by...)
			for n := 1; n <= impl.ChainMax; n++ {
				if n != gap {
					list = append(list, votesOf(full[:n], 1, 2, 3, 4)...)
				}
			}
			for _, list := range [][]impl.Vote{list, turnedVotes(list)} {
				for n := range impl.ChainMax + 1 {
					if impl.TreeSure(list, full[:n]) != (n < gap) {
						t.Fatal("sure up to the gap", gap, n)
					}
				}
				if impl.TreeLong(list) != gap-1 || len(impl.TreeAll(list)) != gap {
					t.Fatal("long up to the gap", gap, impl.TreeLong(list))
				}
				wantSame(t, "tip", impl.TreeTip(list), full[:gap-1])
				wantSame(t, "final", impl.TreeFinal(list), finalPart(full[:gap-1]))
			}
		}
	}
}

// A longer chain that is not sure does not hide a shorter one that is.
func TestNotSureBesideSure(t *testing.T) {
	gap := keep(votesUp(rowOf(1, 6), 1, 2, 3, 4), func(v impl.Vote) bool { return len(v.Chain) != 2 || v.By < 3 })
	sure := votesUp(rowAt(1, 7, 8, 9), 1, 2, 3)[3:]
	for _, list := range [][]impl.Vote{join(gap, sure), join(sure, gap)} {
		checkTree(t, "beside", list)
		wantSame(t, "tip", impl.TreeTip(list), rowAt(1, 7, 8, 9))
		wantSame(t, "final", impl.TreeFinal(list), rowAt(1, 7, 8))
	}
}

func TestPromise31WithAnyVoteMore(t *testing.T) {
	r := newDraw()
	for _, list := range someTrees() {
		more := join(list, votesOf(rowAt(29, 30), 2))
		for _, v := range drawTree(r) {
			more, _ = impl.VotesAdd(more, v)
		}
		more = drawOrder(r, more)
		for _, c := range impl.TreeAll(list) {
			if !impl.TreeSure(more, c) || !impl.TreeSure(drawOrder(r, list), c) || !impl.TreeSure(turnedVotes(list), c) {
				t.Fatal("with more, in any order", list, c)
			}
			for n := 1; n <= len(c); n++ {
				others := keep(list, func(v impl.Vote) bool { return !slices.Equal(v.Chain, c[:n]) })
				if impl.TreeSure(others, c) {
					t.Fatal("without votes for it", others, c)
				}
			}
		}
	}
}

func TestPromise32JustIf(t *testing.T) {
	for _, list := range someTrees() {
		for _, c := range asked(list) {
			enough := true
			for n := 1; n <= len(c); n++ {
				enough = enough && len(impl.VotesFor(list, c[:n])) >= impl.Quorum
			}
			if impl.TreeSure(list, c) != enough {
				t.Fatal("just if", list, c, enough)
			}
		}
	}
}

func TestPromise33JustThose(t *testing.T) {
	for _, list := range someTrees() {
		all := impl.TreeAll(list)
		if len(all) == 0 || len(all[0]) != 0 {
			t.Fatal("nothing is first", all)
		}
		for n, c := range all {
			if hasChain(all[:n], c) {
				t.Fatal("twice", all)
			}
			if n > 0 && len(nodesFor(list, c)) == 0 || !impl.TreeSure(list, c) {
				t.Fatal("not voted for, or not sure", list, c)
			}
		}
		for _, v := range list {
			if impl.TreeSure(list, v.Chain) != hasChain(all, v.Chain) {
				t.Fatal("all that are sure", list, v.Chain)
			}
		}
	}
}

// The order is that of the first vote for just that chain: neither of the first for what begins with it, nor of the third one.
func TestAllInTheOrderOfFirstVotes(t *testing.T) {
	c, d := rowOf(1, 3), rowAt(5)
	list := join(
		votesOf(c, 4), votesOf(d, 1), votesOf(rowOf(1, 2), 1), votesOf(d, 2, 3), votesOf(c[:1], 1, 2, 3, 4),
		votesOf(rowAt(1, 9), 1, 2), votesOf(c[:2], 2, 3), votesOf(c, 1, 2, 3))
	wantChains(t, "first votes", impl.TreeAll(list), [][]impl.Item{nil, c, d, c[:2], c[:1]})
	wantChains(t, "the other way", impl.TreeAll(turnedVotes(list)), [][]impl.Item{nil, c, c[:2], c[:1], d})
}

func TestPromise34NoneLonger(t *testing.T) {
	for _, list := range someTrees() {
		tip, all := impl.TreeTip(list), impl.TreeAll(list)
		if !impl.TreeSure(list, tip) || len(tip) != impl.TreeLong(list) || !hasChain(all, tip) {
			t.Fatal("is sure, and so long", list, tip)
		}
		met := false
		for _, c := range all {
			met = met || slices.Equal(c, tip)
			if len(c) > len(tip) || !met && len(c) == len(tip) {
				t.Fatal("longer, or as long ahead of it", list, c, tip)
			}
		}
	}
}

func TestTipOfTwoAsLong(t *testing.T) {
	c, d := rowAt(1, 3), rowAt(2, 4)
	up, down := votesUp(c, 1, 2, 3), votesUp(d, 2, 3, 4)
	wantText(t, "the first", impl.TreeTip(join(up, down)), "1:232", "3:124")
	wantText(t, "the other is the first", impl.TreeTip(join(down, up)), "2:313", "4:235")
	wantText(t, "its own vote counts, not that of its beginning",
		impl.TreeTip(join(votesOf(c[:1], 1, 2, 3), down, votesOf(c, 1, 2, 3))), "2:313", "4:235")
	wantText(t, "the first vote counts, not the third",
		impl.TreeTip(join(votesOf(c, 1), down, votesOf(c[:1], 1, 2, 3), votesOf(c, 2, 3))), "1:232", "3:124")
	wantText(t, "one that is not sure is passed over",
		impl.TreeTip(join(without(up, 0), down)), "2:313", "4:235")
	wantText(t, "two with one beginning",
		impl.TreeTip(join(votesOf(with(c[:1], item(9, 1, 2, 1)), 1, 2, 3), up)), "1:232", "9:121")
	wantText(t, "three, of which the first two are as long",
		impl.TreeTip(join(votesUp(rowAt(8), 1, 2, 4), down, up)), "2:313", "4:235")
}

func TestPromise35NoLess(t *testing.T) {
	r := newDraw()
	for _, list := range someTrees() {
		long := impl.TreeLong(list)
		if impl.TreeLong(turnedVotes(list)) != long || impl.TreeLong(drawOrder(r, list)) != long {
			t.Fatal("in any order", list)
		}
		for n := range list {
			if impl.TreeLong(list[:n]) > long || impl.TreeLong(without(list, n)) > long {
				t.Fatal("less with more votes", list, n)
			}
		}
	}
}

func TestPromise36OneItemMoreIsSure(t *testing.T) {
	for _, list := range someTrees() {
		final := impl.TreeFinal(list)
		if len(final) == 0 {
			continue
		}
		if len(final) < 2 {
			t.Fatal("one alone is never final", list, final)
		}
		last := final[len(final)-1].Epoch
		if final[len(final)-2].Epoch != last-1 {
			t.Fatal("the last two", final)
		}
		if !slices.ContainsFunc(impl.TreeAll(list), func(c []impl.Item) bool {
			return len(c) == len(final)+1 && begins(final, c) && c[len(c)-1].Epoch == last+1
		}) {
			t.Fatal("no sure chain of one item more", list, final)
		}
	}
}

func TestPromise37NoneBehind(t *testing.T) {
	for _, list := range someTrees() {
		long := len(impl.TreeFinal(list))
		for _, c := range impl.TreeAll(list) {
			for middle := 1; middle+1 < len(c); middle++ {
				e := c[middle].Epoch
				if c[middle-1].Epoch == e-1 && c[middle+1].Epoch == e+1 && middle+1 > long {
					t.Fatal("three of which the middle one is behind", list, c, long)
				}
			}
		}
	}
}

// How much of one chain is final: by its epochs.
func TestHowMuchIsFinal(t *testing.T) {
	for _, one := range []struct {
		why    string
		epochs []int
		size   int
	}{
		{"one item", []int{1}, 0},
		{"two items", []int{1, 2}, 0},
		{"two items, the later ones", []int{2, 3}, 0},
		{"just three", []int{1, 2, 3}, 2},
		{"just three, the last epochs", []int{28, 29, 30}, 2},
		{"three, one left out ahead", []int{1, 3, 4}, 0},
		{"three, one left out behind", []int{1, 2, 4}, 0},
		{"each other one", []int{1, 3, 5, 7, 9}, 0},
		{"two by two", []int{1, 2, 4, 5, 7, 8, 10, 11}, 0},
		{"in the beginning", []int{1, 2, 3, 5, 7}, 2},
		{"in the beginning, two in a row behind", []int{4, 5, 6, 8, 9}, 2},
		{"in the middle", []int{1, 3, 4, 5, 9}, 3},
		{"in the end", []int{1, 3, 7, 8, 9}, 4},
		{"in the end, two in a row ahead", []int{1, 2, 7, 8, 9}, 4},
		{"four in a row", []int{5, 6, 7, 8}, 3},
		{"four in a row, and more", []int{5, 6, 7, 8, 10, 11}, 3},
		{"two places", []int{1, 2, 3, 5, 6, 7}, 5},
		{"two places, and more", []int{1, 2, 3, 5, 6, 7, 9}, 5},
		{"three places", []int{1, 2, 3, 5, 6, 7, 10, 11, 12, 20, 21}, 8},
		{"full", []int{1, 2, 3, 4, 5, 6, 7, 8, 9, 10, 11, 12, 13, 14, 15, 16}, 15},
		{"full, a gap in the end", []int{1, 2, 3, 4, 5, 6, 7, 8, 9, 10, 11, 12, 13, 14, 15, 17}, 14},
		{"full, the first three alone", []int{1, 2, 3, 5, 7, 9, 11, 13, 15, 17, 19, 21, 23, 25, 27, 29}, 2},
		{"full, the last three alone", []int{1, 3, 5, 7, 9, 11, 13, 15, 17, 19, 21, 23, 25, 28, 29, 30}, 15},
	} {
		c := rowAt(one.epochs...)
		for _, by := range [][]int{{1, 2, 3}, {4, 3, 1, 2}} {
			list := votesUp(c, by...)
			wantSame(t, one.why, impl.TreeFinal(list), c[:one.size])
			wantSame(t, one.why+", the other way", impl.TreeFinal(turnedVotes(list)), c[:one.size])
		}
		if two := impl.TreeFinal(votesUp(c, 2, 3)); len(two) != 0 {
			t.Error("by two alone", one.why, two)
		}
	}
}

func TestFinalOfTwoOfWhichAsMuchIs(t *testing.T) {
	c, d := rowOf(1, 3), rowOf(4, 3)
	up, down := votesUp(c, 1, 2, 3), votesUp(d, 2, 3, 4)
	wantText(t, "the first", impl.TreeFinal(join(up, down)), "1:232", "2:313")
	wantText(t, "the other is the first", impl.TreeFinal(join(down, up)), "4:235", "5:316")
	wantText(t, "the vote for all three counts, not that for a beginning",
		impl.TreeFinal(join(votesUp(c[:2], 1, 2, 3), down, votesOf(c, 1, 2, 3))), "4:235", "5:316")
	wantText(t, "the first vote for all three counts, not the last",
		impl.TreeFinal(join(votesOf(c, 1), down, votesUp(c[:2], 1, 2, 3), votesOf(c, 2, 3))), "1:232", "2:313")
	wantText(t, "more of the later is final",
		impl.TreeFinal(join(up, votesUp(rowOf(4, 4), 1, 2, 3))), "4:235", "5:316", "6:127")
	wantText(t, "a longer one of which less is final",
		impl.TreeFinal(join(votesUp(rowAt(4, 6, 8, 10, 12), 1, 2, 3), up)), "1:232", "2:313")
	wantText(t, "a longer one of which as much is final, and behind",
		impl.TreeFinal(join(up, votesUp(rowAt(4, 5, 6, 8, 10), 1, 2, 3))), "1:232", "2:313")
	wantText(t, "a longer one of which as much is final, and ahead",
		impl.TreeFinal(join(votesUp(rowAt(4, 5, 6, 8, 10), 1, 2, 3), up)), "4:235", "5:316")
	wantText(t, "what goes on longest counts, if its vote is the first",
		impl.TreeFinal(join(votesOf(rowAt(1, 2, 3, 7), 1, 2, 3), down, up)), "1:232", "2:313")
}

func TestPromise38NoLongerWithFewer(t *testing.T) {
	r := newDraw()
	for _, list := range someTrees() {
		long := len(impl.TreeFinal(list))
		for n := range list {
			if len(impl.TreeFinal(list[:n])) > long || len(impl.TreeFinal(without(list, n))) > long {
				t.Fatal("longer with fewer votes", list, n)
			}
		}
		some := drawOrder(r, list)[:len(list)/2]
		if len(impl.TreeFinal(some)) > long {
			t.Fatal("longer with half of the votes", list, some)
		}
	}
}

func TestPromise39WithoutOneOfThese(t *testing.T) {
	for _, list := range someTrees() {
		for _, c := range impl.TreeAll(list) {
			for n, v := range list {
				if len(c) == 0 || !begins(v.Chain, c) {
					continue
				}
				more := len(nodesFor(list, v.Chain)) > impl.Quorum
				if impl.TreeSure(without(list, n), c) != more {
					t.Fatal("without one vote", list, c, v, more)
				}
			}
		}
	}
}

func TestPromise40BothOfAnyTwo(t *testing.T) {
	for _, list := range someTrees() {
		all := impl.TreeAll(list)
		for _, c := range all {
			for _, d := range all {
				if !hasChain(all, impl.ChainBoth(c, d)) {
					t.Fatal("how both begin", list, c, d)
				}
			}
		}
	}
}

func TestPromise41InWhateverOrder(t *testing.T) {
	r := newDraw()
	for _, list := range someTrees() {
		all := impl.TreeAll(list)
		for _, other := range [][]impl.Vote{turnedVotes(list), drawOrder(r, list), drawOrder(r, list)} {
			again := impl.TreeAll(other)
			if len(again) != len(all) || len(again[0]) != 0 {
				t.Fatal("as many, nothing first", list, again)
			}
			for _, c := range all {
				if !hasChain(again, c) {
					t.Fatal("the same", list, c)
				}
			}
		}
	}
}

func TestPromise42OneItemMore(t *testing.T) {
	for _, list := range someTrees() {
		tip := impl.TreeTip(list)
		last := 0
		if len(tip) > 0 {
			last = tip[len(tip)-1].Epoch
		}
		for e := last + 1; e <= impl.EpochMax && len(tip) < impl.ChainMax; e += 3 {
			longer := with(tip, item(e, 2, 1, 7))
			for _, by := range [][]int{{1, 2, 3}, {4, 2, 1}} {
				more := join(list, votesOf(longer, by...))
				wantSame(t, "one item more", impl.TreeTip(more), longer)
				if impl.TreeLong(more) != impl.TreeLong(list)+1 {
					t.Fatal("one longer", list, longer)
				}
				wantSame(t, "one vote lacks", impl.TreeTip(more[:len(more)-1]), tip)
			}
		}
	}
}

// What enough were for already, behind the chain that now becomes sure, becomes sure with it.
func TestWhatWaitedBehindBecomesSure(t *testing.T) {
	c := rowOf(1, 5)
	list := keep(votesUp(c, 1, 2, 3), func(v impl.Vote) bool { return len(v.Chain) != 2 || v.By != 1 })
	wantSame(t, "one lacks", impl.TreeTip(list), c[:1])
	wantSame(t, "one lacks: final", impl.TreeFinal(list), nil)
	list = append(list, vote(4, c[:2]))
	wantSame(t, "none lacks", impl.TreeTip(list), c)
	wantSame(t, "none lacks: final", impl.TreeFinal(list), c[:4])
}

func TestPromise43TheFirstTwo(t *testing.T) {
	for _, by := range [][]int{{1, 2, 3}, {1, 2, 4}, {1, 3, 4}, {4, 3, 2}} {
		for e := 1; e+2 <= impl.EpochMax; e++ {
			list := votesUp(rowOf(e, 3), by...)
			wantSame(t, "the first two", impl.TreeFinal(list), rowOf(e, 2))
			for n := range list {
				if final := impl.TreeFinal(without(list, n)); len(final) != 0 {
					t.Fatal("one vote lacks", e, n, final)
				}
			}
			if e+3 > impl.EpochMax {
				continue
			}
			for _, c := range [][]impl.Item{rowAt(e, e+1, e+3), rowAt(e, e+2, e+3)} {
				if final := impl.TreeFinal(votesUp(c, by...)); len(final) != 0 {
					t.Fatal("one epoch lies between", c, final)
				}
			}
		}
	}
}

// Three epochs one behind the other that do not stand in one chain make nothing final.
func TestThreeInARowOfOneChainOnly(t *testing.T) {
	for _, list := range [][]impl.Vote{
		join(votesUp(rowOf(1, 1), 1, 2, 3), votesUp(rowOf(2, 1), 1, 2, 3), votesUp(rowOf(3, 1), 1, 2, 3)),
		join(votesUp(rowOf(1, 2), 1, 2, 3), votesUp(rowOf(3, 1), 1, 2, 3)),
		join(votesUp(rowOf(1, 2), 1, 2, 3), votesOf(rowAt(1, 3), 1, 2, 3)),
		join(votesUp(rowOf(1, 1), 1, 2, 3), votesUp(rowOf(2, 2), 1, 2, 3)),
	} {
		if final := impl.TreeFinal(list); len(final) != 0 {
			t.Error(list, final)
		}
	}
}

func TestPromise44OfAnyTwoNodes(t *testing.T) {
	for _, list := range append(someTrees(), someVotes()...) {
		for a := 1; a <= impl.NodeMax; a++ {
			for b := 1; b <= impl.NodeMax; b++ {
				two := keep(list, func(v impl.Vote) bool { return v.By == a || v.By == b })
				if all := impl.TreeAll(two); len(all) != 1 || len(all[0]) != 0 {
					t.Fatal("nothing alone", two, all)
				}
				if impl.TreeLong(two) != 0 || len(impl.TreeTip(two)) != 0 || len(impl.TreeFinal(two)) != 0 {
					t.Fatal("nothing is final", two)
				}
			}
		}
	}
}

// checkNoTree holds all answers of votes that are not ok against the document.
func checkNoTree(t *testing.T, why string, list []impl.Vote) {
	t.Helper()
	if all := impl.TreeAll(list); len(all) != 0 {
		t.Fatal("all:", why, all)
	}
	if long := impl.TreeLong(list); long != -1 {
		t.Fatal("long:", why, long)
	}
	if tip, final := impl.TreeTip(list), impl.TreeFinal(list); len(tip) != 0 || len(final) != 0 {
		t.Fatal("tip, final:", why, tip, final)
	}
	for _, c := range [][]impl.Item{nil, {}, rowOf(1, 1), rowOf(1, 3)} {
		if impl.TreeSure(list, c) {
			t.Fatal("sure:", why, c)
		}
	}
	for _, v := range list {
		if impl.TreeSure(list, v.Chain) {
			t.Fatal("sure:", why, v.Chain)
		}
	}
}

func TestTreeOfVotesThatAreNotOk(t *testing.T) {
	good := votesUp(rowOf(1, 4), 1, 2, 3)
	for why, v := range wrongVotes() {
		checkNoTree(t, why+", alone", []impl.Vote{v})
		for at := range len(good) + 1 {
			checkNoTree(t, why, slices.Insert(slices.Clone(good), at, v))
		}
	}
	for _, v := range good {
		for at := range len(good) + 1 {
			checkNoTree(t, "twice", slices.Insert(slices.Clone(good), at, vote(v.By, slices.Clone(v.Chain))))
		}
	}
	v := vote(2, rowOf(1, 1))
	checkNoTree(t, "the same three times is not enough", []impl.Vote{v, v, v})
}

func TestSureOfChainsThatAreNotOk(t *testing.T) {
	lists := append(edgeTrees(), allVotes(voteChains()))
	for why, c := range wrongChains() {
		for _, list := range lists {
			if impl.TreeSure(list, c) {
				t.Error("sure:", why, list)
			}
		}
	}
	full := rowOf(1, impl.ChainMax)
	list := votesUp(full, 1, 2, 3, 4)
	for _, c := range [][]impl.Item{with(full, item(17, 1, 2, 1)), with(full, full[15]), with(full, impl.Item{}), full[1:]} {
		if impl.TreeSure(list, c) {
			t.Error("sure:", c)
		}
	}
}

// Chains that differ in one number alone are not taken for each other.
func TestAlikeIsNotTheSame(t *testing.T) {
	alike := [][]impl.Item{
		{item(1, 1, 2, 1)}, {item(2, 1, 2, 1)}, {item(1, 1, 3, 1)}, {item(1, 3, 2, 1)}, {item(1, 1, 2, 2)}, {item(11, 1, 2, 1)},
	}
	var list []impl.Vote
	for n, c := range alike {
		list = append(list, votesOf(c, 1+n%4, 1+(n+1)%4)...)
	}
	checkTree(t, "two votes each", list)
	if impl.TreeLong(list) != 0 {
		t.Error("are taken for one", impl.TreeAll(list))
	}
	for _, c := range alike {
		d := with(c, item(20, 1, 2, 1))
		more := join(list, votesOf(d, 1, 2, 3))
		for by := 1; by <= impl.NodeMax; by++ {
			more, _ = impl.VotesAdd(more, vote(by, c))
		}
		wantSame(t, "that one alone", impl.TreeTip(more), d)
		if len(impl.TreeAll(more)) != 3 {
			t.Error("that one alone", impl.TreeAll(more))
		}
	}
}

// No limit of a later layer holds of votes here: there may be any number.
func TestTreeOfManyVotes(t *testing.T) {
	var chains [][]impl.Item
	for e := 1; e <= impl.EpochMax; e++ {
		for _, p := range okPays() {
			chains = append(chains, []impl.Item{{Epoch: e, Pay: p}})
		}
	}
	every := join(allVotes(chains), votesUp(rowOf(1, impl.ChainMax), 1, 2, 3, 4)[4:])
	all := impl.TreeAll(every)
	wantChains(t, "all chains of one item", all[:len(chains)+1], append([][]impl.Item{nil}, chains...))
	if len(all) != len(chains)+impl.ChainMax || impl.TreeLong(every) != impl.ChainMax {
		t.Error("and one of ChainMax", len(all), impl.TreeLong(every))
	}
	wantSame(t, "final", impl.TreeFinal(every), rowOf(1, impl.ChainMax-1))
}

func TestTreeAllIsNewMemory(t *testing.T) {
	for _, votes := range someTrees() {
		want := sureChains(deepCopy(votes))
		list, stays := guardedVotes(t, votes)
		first, second := impl.TreeAll(list), impl.TreeAll(list)
		stays("all")
		for n := range first {
			spoil(first[n])
			wantChains(t, "the other chains of the answer", first[n+1:], want[n+1:])
			first[n] = nil
		}
		spoilWith(first, nil)
		stays("the answer is spoilt")
		wantChains(t, "the second one", second, want)
		spoilVotes(list)
		wantChains(t, "the argument is spoilt", second, want)
	}
}

// What is put behind one chain of TreeAll must not be seen in another one, nor an answer in a chain of one's own.
func TestTreeAllLeavesNoRoomInCommon(t *testing.T) {
	full := rowOf(1, impl.ChainMax)
	list := votesUp(full, 1, 2, 3)
	all := impl.TreeAll(list)
	for n := range all {
		all[n] = append(all[n], item(30, 3, 2, 1))
	}
	for n := range all {
		wantSame(t, "its own end", all[n], with(full[:n], item(30, 3, 2, 1)))
	}
	longer := append(impl.TreeTip(list), item(30, 3, 2, 1))
	wantSame(t, "tip", longer, with(full, item(30, 3, 2, 1)))
	wantSame(t, "the argument", full, rowOf(1, impl.ChainMax))
}

func TestTipAndFinalAreNewMemory(t *testing.T) {
	for _, answer := range []func(list []impl.Vote) []impl.Item{impl.TreeTip, impl.TreeFinal} {
		for _, votes := range someTrees() {
			want := slices.Clone(answer(votes))
			list, stays := guardedVotes(t, votes)
			first, second, all := answer(list), answer(list), impl.TreeAll(list)
			stays("asked")
			spoil(first)
			stays("the answer is spoilt")
			wantSame(t, "the second one", second, want)
			wantChains(t, "all", all, sureChains(votes))
			wantSame(t, "the third one", answer(list), want)
			spoilVotes(list)
			wantSame(t, "the argument is spoilt", second, want)
		}
	}
}

func TestTreeArgumentsStay(t *testing.T) {
	lists := edgeTrees()
	for _, v := range wrongVotes() {
		lists = append(lists, []impl.Vote{v}, []impl.Vote{vote(1, rowOf(1, 1)), v}, []impl.Vote{v, v})
	}
	chains := append(voteChains(), nil, []impl.Item{}, rowOf(1, 2))
	for _, c := range wrongChains() {
		chains = append(chains, c)
	}
	for _, votes := range lists {
		list, stays := guardedVotes(t, votes)
		for _, c := range chains {
			chain, all := guarded(c)
			was := slices.Clone(all)
			impl.TreeSure(list, chain)
			wantSame(t, "the chain", all, was)
		}
		impl.TreeAll(list)
		impl.TreeLong(list)
		impl.TreeTip(list)
		impl.TreeFinal(list)
		stays("the votes")
	}
}

// A map is gone through in another order each time: the answers are the same.
func TestSameTreeSameAnswer(t *testing.T) {
	var chains [][]impl.Item
	for e := 1; e <= 10; e++ {
		chains = append(chains, rowOf(e, 1), rowOf(e, 2), rowOf(e, 3))
	}
	for _, list := range [][]impl.Vote{allVotes(chains), drawOrder(newDraw(), allVotes(chains)), allVotes(voteChains())} {
		for range 200 {
			wantChains(t, "all", impl.TreeAll(list), sureChains(list))
			wantSame(t, "tip", impl.TreeTip(list), firstLongest(sureChains(list)))
			wantSame(t, "final", impl.TreeFinal(list), finalBy(list))
			if impl.TreeLong(list) != len(firstLongest(sureChains(list))) || impl.TreeSure(list, chains[2]) != sureBy(list, chains[2]) {
				t.Fatal("long, sure")
			}
		}
	}
}
