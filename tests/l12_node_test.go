package tests

import (
	"math"
	"math/rand/v2"
	"slices"
	"testing"

	"loop.example/witan/impl"
)

func node(id, epoch, voted int, seen []impl.Vote) impl.Node {
	return impl.Node{Id: id, Epoch: epoch, Voted: voted, Seen: seen}
}

// newNode is one that is in that epoch, and has seen nothing.
func newNode(id, epoch int) impl.Node {
	n, _ := impl.NodeNew(id)
	return impl.NodeEnter(n, epoch)
}

func withSeen(n impl.Node, votes ...impl.Vote) impl.Node {
	n.Seen = join(n.Seen, votes)
	return n
}

func sameNode(a, b impl.Node) bool {
	return a.Id == b.Id && a.Epoch == b.Epoch && a.Voted == b.Voted && slices.EqualFunc(a.Seen, b.Seen, same)
}

func copyOfNode(n impl.Node) impl.Node {
	return node(n.Id, n.Epoch, n.Voted, deepCopy(n.Seen))
}

func lastEpoch(c []impl.Item) int {
	if len(c) == 0 {
		return 0
	}
	return c[len(c)-1].Epoch
}

// answer is what NodePropose and NodeHear answer.
type answer struct {
	node impl.Node
	vote impl.Vote
	told bool
}

func proposed(n impl.Node, p impl.Pay) answer {
	behind, v, told := impl.NodePropose(n, p)
	return answer{behind, v, told}
}

func heard(n impl.Node, v impl.Vote) answer {
	behind, own, told := impl.NodeHear(n, v)
	return answer{behind, own, told}
}

// hearAll is what is answered of the last of these votes, all being heard in turn.
func hearAll(n impl.Node, votes ...impl.Vote) answer {
	a := answer{node: n}
	for _, v := range votes {
		a = heard(a.node, v)
	}
	return a
}

func stays(n impl.Node) answer {
	return answer{node: n}
}

// seeing is a node that stays but for what it has seen more.
func seeing(n impl.Node, votes ...impl.Vote) answer {
	return stays(withSeen(n, votes...))
}

// voting is a node that has seen so much more, and then voted.
func voting(n impl.Node, c []impl.Item, votes ...impl.Vote) answer {
	own := vote(n.Id, c)
	n = withSeen(withSeen(n, votes...), own)
	n.Voted = n.Epoch
	return answer{n, own, true}
}

func wantNode(t *testing.T, what string, got, want impl.Node) {
	t.Helper()
	if !sameNode(got, want) {
		t.Fatalf("%s: got %v, want %v", what, got, want)
	}
}

func wantAnswer(t *testing.T, what string, got, want answer) {
	t.Helper()
	wantNode(t, what, got.node, want.node)
	if !same(got.vote, want.vote) || got.told != want.told {
		t.Fatalf("%s: got %v %v, want %v %v", what, got.vote, got.told, want.vote, want.told)
	}
}

// leads, proposedBy, fitsBy and heardBy tell by another way than the program's, of nodes that are ok.
func leads(epoch int) int {
	return []int{4, 1, 2, 3}[epoch%4]
}

func votedBy(n impl.Node, c []impl.Item) answer {
	if len(n.Seen) >= 80 {
		return stays(n)
	}
	return voting(n, c)
}

func proposedBy(n impl.Node, p impl.Pay) answer {
	c := with(firstLongest(sureChains(n.Seen)), impl.Item{Epoch: n.Epoch, Pay: p})
	if n.Epoch == 0 || n.Epoch == n.Voted || leads(n.Epoch) != n.Id || !impl.ChainOk(c) {
		return stays(n)
	}
	return votedBy(n, c)
}

func fitsBy(n impl.Node, v impl.Vote) bool {
	ahead := v.Chain[:len(v.Chain)-1]
	return v.By == leads(n.Epoch) && lastEpoch(v.Chain) == n.Epoch &&
		len(ahead) == len(firstLongest(sureChains(n.Seen))) && sureBy(n.Seen, ahead)
}

func heardBy(n impl.Node, v impl.Vote) answer {
	if !impl.VoteOk(v) || v.By == n.Id || len(n.Seen) >= 80 {
		return stays(n)
	}
	if !among(n.Seen, v) {
		n = withSeen(n, v)
	}
	if n.Epoch == 0 || n.Epoch == n.Voted {
		return stays(n)
	}
	for _, u := range n.Seen {
		if fitsBy(n, u) {
			return votedBy(n, u.Chain)
		}
	}
	return stays(n)
}

// fillers are votes that are never sure, and never fit, as nobody is for what is ahead of their last items.
func fillers(by, size int) []impl.Vote {
	var list []impl.Vote
	pays := okPays()
	for n := range size {
		list = append(list, vote(by, []impl.Item{{Epoch: 29, Pay: pays[n/len(pays)]}, {Epoch: 30, Pay: pays[n%len(pays)]}}))
	}
	return list
}

// filled is the node with so many votes seen, those more being by another one.
func filled(n impl.Node, size int) impl.Node {
	for _, v := range fillers(n.Id%impl.NodeMax+1, 2*impl.SeenMax) {
		if len(n.Seen) < size && !among(n.Seen, v) {
			n = withSeen(n, v)
		}
	}
	return n
}

// leaderVotes are by the leader of an epoch, for an item of it behind each sure chain, and behind some that are not sure.
func leaderVotes(list []impl.Vote, epoch int) []impl.Vote {
	var votes []impl.Vote
	for n, c := range append(sureChains(list), asked(list)...) {
		c = with(c, item(epoch, 1, 2, 1+n%9))
		if v := vote(leads(epoch), c); impl.VoteOk(v) && !among(votes, v) {
			votes = append(votes, v)
		}
	}
	return votes
}

// drawNode has seen a tree, and mostly some that the leader of its epoch is for.
func drawNode(r *rand.Rand) impl.Node {
	list := drawTree(r)
	epoch := lastEpoch(firstLongest(sureChains(list))) + r.IntN(3)
	if r.IntN(8) == 0 {
		epoch = r.IntN(impl.EpochMax + 1)
	}
	n := node(1+r.IntN(impl.NodeMax), epoch, max(0, epoch-[]int{0, 1, 1, 1, 2}[r.IntN(5)]), nil)
	if most := leaderVotes(list, epoch); epoch > 0 && len(most) > 0 {
		for _, v := range drawOrder(r, most)[:r.IntN(min(3, len(most))+1)] {
			if !among(list, v) {
				list = slices.Insert(list, r.IntN(len(list)+1), v)
			}
		}
	}
	n.Seen = keep(list, func(v impl.Vote) bool { return v.By != n.Id || lastEpoch(v.Chain) <= n.Voted })
	if r.IntN(6) == 0 {
		n = filled(n, impl.SeenMax-r.IntN(3))
	}
	return n
}

// edgeNodes are ok: the edges that the document names.
func edgeNodes() []impl.Node {
	full := votesUp(rowOf(1, impl.ChainMax), 2, 3, 4)
	one := rowOf(1, 1)
	return []impl.Node{
		node(1, 0, 0, nil),
		node(impl.NodeMax, 0, 0, []impl.Vote{}),
		node(1, 1, 0, nil),
		node(1, 1, 1, nil),
		node(1, 1, 1, votesOf(one, 1)),
		node(2, 1, 0, votesOf(one, 1)),
		node(2, 1, 0, votesOf(one, 3, 4)),
		node(2, impl.EpochMax, impl.EpochMax-1, nil),
		node(2, impl.EpochMax, impl.EpochMax, votesOf(rowOf(30, 1), 2)),
		node(4, impl.EpochMax, 0, votesOf(rowOf(30, 1), 2)),
		node(1, 17, 0, full),
		node(1, 17, 16, full),
		node(3, 18, 16, join(full, votesOf(rowAt(18), 2))),
		node(2, 2, 1, votesUp(rowOf(1, 4), 1, 3, 4)),
		filled(node(1, 1, 0, nil), impl.SeenMax-2),
		filled(node(1, 1, 0, nil), impl.SeenMax-1),
		filled(node(1, 1, 0, nil), impl.SeenMax),
		filled(node(4, 1, 0, votesOf(one, 1)), impl.SeenMax-1),
		filled(node(4, 1, 0, votesOf(one, 1)), impl.SeenMax),
		filled(node(4, 0, 0, nil), impl.SeenMax),
	}
}

// someNodes are ok: the edges, and drawn ones.
func someNodes() []impl.Node {
	nodes := edgeNodes()
	r := newDraw()
	for range 300 {
		nodes = append(nodes, drawNode(r))
	}
	return nodes
}

// someHeard are votes that a node may hear: such as lack, such as the leader gives, such as it has seen, and such as are none.
func someHeard(r *rand.Rand, n impl.Node) []impl.Vote {
	votes := drawOrder(r, allVotes(asked(n.Seen)[1:]))
	votes = slices.Concat(votes[:min(12, len(votes))], []impl.Vote{{}, vote(n.Id, rowOf(1, 1)), vote(0, rowOf(1, 1)), vote(1, nil)})
	if len(n.Seen) > 0 {
		votes = append(votes, n.Seen[0], n.Seen[len(n.Seen)-1], n.Seen[r.IntN(len(n.Seen))])
	}
	if n.Epoch > 0 {
		most := leaderVotes(n.Seen, n.Epoch)
		votes = append(votes, most[:min(2, len(most))]...)
		votes = append(votes, drawOrder(r, most)[:min(4, len(most))]...)
	}
	return votes
}

// forAllHeard goes through some nodes, and what they may hear.
func forAllHeard(check func(n impl.Node, v impl.Vote)) {
	r := newDraw()
	for _, n := range someNodes() {
		for _, v := range someHeard(r, n) {
			check(n, v)
		}
	}
}

// wrongNodes are just not ok, each for one reason.
func wrongNodes() map[string]impl.Node {
	list := votesUp(rowOf(1, 3), 1, 3, 4)
	wrong := map[string]impl.Node{
		"nothing":                   {},
		"no node":                   node(0, 1, 0, nil),
		"one node too many":         node(impl.NodeMax+1, 1, 0, nil),
		"a node below 0":            node(-1, 1, 0, nil),
		"the least node":            node(math.MinInt, 1, 0, nil),
		"the greatest node":         node(math.MaxInt, 1, 0, nil),
		"node 1 and 2 of 32":        node(1<<32+1, 1, 0, nil),
		"no node that saw":          node(0, 3, 0, list),
		"epoch below 0":             node(1, -1, 0, nil),
		"epoch, voted below 0":      node(1, -1, -1, nil),
		"epoch, voted far below 0":  node(1, -1, -2, nil),
		"epoch past the last":       node(1, impl.EpochMax+1, 0, nil),
		"epoch, voted past":         node(1, impl.EpochMax+1, impl.EpochMax+1, nil),
		"epoch, voted in the last":  node(2, impl.EpochMax+1, impl.EpochMax, list),
		"the least epoch":           node(1, math.MinInt, 0, nil),
		"the greatest epoch":        node(1, math.MaxInt, 0, nil),
		"voted below 0":             node(1, 1, -1, nil),
		"voted below 0, in none":    node(1, 0, -1, nil),
		"voted later than epoch":    node(1, 1, 2, nil),
		"voted later, in none":      node(2, 0, 1, nil),
		"voted later, in the last":  node(2, impl.EpochMax, impl.EpochMax+1, list),
		"voted, the least":          node(1, 1, math.MinInt, nil),
		"voted, the greatest":       node(1, 1, math.MaxInt, nil),
		"one too many seen":         node(1, 1, 0, fillers(2, impl.SeenMax+1)),
		"far too many seen":         node(1, 1, 0, fillers(2, 5*impl.SeenMax)),
		"seen twice":                node(2, 3, 0, join(list, list[:1])),
		"own vote later than voted": node(1, 5, 2, list),
		"own vote, voted never":     node(3, 1, 0, votesOf(rowOf(1, 1), 3)),
		"own vote of a later epoch": node(4, 3, 3, join(list, votesOf(rowOf(4, 1), 4))),
		"own vote, long, later":     node(2, 9, 5, join(list, votesOf(rowAt(1, 2, 6), 2))),
		"own vote later, the first": node(2, 9, 5, join(votesOf(rowAt(1, 2, 6), 2), votesOf(rowAt(5), 2), list)),
		"own vote later, between":   node(2, 9, 5, join(votesOf(rowAt(5), 2), votesOf(rowAt(6), 2), votesOf(rowAt(4), 2))),
	}
	for why, v := range wrongVotes() {
		wrong["seen, not in form: "+why] = node(2, 4, 0, join(list[:2], []impl.Vote{v}))
	}
	return wrong
}

func TestSeenMaxIsTheDocuments(t *testing.T) {
	if impl.SeenMax != 80 {
		t.Fatal(impl.SeenMax)
	}
}

func TestNodeIsTheDocuments(t *testing.T) {
	forAllHeard(func(n impl.Node, v impl.Vote) {
		wantAnswer(t, "heard", heard(n, v), heardBy(n, v))
	})
	r := newDraw()
	for _, n := range someNodes() {
		for _, p := range []impl.Pay{pay(1, 2, 1), pay(3, 2, 9), drawPay(r)} {
			wantAnswer(t, "proposed", proposed(n, p), proposedBy(n, p))
		}
		wantBook(t, "book", impl.NodeBook(n), bookBehind(finalBy(n.Seen)))
	}
}

// The drawn nodes must be such that what is asked of them says something.
func TestDrawnNodesAreWorthIt(t *testing.T) {
	given, late, again, full, proposals, finals := 0, 0, 0, 0, 0, 0
	forAllHeard(func(n impl.Node, v impl.Vote) {
		a := heardBy(n, v)
		if !a.told {
			if impl.VoteOk(v) && len(a.node.Seen) == impl.SeenMax && len(n.Seen) < impl.SeenMax {
				full++
			}
			return
		}
		given++
		if !slices.Equal(a.vote.Chain, v.Chain) {
			late++
		}
		if among(n.Seen, v) {
			again++
		}
	})
	for _, n := range someNodes() {
		if proposedBy(n, pay(1, 2, 1)).told {
			proposals++
		}
		finals += len(finalBy(n.Seen)) / 2
	}
	if min(given, late, again, full, finals) < 50 || proposals < 20 {
		t.Fatal(given, late, again, full, proposals, finals)
	}
}

func TestPromise45NewNode(t *testing.T) {
	for _, id := range oddNodes() {
		n, ok := impl.NodeNew(id)
		if id < 1 || id > impl.NodeMax {
			if ok {
				t.Error("is none", id)
			}
			wantNode(t, "nothing", n, impl.Node{})
			continue
		}
		if !ok || !impl.NodeOk(n) {
			t.Fatal("is ok", id)
		}
		wantNode(t, "new", n, node(id, 0, 0, nil))
		if len(impl.TreeFinal(n.Seen)) != 0 {
			t.Error("something is final", id)
		}
		wantBook(t, "new", impl.NodeBook(n), []int{9, 9, 9})
		for _, p := range okPays() {
			wantAnswer(t, "cannot propose", proposed(n, p), stays(n))
		}
	}
}

func TestNodeOk(t *testing.T) {
	for _, n := range someNodes() {
		if !impl.NodeOk(n) {
			t.Fatal("is ok", n)
		}
	}
	for id := 1; id <= impl.NodeMax; id++ {
		for epoch := 0; epoch <= impl.EpochMax; epoch++ {
			for _, voted := range oddNodes() {
				if impl.NodeOk(node(id, epoch, voted, nil)) != (0 <= voted && voted <= epoch) {
					t.Error("voted 0 to the epoch", id, epoch, voted)
				}
			}
		}
	}
	for _, odd := range oddNodes() {
		if impl.NodeOk(node(odd, 7, 3, nil)) != (1 <= odd && odd <= impl.NodeMax) {
			t.Error("node", odd)
		}
		if impl.NodeOk(node(2, odd, 0, nil)) != (0 <= odd && odd <= impl.EpochMax) {
			t.Error("epoch", odd)
		}
	}
	for size, ok := range map[int]bool{0: true, 1: true, impl.SeenMax - 1: true, impl.SeenMax: true, impl.SeenMax + 1: false} {
		if impl.NodeOk(node(3, 2, 1, fillers(4, size))) != ok {
			t.Error("seen", size)
		}
	}
}

// Of each vote by itself the last item counts; of those by others none.
func TestOwnVotesUpToVoted(t *testing.T) {
	for id := 1; id <= impl.NodeMax; id++ {
		for voted := range impl.EpochMax + 1 {
			for last := 1; last <= impl.EpochMax; last++ {
				chains := [][]impl.Item{rowAt(last)}
				if last > 2 {
					chains = append(chains, rowAt(1, 2, last))
				}
				for _, c := range chains {
					own := join(votesOf(rowOf(30, 1), id%impl.NodeMax+1), votesOf(c, id))
					if impl.NodeOk(node(id, impl.EpochMax, voted, own)) != (last <= voted) {
						t.Fatal("its own", id, voted, c)
					}
					if !impl.NodeOk(node(id, voted, voted, votesOf(c, id%impl.NodeMax+1))) {
						t.Fatal("another one's", id, voted, c)
					}
				}
			}
		}
	}
}

func TestNodesThatAreNotOk(t *testing.T) {
	votes := []impl.Vote{{}, vote(1, rowOf(1, 1)), vote(2, rowOf(2, 1)), vote(4, rowOf(1, 3)), vote(0, nil)}
	for why, n := range wrongNodes() {
		if impl.NodeOk(n) {
			t.Error("is not ok:", why)
		}
		for _, epoch := range []int{n.Epoch, math.MinInt, -1, 0, 1, 6, impl.EpochMax, impl.EpochMax + 1} {
			wantNode(t, "entered: "+why, impl.NodeEnter(n, epoch), impl.Node{})
		}
		for _, p := range []impl.Pay{pay(1, 2, 1), pay(3, 1, 9), {}, pay(1, 1, 1)} {
			wantAnswer(t, "proposed: "+why, proposed(n, p), answer{})
		}
		for _, v := range slices.Concat(votes, n.Seen[:min(3, len(n.Seen))]) {
			wantAnswer(t, "heard: "+why, heard(n, v), answer{})
		}
		wantBook(t, "book: "+why, impl.NodeBook(n), nil)
	}
}

func TestPaymentsThatAreNotOk(t *testing.T) {
	for _, n := range append(edgeNodes(), newNode(1, 1), newNode(2, 30)) {
		for _, p := range wrongPays() {
			wantAnswer(t, "nothing of no payment", proposed(n, p), answer{})
		}
	}
}

func TestPromise46Enter(t *testing.T) {
	for _, n := range append(edgeNodes(), someNodes()[20:80]...) {
		for _, epoch := range oddNodes() {
			want := n
			if epoch > n.Epoch && epoch <= impl.EpochMax {
				want.Epoch = epoch
			}
			got := impl.NodeEnter(n, epoch)
			wantNode(t, "entered", got, want)
			if !impl.NodeOk(got) {
				t.Fatal("is ok", got)
			}
		}
	}
}

func TestEnterEdges(t *testing.T) {
	none, first, last := newNode(3, 0), newNode(3, 1), newNode(3, impl.EpochMax)
	for what, got := range map[string][2]int{
		"the first epoch":              {impl.NodeEnter(none, 1).Epoch, 1},
		"no epoch":                     {impl.NodeEnter(none, 0).Epoch, 0},
		"below 0":                      {impl.NodeEnter(none, -1).Epoch, 0},
		"the last at once":             {impl.NodeEnter(none, 30).Epoch, 30},
		"one behind the last":          {impl.NodeEnter(none, 31).Epoch, 0},
		"the same":                     {impl.NodeEnter(first, 1).Epoch, 1},
		"back to none":                 {impl.NodeEnter(first, 0).Epoch, 1},
		"the next":                     {impl.NodeEnter(first, 2).Epoch, 2},
		"the last again":               {impl.NodeEnter(last, 30).Epoch, 30},
		"one behind the last, from it": {impl.NodeEnter(last, 31).Epoch, 30},
		"an earlier one":               {impl.NodeEnter(last, 29).Epoch, 30},
	} {
		if got[0] != got[1] {
			t.Error(what, got[0], got[1])
		}
	}
	voted := node(1, 1, 1, votesOf(rowOf(1, 1), 1))
	wantNode(t, "what was voted stays", impl.NodeEnter(voted, 5), node(1, 5, 1, voted.Seen))
}

func TestPromise47Propose(t *testing.T) {
	r := newDraw()
	for _, n := range someNodes() {
		p := drawPay(r)
		a := proposed(n, p)
		if !a.told {
			continue
		}
		if n.Epoch == 0 || impl.VoteLeader(n.Epoch) != n.Id || n.Voted == n.Epoch {
			t.Fatal("is the leader, and voted in no such epoch", n)
		}
		wantSame(t, "behind the tip", a.vote.Chain, with(impl.TreeTip(n.Seen), impl.Item{Epoch: n.Epoch, Pay: p}))
		if a.vote.By != n.Id || !impl.NodeOk(a.node) {
			t.Fatal("by itself, and ok", a)
		}
		wantNode(t, "one vote more", a.node, voting(n, a.vote.Chain).node)
		wantAnswer(t, "the same again", proposed(a.node, p), stays(a.node))
		wantAnswer(t, "another one", proposed(a.node, drawPay(r)), stays(a.node))
	}
}

func TestProposeEdges(t *testing.T) {
	p := pay(3, 1, 7)
	for epoch := 1; epoch <= impl.EpochMax; epoch++ {
		for id := 1; id <= impl.NodeMax; id++ {
			n, c := newNode(id, epoch), []impl.Item{{Epoch: epoch, Pay: p}}
			want := stays(n)
			if id == leads(epoch) {
				want = voting(n, c)
			}
			wantAnswer(t, "the leader alone", proposed(n, p), want)
			n.Voted = epoch
			wantAnswer(t, "voted as late as that", proposed(n, p), stays(n))
			n.Voted = epoch - 1
			if want.told {
				want = voting(n, c)
			} else {
				want = stays(n)
			}
			wantAnswer(t, "voted one less", proposed(n, p), want)
		}
	}
	full := votesUp(rowOf(1, impl.ChainMax), 2, 3, 4)
	n := node(1, 17, 0, full)
	wantAnswer(t, "nothing fits behind a full chain", proposed(n, p), stays(n))
	n.Seen = votesUp(rowOf(1, impl.ChainMax-1), 2, 3, 4)
	wantAnswer(t, "one fits", proposed(n, p), voting(n, with(rowOf(1, impl.ChainMax-1), impl.Item{Epoch: 17, Pay: p})))
	n = node(1, 5, 0, votesUp(rowAt(1, 5), 2, 3, 4))
	wantAnswer(t, "the tip is of the epoch", proposed(n, p), stays(n))
	n.Seen = votesUp(rowAt(1, 9), 2, 3, 4)
	wantAnswer(t, "the tip is of a later epoch", proposed(n, p), stays(n))
	n.Seen = join(votesUp(rowAt(2, 4), 2, 3, 4), votesUp(rowAt(1, 3), 2, 3, 4))
	wantAnswer(t, "of two tips the first", proposed(n, p), voting(n, with(rowAt(2, 4), impl.Item{Epoch: 5, Pay: p})))
}

func TestProposeWithAndWithoutRoom(t *testing.T) {
	p := pay(2, 3, 4)
	for size := impl.SeenMax - 3; size < impl.SeenMax; size++ {
		n := filled(newNode(1, 1), size)
		a := proposed(n, p)
		wantAnswer(t, "room", a, voting(n, []impl.Item{{Epoch: 1, Pay: p}}))
		if !impl.NodeOk(a.node) {
			t.Fatal("is ok", size)
		}
	}
	n := filled(newNode(1, 1), impl.SeenMax)
	wantAnswer(t, "no room", proposed(n, p), stays(n))
	n = impl.NodeEnter(n, 5)
	wantAnswer(t, "no room later on", proposed(n, p), stays(n))
}

func TestPromise48WhatTheLeaderIsFor(t *testing.T) {
	forAllHeard(func(n impl.Node, v impl.Vote) {
		a := heard(n, v)
		if !a.told {
			return
		}
		if n.Epoch == 0 || n.Voted == n.Epoch || a.node.Voted != n.Epoch || a.vote.By != n.Id {
			t.Fatal("had voted in no such epoch", n, a)
		}
		seen := a.node.Seen[:len(a.node.Seen)-1]
		ahead := a.vote.Chain[:len(a.vote.Chain)-1]
		if !among(seen, vote(impl.VoteLeader(n.Epoch), a.vote.Chain)) {
			t.Fatal("the leader is for it", n, a)
		}
		if lastEpoch(a.vote.Chain) != n.Epoch || !impl.TreeSure(seen, ahead) || len(ahead) != impl.TreeLong(seen) {
			t.Fatal("of the epoch, behind a longest sure one", n, a)
		}
	})
}

// What cannot be voted for, each for one reason, and beside it what can.
func TestHearEdges(t *testing.T) {
	c := rowOf(1, 2)
	sure := votesUp(c, 1, 2, 4)
	next, other := with(c, item(5, 1, 2, 3)), with(c, item(5, 2, 1, 3))
	n := node(3, 5, 4, sure)
	wantAnswer(t, "fits", heard(n, vote(1, next)), voting(n, next, vote(1, next)))
	for what, v := range map[string]impl.Vote{
		"another than the leader": vote(2, next),
		"an earlier epoch":        vote(1, with(c, item(4, 1, 2, 3))),
		"a later epoch":           vote(1, with(c, item(6, 1, 2, 3))),
		"the next leader's epoch": vote(1, with(c, item(9, 1, 2, 3))),
		"behind a shorter one":    vote(1, with(c[:1], item(5, 1, 2, 3))),
		"behind nothing":          vote(1, rowAt(5)),
		"ahead of it not sure":    vote(1, rowAt(1, 3, 5)),
		"ahead of it too long":    vote(1, rowAt(1, 2, 4, 5)),
		"the epoch is not last":   vote(1, rowAt(1, 5, 6)),
	} {
		wantAnswer(t, what, heard(n, v), seeing(n, v))
	}
	for voted, want := range map[int]answer{3: voting(node(3, 5, 3, sure), next, vote(1, next)), 5: seeing(node(3, 5, 5, sure), vote(1, next))} {
		wantAnswer(t, "voted so late", heard(node(3, 5, voted, sure), vote(1, next)), want)
	}
	both := []impl.Vote{vote(1, other), vote(1, next)}
	n = node(3, 5, 4, join(sure, both))
	wantAnswer(t, "of two the first, the second heard", heard(n, both[1]), voting(n, other))
	wantAnswer(t, "of two the first, the first heard", heard(n, both[0]), voting(n, other))
	n = node(3, 5, 4, join(turnedVotes(both), sure))
	wantAnswer(t, "of two the first, ahead of what is sure", heard(n, both[0]), voting(n, next))
	unfit := vote(1, with(c[:1], item(5, 1, 2, 3)))
	n = node(3, 5, 4, join(votesOf(unfit.Chain, 1), sure))
	wantAnswer(t, "of two the first that fits", heard(n, both[0]), voting(n, other, both[0]))
}

func TestHearInEachEpoch(t *testing.T) {
	for epoch := range impl.EpochMax + 1 {
		for id := 1; id <= impl.NodeMax; id++ {
			for by := 1; by <= impl.NodeMax; by++ {
				n := newNode(id, epoch)
				c := rowAt(max(1, epoch))
				want := seeing(n, vote(by, c))
				if by == id {
					want = stays(n)
				} else if epoch > 0 && by == leads(epoch) {
					want = voting(n, c, vote(by, c))
				}
				wantAnswer(t, "the leader, being another one, alone", heard(n, vote(by, c)), want)
			}
		}
	}
}

// What is sure with the vote that is heard is as long as any sure one, so that nothing ahead of it is.
func TestWhatIsSureAlreadyIsNotVotedFor(t *testing.T) {
	c := rowOf(1, 1)
	n := newNode(4, 1)
	wantAnswer(t, "the leader is the third", hearAll(n, votesOf(c, 2, 3, 1)...), seeing(n, votesOf(c, 2, 3, 1)...))
	wantAnswer(t, "the leader is the second", hearAll(n, votesOf(c, 2, 1)...), voting(n, c, votesOf(c, 2, 1)...))
}

func TestPromise49Once(t *testing.T) {
	r := newDraw()
	forAllHeard(func(n impl.Node, v impl.Vote) {
		a := heard(n, v)
		if n.Voted == n.Epoch && a.told {
			t.Fatal("voted in its epoch", n, v)
		}
		if !a.told {
			return
		}
		behind := a.node
		for _, u := range drawOrder(r, append(someHeard(r, behind), v, a.vote)) {
			b := heard(behind, u)
			if b.told || b.node.Voted != n.Epoch || len(keep(b.node.Seen, func(v impl.Vote) bool { return v.By == n.Id && lastEpoch(v.Chain) == n.Epoch })) != 1 {
				t.Fatal("a second vote", behind, u)
			}
			behind = b.node
		}
		if proposed(behind, pay(1, 2, 1)).told {
			t.Fatal("proposed behind its vote", behind)
		}
	})
}

// Who proposed has voted, and does not vote for what is heard then.
func TestOnceAlsoOfTheLeader(t *testing.T) {
	n := proposed(newNode(1, 1), pay(1, 2, 1)).node
	for by := 2; by <= impl.NodeMax; by++ {
		v := vote(by, rowOf(1, 1))
		wantAnswer(t, "proposed", heard(n, v), seeing(n, v))
	}
	n = node(1, 5, 4, votesOf(rowOf(1, 1), 2, 3, 4))
	wantAnswer(t, "the leader hears of its own epoch", heard(n, vote(2, rowAt(1, 5))), seeing(n, vote(2, rowAt(1, 5))))
}

func TestPromise50AllThatWasSeen(t *testing.T) {
	forAllHeard(func(n impl.Node, v impl.Vote) {
		a := heard(n, v)
		if !impl.NodeOk(a.node) || a.node.Id != n.Id || a.node.Epoch != n.Epoch {
			t.Fatal("is ok, in its epoch", n, v)
		}
		more := a.node.Seen[len(n.Seen):]
		wantVotes(t, "all that was seen", a.node.Seen[:len(n.Seen)], n.Seen)
		if impl.VoteOk(v) && v.By != n.Id && len(n.Seen) < impl.SeenMax {
			if !among(a.node.Seen, v) {
				t.Fatal("what was heard", n, v)
			}
			if !among(n.Seen, v) {
				wantVotes(t, "what was heard, first", more[:1], []impl.Vote{v})
				more = more[1:]
			}
		}
		if a.told {
			wantVotes(t, "and its own", more, []impl.Vote{a.vote})
		} else if len(more) > 0 || a.node.Voted != n.Voted || !same(a.vote, impl.Vote{}) {
			t.Fatal("more than that", n, v, a)
		}
	})
}

func TestHearWithAndWithoutRoom(t *testing.T) {
	c := rowOf(1, 1)
	v := vote(1, c)
	n := filled(newNode(4, 1), impl.SeenMax-2)
	wantAnswer(t, "room for both", heard(n, v), voting(n, c, v))
	n = filled(newNode(4, 1), impl.SeenMax-1)
	wantAnswer(t, "none for its own", heard(n, v), seeing(n, v))
	n = heard(n, v).node
	wantAnswer(t, "none, heard again", heard(n, v), stays(n))
	wantAnswer(t, "none, another heard", heard(n, vote(2, c)), stays(n))
	n = filled(node(4, 1, 0, votesOf(c, 1)), impl.SeenMax-1)
	wantAnswer(t, "among them: room for its own", heard(n, v), voting(n, c))
	wantAnswer(t, "among them: another one takes the room", heard(n, vote(2, c)), seeing(n, vote(2, c)))
	n = filled(node(4, 1, 0, votesOf(c, 1)), impl.SeenMax)
	wantAnswer(t, "among them: no room", heard(n, v), stays(n))
	wantAnswer(t, "no room for anything", heard(n, vote(3, c)), stays(n))
	n = filled(newNode(4, 0), impl.SeenMax-1)
	wantAnswer(t, "the last one, in no epoch", heard(n, v), seeing(n, v))
}

func TestPromise51OnceMore(t *testing.T) {
	forAllHeard(func(n impl.Node, v impl.Vote) {
		a := heard(n, v)
		if a.node.Voted == a.node.Epoch {
			wantAnswer(t, "once more", heard(a.node, v), stays(a.node))
			wantAnswer(t, "and again", hearAll(a.node, v, v), stays(a.node))
		}
	})
}

func TestPromise52Book(t *testing.T) {
	paidOnce := 0
	for _, n := range someNodes() {
		book := impl.NodeBook(n)
		wantBook(t, "of what is final", book, impl.BookOf(impl.TreeFinal(n.Seen)))
		if !impl.BookOk(book) {
			t.Fatal("is ok", n, book)
		}
		if !slices.Equal(book, impl.BookNew()) {
			paidOnce++
		}
	}
	if paidOnce < 50 {
		t.Fatal("too few books in which anything was paid", paidOnce)
	}
	c := []impl.Item{item(1, 1, 2, 5), item(2, 2, 3, 9), item(3, 1, 2, 4), item(4, 3, 1, 1)}
	n := node(4, 3, 0, votesUp(c[:2], 1, 2, 3))
	wantBook(t, "nothing final", impl.NodeBook(n), []int{9, 9, 9})
	n.Seen = votesUp(c[:3], 1, 2, 3)
	wantBook(t, "two final", impl.NodeBook(n), []int{4, 5, 18})
	n.Seen = votesUp(c, 1, 2, 3)
	wantBook(t, "three final", impl.NodeBook(n), []int{0, 9, 18})
}

func TestPromise53ChangesNothing(t *testing.T) {
	r := newDraw()
	for _, n := range someNodes() {
		chains := append([][]impl.Item{rowOf(1, 1), rowAt(max(1, n.Epoch))}, asked(n.Seen)[2:]...)
		for range 6 {
			c := chains[r.IntN(len(chains))]
			wantAnswer(t, "as if by itself", heard(n, vote(n.Id, c)), stays(n))
			wantAnswer(t, "by nobody", heard(n, vote(0, c)), stays(n))
			wantAnswer(t, "by one too many", heard(n, vote(impl.NodeMax+1, c)), stays(n))
		}
		for by := range impl.NodeMax + 2 {
			wantAnswer(t, "for nothing", heard(n, vote(by, nil)), stays(n))
		}
	}
}

// Even of a node that would vote for what it has seen, whatever else it heard.
func TestNoVoteInFormGivesNoVote(t *testing.T) {
	n := impl.NodeEnter(heard(newNode(4, 0), vote(1, rowOf(1, 1))).node, 1)
	wantAnswer(t, "another vote", heard(n, vote(2, rowAt(7))), voting(n, rowOf(1, 1), vote(2, rowAt(7))))
	for why, v := range wrongVotes() {
		wantAnswer(t, why, heard(n, v), stays(n))
	}
	for _, c := range [][]impl.Item{rowOf(1, 1), rowAt(7), nil} {
		wantAnswer(t, "as if by itself", heard(n, vote(n.Id, c)), stays(n))
	}
}

func TestPromise54OfItsEpoch(t *testing.T) {
	forAllHeard(func(n impl.Node, v impl.Vote) {
		if a := heard(n, v); a.told && lastEpoch(a.vote.Chain) != n.Epoch {
			t.Fatal("of its epoch", n, v, a)
		}
	})
}

func TestPromise54NotOfAnotherThanTheLeader(t *testing.T) {
	r := newDraw()
	for _, n := range someNodes() {
		leader := impl.VoteLeader(n.Epoch)
		n.Seen = keep(n.Seen, func(u impl.Vote) bool { return u.By != leader || lastEpoch(u.Chain) != n.Epoch })
		votes := votesOf(with(impl.TreeTip(n.Seen), item(n.Epoch, 1, 2, 8)), 1, 2, 3, 4)
		for _, v := range append(votes, someHeard(r, n)...) {
			if v.By != leader && heard(n, v).told {
				t.Fatal("another than the leader alone", n, v)
			}
		}
	}
}

// ofEarlier is the node without all that it has seen of its epoch, and with room for two votes.
func ofEarlier(n impl.Node) impl.Node {
	n.Seen = keep(n.Seen, func(v impl.Vote) bool {
		return !slices.ContainsFunc(v.Chain, func(i impl.Item) bool { return i.Epoch == n.Epoch })
	})
	n.Seen = n.Seen[:min(len(n.Seen), impl.SeenMax-2)]
	n.Voted = min(n.Voted, max(0, n.Epoch-1))
	return n
}

func TestPromise55BehindTheTip(t *testing.T) {
	votes := 0
	for _, n := range someNodes() {
		n = ofEarlier(n)
		c := with(impl.TreeTip(n.Seen), item(n.Epoch, 2, 3, 6))
		leader := impl.VoteLeader(n.Epoch)
		if n.Epoch == 0 || leader == n.Id || !impl.ChainOk(c) {
			continue
		}
		votes++
		wantAnswer(t, "behind the tip", heard(n, vote(leader, c)), voting(n, c, vote(leader, c)))
		few := filled(n, impl.SeenMax-1)
		wantAnswer(t, "no room", heard(few, vote(leader, c)), seeing(few, vote(leader, c)))
	}
	if votes < 100 {
		t.Fatal("too few", votes)
	}
}

func TestPromise56NotBehindAShorterOne(t *testing.T) {
	shorter := 0
	for _, n := range someNodes() {
		n = ofEarlier(n)
		leader := impl.VoteLeader(n.Epoch)
		for _, c := range impl.TreeAll(n.Seen) {
			v := vote(leader, with(c, item(n.Epoch, 2, 3, 6)))
			if len(c) == impl.TreeLong(n.Seen) || leader == n.Id || !impl.VoteOk(v) {
				continue
			}
			shorter++
			wantAnswer(t, "behind a shorter one", heard(n, v), seeing(n, v))
		}
	}
	if shorter < 100 {
		t.Fatal("too few", shorter)
	}
}

func TestPromise57FinalIsNoShorter(t *testing.T) {
	forAllHeard(func(n impl.Node, v impl.Vote) {
		if len(impl.TreeFinal(heard(n, v).node.Seen)) < len(impl.TreeFinal(n.Seen)) {
			t.Fatal("shorter", n, v)
		}
	})
	for _, n := range someNodes() {
		for _, epoch := range []int{0, 1, n.Epoch, n.Epoch + 1, impl.EpochMax, impl.EpochMax + 1} {
			wantSame(t, "entered", impl.TreeFinal(impl.NodeEnter(n, epoch).Seen), impl.TreeFinal(n.Seen))
		}
	}
}

func TestPromise58EnterTwice(t *testing.T) {
	for _, n := range append(edgeNodes(), someNodes()[20:40]...) {
		for later := 1; later <= impl.EpochMax; later++ {
			for _, first := range []int{1, 2, n.Epoch, later / 2, later - 1, later} {
				if first <= later {
					wantNode(t, "the later one", impl.NodeEnter(impl.NodeEnter(n, first), later), impl.NodeEnter(n, later))
				}
			}
		}
	}
}

func TestPromise59FalseChangesNothing(t *testing.T) {
	r := newDraw()
	for _, n := range someNodes() {
		p := drawPay(r)
		if a := proposed(n, p); !a.told {
			wantAnswer(t, "false", a, stays(n))
		}
		for id := 1; id <= impl.NodeMax; id++ {
			m := node(id, n.Epoch, n.Voted, keep(n.Seen, func(v impl.Vote) bool { return v.By != id }))
			if id != impl.VoteLeader(n.Epoch) {
				wantAnswer(t, "not the leader", proposed(m, p), stays(m))
			}
			m.Epoch, m.Voted = 0, 0
			wantAnswer(t, "in no epoch", proposed(m, p), stays(m))
		}
	}
}

// A vote that comes ahead of what makes it fit is seen, and voted for when that is heard.
func TestVoteAheadOfWhatMakesItFit(t *testing.T) {
	c := rowOf(1, 3)
	next := with(c, item(5, 1, 2, 3))
	up := votesUp(c, 1, 2, 4)
	for lacking := range up {
		n := node(3, 5, 4, without(up, lacking))
		wantAnswer(t, "ahead", heard(n, vote(1, next)), seeing(n, vote(1, next)))
		n = heard(n, vote(1, next)).node
		for _, v := range []impl.Vote{vote(1, next), vote(2, next), vote(2, rowAt(9)), vote(2, next[:2])} {
			if !same(v, up[lacking]) && heard(n, v).told {
				t.Fatal("what was missing is missing", up[lacking], v)
			}
		}
		wantAnswer(t, "what was missing", heard(n, up[lacking]), voting(n, next, up[lacking]))
	}
	n := newNode(3, 5)
	a := heard(n, vote(1, next))
	for at, v := range turnedVotes(up) {
		if a.told {
			t.Fatal("told too early", at)
		}
		a = heard(a.node, v)
	}
	wantAnswer(t, "all was missing, the last first", a, voting(n, next, join(votesOf(next, 1), turnedVotes(up))...))
}

// What was behind a longest sure chain when it came need not be so when the epoch has begun.
func TestVoteAheadOfItsEpoch(t *testing.T) {
	c, d := rowOf(1, 1), rowOf(2, 1)
	two, behind := vote(2, d), vote(2, rowOf(1, 2))
	n := hearAll(newNode(4, 1), two, behind).node
	wantNode(t, "seen in the epoch ahead", n, withSeen(newNode(4, 1), two, behind))
	n = impl.NodeEnter(n, 2)
	wantAnswer(t, "heard again in its own", heard(n, two), voting(n, d))
	wantAnswer(t, "the other heard again: the first fits", heard(n, behind), voting(n, d))
	wantAnswer(t, "another is heard", heard(n, vote(3, c)), voting(n, d, vote(3, c)))
	late := impl.NodeEnter(n, 3)
	wantAnswer(t, "its epoch is over", heard(late, two), stays(late))
	sure := withSeen(node(4, 2, 1, n.Seen), votesOf(c, 1, 3)...)
	wantAnswer(t, "the tip is another one by now", heard(sure, vote(2, c)), voting(sure, rowOf(1, 2), vote(2, c)))
}

// Four that hear all at once make each payment but the last final, until nothing fits behind the chain.
func TestFourNodesThatHearAll(t *testing.T) {
	var nodes []impl.Node
	for id := 1; id <= impl.NodeMax; id++ {
		nodes = append(nodes, newNode(id, 0))
	}
	for epoch := 1; epoch <= impl.ChainMax; epoch++ {
		for i := range nodes {
			nodes[i] = impl.NodeEnter(nodes[i], epoch)
		}
		row := rowOf(epoch, 1)
		a := proposed(nodes[leads(epoch)-1], row[0].Pay)
		nodes[leads(epoch)-1] = a.node
		votes := []impl.Vote{a.vote}
		for at := 0; at < len(votes); at++ {
			for i := range nodes {
				a := heard(nodes[i], votes[at])
				nodes[i] = a.node
				if a.told {
					votes = append(votes, a.vote)
				}
			}
		}
		if len(votes) != impl.NodeMax {
			t.Fatal("all vote", epoch, votes)
		}
		size := epoch - 1
		if epoch < 3 {
			size = 0
		}
		for i := range nodes {
			wantSame(t, "final", impl.TreeFinal(nodes[i].Seen), rowOf(1, size))
			wantBook(t, "book", impl.NodeBook(nodes[i]), bookBehind(rowOf(1, size)))
		}
	}
	n := impl.NodeEnter(nodes[0], impl.ChainMax+1)
	wantAnswer(t, "nothing fits behind a full chain", proposed(n, pay(1, 2, 1)), stays(n))
	m := impl.NodeEnter(nodes[1], impl.ChainMax+1)
	short := vote(1, with(rowOf(1, impl.ChainMax-1), item(17, 1, 2, 1)))
	wantAnswer(t, "nor is what is shorter voted for", heard(m, short), seeing(m, short))
	wantAnswer(t, "nor what is longer seen", heard(m, vote(1, rowOf(1, impl.ChainMax+1))), stays(m))
}

// guardedNode is a copy of the node with room behind all its lists, and a check that all of that stayed.
func guardedNode(t *testing.T, n impl.Node) (impl.Node, func(what string)) {
	seen, stays := guardedVotes(t, n.Seen)
	return node(n.Id, n.Epoch, n.Voted, seen), stays
}

// checkOwnMemory spoils, one by one, all lists of an answer: the others stay.
func checkOwnMemory(t *testing.T, what string, a answer) {
	t.Helper()
	was := answer{copyOfNode(a.node), impl.Vote{By: a.vote.By, Chain: slices.Clone(a.vote.Chain)}, a.told}
	spoil(a.vote.Chain)
	wantNode(t, what+": the vote that is told is spoilt", a.node, was.node)
	copy(a.vote.Chain, was.vote.Chain)
	for n := range a.node.Seen {
		spoil(a.node.Seen[n].Chain)
		copy(a.node.Seen[n].Chain, was.node.Seen[n].Chain)
		wantAnswer(t, what+": a chain of what was seen is spoilt", a, was)
	}
	spoilVotes(a.node.Seen)
	wantSame(t, what+": all that was seen is spoilt", a.vote.Chain, was.vote.Chain)
}

func TestHearIsNewMemory(t *testing.T) {
	forAllHeard(func(n impl.Node, v impl.Vote) {
		given, stays := guardedNode(t, n)
		one, oneStays := guardedVotes(t, []impl.Vote{v})
		first, second := heard(given, one[0]), heard(given, one[0])
		stays("heard")
		oneStays("heard")
		want := heardBy(copyOfNode(n), deepCopy([]impl.Vote{v})[0])
		checkOwnMemory(t, "heard", first)
		stays("the answer is spoilt")
		oneStays("the answer is spoilt")
		wantAnswer(t, "the second one", second, want)
		spoilVotes(given.Seen)
		spoilVotes(one)
		wantAnswer(t, "the arguments are spoilt", second, want)
	})
}

func TestProposeIsNewMemory(t *testing.T) {
	for _, n := range someNodes() {
		given, stays := guardedNode(t, n)
		first, second := proposed(given, pay(2, 1, 3)), proposed(given, pay(2, 1, 3))
		stays("proposed")
		want := proposedBy(copyOfNode(n), pay(2, 1, 3))
		checkOwnMemory(t, "proposed", first)
		stays("the answer is spoilt")
		wantAnswer(t, "the second one", second, want)
		spoilVotes(given.Seen)
		wantAnswer(t, "the argument is spoilt", second, want)
	}
}

func TestEnterAndBookAreNewMemory(t *testing.T) {
	for _, n := range someNodes() {
		given, stays := guardedNode(t, n)
		for _, epoch := range []int{0, n.Epoch, n.Epoch + 1, impl.EpochMax + 1} {
			want := copyOfNode(impl.NodeEnter(n, epoch))
			first, second := impl.NodeEnter(given, epoch), impl.NodeEnter(given, epoch)
			stays("entered")
			checkOwnMemory(t, "entered", answer{node: first})
			stays("the answer is spoilt")
			wantNode(t, "the second one", second, want)
		}
		entered := impl.NodeEnter(given, impl.EpochMax)
		first, second := impl.NodeBook(given), impl.NodeBook(given)
		spoilWith(first, -99)
		stays("the book is spoilt")
		wantBook(t, "the second book", second, bookBehind(finalBy(n.Seen)))
		spoilVotes(given.Seen)
		wantVotes(t, "the argument is spoilt", entered.Seen, n.Seen)
		wantBook(t, "the argument is spoilt", second, bookBehind(finalBy(n.Seen)))
	}
}

// Chains of what was seen may share their memory, and that of what is heard; those of the answer do not.
func TestNodesOfSharedMemory(t *testing.T) {
	full := rowOf(1, impl.ChainMax)
	n := node(4, 5, 0, votesUp(full[:4], 1, 2, 3))
	v := vote(1, full[:5])
	a := heard(n, v)
	wantAnswer(t, "of shared memory", a, voting(node(4, 5, 0, votesUp(rowOf(1, 4), 1, 2, 3)), rowOf(1, 5), vote(1, rowOf(1, 5))))
	checkOwnMemory(t, "heard", a)
	wantSame(t, "the argument", full, rowOf(1, impl.ChainMax))
	n = node(1, 5, 0, votesUp(full[:4], 2, 3, 4))
	checkOwnMemory(t, "proposed", proposed(n, pay(3, 2, 9)))
	checkOwnMemory(t, "entered", answer{node: impl.NodeEnter(n, 9)})
	checkOwnMemory(t, "stays", heard(n, v))
	wantSame(t, "the argument", full, rowOf(1, impl.ChainMax))
}

// What is put behind an answer must not be seen in another answer, or in the argument.
func TestNodesLeaveNoRoomInCommon(t *testing.T) {
	n := heard(newNode(2, 1), vote(1, rowOf(1, 1))).node
	was := copyOfNode(n)
	a, b := heard(n, vote(3, rowOf(1, 1))).node, heard(n, vote(4, rowOf(1, 1))).node
	e := impl.NodeEnter(n, 2)
	e.Seen = append(e.Seen, vote(4, rowAt(9)))
	wantNode(t, "the argument", n, was)
	wantNode(t, "the first", a, withSeen(was, vote(3, rowOf(1, 1))))
	wantNode(t, "the second", b, withSeen(was, vote(4, rowOf(1, 1))))
	fresh, _ := impl.NodeNew(1)
	other, _ := impl.NodeNew(1)
	fresh.Seen = append(fresh.Seen, vote(2, rowOf(1, 1)))
	wantNode(t, "new", other, node(1, 0, 0, nil))
}

func TestNodeArgumentsStay(t *testing.T) {
	for why, n := range wrongNodes() {
		given, stays := guardedNode(t, n)
		one, oneStays := guardedVotes(t, votesOf(rowOf(1, 2), 3))
		impl.NodeOk(given)
		impl.NodeEnter(given, 7)
		impl.NodePropose(given, pay(1, 2, 1))
		impl.NodeHear(given, one[0])
		impl.NodeBook(given)
		stays(why)
		oneStays(why)
	}
	for why, v := range wrongVotes() {
		one, oneStays := guardedVotes(t, []impl.Vote{v})
		for _, n := range edgeNodes() {
			given, stays := guardedNode(t, n)
			wantAnswer(t, why, heard(given, one[0]), answer{node: n})
			stays(why)
		}
		oneStays(why)
	}
}

// A map is gone through in another order each time: the answers are the same.
func TestSameNodeSameAnswer(t *testing.T) {
	r := newDraw()
	for _, n := range someNodes()[15:40] {
		for _, v := range someHeard(r, n) {
			want := heardBy(n, v)
			for range 20 {
				wantAnswer(t, "heard", heard(n, v), want)
			}
		}
	}
}
