package tests

import (
	"math/rand/v2"
	"slices"
	"testing"

	"loop.example/witan/impl"
)

// fit says whether one of two begins the other.
func fit(a, b []impl.Item) bool {
	return begins(a, b) || begins(b, a)
}

// finals is what each node that is not bad holds for final.
func finals(w impl.World) [][]impl.Item {
	var all [][]impl.Item
	for _, n := range honest(w) {
		all = append(all, impl.TreeFinal(n.Seen))
	}
	return all
}

// agree says whether of what any two hold for final one begins the other.
func agree(w impl.World) bool {
	all := finals(w)
	for _, a := range all {
		for _, b := range all {
			if !fit(a, b) {
				return false
			}
		}
	}
	return true
}

// honestVotes are those that were sent by nodes that are not bad.
func honestVotes(w impl.World) []impl.Vote {
	return keep(w.Log, func(v impl.Vote) bool { return v.By != w.Bad })
}

// badVotes are the bad node's for all that votes were sent for, and may be behind that.
func badVotes(w impl.World) []impl.Vote {
	var more []impl.Vote
	for _, c := range asked(w.Log)[1:] {
		if v := vote(w.Bad, c); impl.VoteOk(v) && !among(w.Log, v) && !among(more, v) {
			more = append(more, v)
		}
	}
	return more
}

// drawnPays are so many that are ok.
func drawnPays(size int) []impl.Pay {
	r := newDraw()
	var pays []impl.Pay
	for range size {
		pays = append(pays, drawPay(r))
	}
	return pays
}

// roomFor says whether a world has room enough for so many calm epochs: epochs, items, and votes by all.
func roomFor(w impl.World, epochs int) bool {
	return w.Epoch+epochs <= impl.EpochMax && impl.TreeLong(w.Log)+epochs <= impl.ChainMax &&
		len(w.Log)+impl.NodeMax*epochs < min(impl.LogMax, impl.SeenMax)
}

// The drawn plays must be such that what is asked of them says something.
func TestDrawnPlaysAreWorthIt(t *testing.T) {
	t.Parallel()
	full, final, differ, forked, parted, needed, ahead := 0, 0, 0, 0, 0, 0, 0
	for _, p := range somePlays() {
		w := p.end()
		if len(p.events) == impl.PlayMax {
			full++
		}
		held := finals(w)
		if len(firstLongest(held)) > 0 {
			final++
		}
		if slices.ContainsFunc(held, func(c []impl.Item) bool { return len(c) != len(held[0]) }) {
			differ++
		}
		sure := sureChains(w.Log)
		if slices.ContainsFunc(sure, func(c []impl.Item) bool { return !begins(c, firstLongest(sure)) }) {
			forked++
		}
		if slices.ContainsFunc(sure[1:], func(c []impl.Item) bool { return len(nodesFor(honestVotes(w), c)) < impl.Quorum }) {
			needed++
		}
		votes := honestVotes(w)
		if slices.ContainsFunc(votes, func(v impl.Vote) bool {
			return lastEpoch(v.Chain) == lastEpoch(votes[0].Chain) && !slices.Equal(v.Chain, votes[0].Chain)
		}) {
			parted++
		}
		for at, e := range p.events {
			if e.Kind == impl.EvForge && lastEpoch(e.Vote.Chain) > p.worlds[at].Epoch && len(p.worlds[at+1].Log) > len(p.worlds[at].Log) {
				ahead++
			}
		}
	}
	if full < 100 || min(final, needed, ahead) < 50 || forked < 30 || min(differ, parted) < 10 {
		t.Fatal(full, final, differ, forked, parted, needed, ahead)
	}
}

func TestPromise73NeverTwo(t *testing.T) {
	t.Parallel()
	forAllPlayed(t, func(what string, w impl.World) {
		if !agree(w) {
			t.Fatal(what, "two are final", finals(w))
		}
	})
}

func TestPromise74NeverBack(t *testing.T) {
	t.Parallel()
	for at, p := range somePlays() {
		held := make([][]impl.Item, impl.NodeMax+1)
		var most []impl.Item
		for n, w := range p.worlds {
			for _, k := range honest(w) {
				now := impl.TreeFinal(k.Seen)
				if !begins(held[k.Id], now) {
					t.Fatal(playAt(at, n), "what it held does not begin what it holds", held[k.Id], now)
				}
				if !fit(most, now) {
					t.Fatal(playAt(at, n), "what any held does not fit", most, now)
				}
				if len(now) > len(most) {
					most = now
				}
				held[k.Id] = now
			}
		}
	}
}

func TestPromise75NothingIsLost(t *testing.T) {
	t.Parallel()
	paidOnce := 0
	forAllPlayed(t, func(what string, w impl.World) {
		books := map[int][]int{}
		for _, n := range honest(w) {
			book := impl.NodeBook(n)
			if len(book) != 3 || min(book[0], book[1], book[2]) < 0 || book[0]+book[1]+book[2] != 3*impl.BookStart {
				t.Fatal(what, "all together have what they had", book)
			}
			if !slices.Equal(book, impl.BookNew()) {
				paidOnce++
			}
			held := len(impl.TreeFinal(n.Seen))
			if other, had := books[held]; had {
				wantBook(t, what+": two that hold as much", book, other)
			}
			books[held] = book
		}
	})
	if paidOnce < 100 {
		t.Fatal("too few books in which anything was paid", paidOnce)
	}
}

func TestPromise76Once(t *testing.T) {
	t.Parallel()
	forAllEnds(t, func(what string, w impl.World) {
		type turn struct{ by, epoch int }
		voted := map[turn]impl.Vote{}
		for _, v := range honestVotes(w) {
			now := turn{v.By, lastEpoch(v.Chain)}
			if u, twice := voted[now]; twice || now.epoch > w.Epoch {
				t.Fatal(what, "two of one epoch, or of a later one", u, v)
			}
			voted[now] = v
		}
	})
}

func TestPromise77OneOfAnEpoch(t *testing.T) {
	t.Parallel()
	forAllEnds(t, func(what string, w impl.World) {
		enough := map[int][]impl.Item{}
		all := join(w.Log, badVotes(w))
		for _, v := range all {
			c, had := enough[lastEpoch(v.Chain)]
			if len(nodesFor(all, v.Chain)) < impl.Quorum {
				continue
			}
			if had && !slices.Equal(c, v.Chain) {
				t.Fatal(what, "enough voted for two of one epoch", c, v.Chain)
			}
			enough[lastEpoch(v.Chain)] = v.Chain
		}
	})
}

func TestPromise78ByAllThatWasSent(t *testing.T) {
	t.Parallel()
	forAllPlayed(t, func(what string, w impl.World) {
		by := impl.TreeFinal(w.Log)
		for _, c := range finals(w) {
			if !fit(by, c) || len(c) > len(by) {
				t.Fatal(what, "by all that was sent", by, "by a node", c)
			}
		}
	})
}

func TestPromise79NeverTwoToStrangers(t *testing.T) {
	t.Parallel()
	shown, more := 0, 0
	forAllEnds(t, func(what string, w impl.World) {
		for _, votes := range [][]impl.Vote{w.Log, join(w.Log, badVotes(w)), join(badVotes(w), turnedVotes(w.Log))} {
			c, ok := impl.CertOf(votes)
			if !ok {
				continue
			}
			shown++
			if len(impl.CertFinal(c)) > len(impl.TreeFinal(w.Log)) {
				more++
			}
			if !impl.WorldShown(w, c) {
				t.Fatal(what, "it can be shown", c)
			}
			for _, held := range finals(w) {
				if !fit(held, impl.CertFinal(c)) {
					t.Fatal(what, "a node holds", held, "a stranger is shown", c)
				}
			}
		}
	})
	if shown < 100 || more < 5 {
		t.Fatal("too few were shown", shown, more)
	}
}

// checkComesTo asks of a world with room enough what eight calm epochs make of it.
func checkComesTo(t *testing.T, what string, w impl.World) {
	t.Helper()
	pays := drawnPays(8)
	before := finals(w)
	held := finals(impl.WorldCalm(w, pays))
	most := len(firstLongest(before))
	for at, c := range held {
		wantSame(t, what+": all hold the same", c, held[0])
		if !begins(before[at], c) {
			t.Fatal(what, "what it held does not begin what it holds", before[at], c)
		}
	}
	if len(held[0]) <= most {
		t.Fatal(what, "no more is final", held[0])
	}
	if !slices.ContainsFunc(held[0][most:], func(i impl.Item) bool {
		return i.Epoch > w.Epoch && i.Pay == pays[i.Epoch-w.Epoch-1]
	}) {
		t.Fatal(what, "with none of these payments", held[0])
	}
}

func TestPromise81ComesToIt(t *testing.T) {
	t.Parallel()
	calmed := make([]int, impl.NodeMax+1)
	forAllEnds(t, func(what string, w impl.World) {
		if roomFor(w, 8) && calmed[w.Bad] < 60 {
			calmed[w.Bad]++
			checkComesTo(t, what, w)
		}
	})
	if slices.Min(calmed) < 40 {
		t.Fatal("too few with room enough", calmed)
	}
}

// forAllCalmed goes through the worlds in the end of each play, and some on the way, that have room enough, behind a calm epoch.
func forAllCalmed(t *testing.T, check func(what string, w impl.World)) {
	t.Helper()
	forAllEnds(t, func(what string, w impl.World) {
		if roomFor(w, 1) {
			check(what, impl.WorldCalm(w, drawnPays(1)))
		}
	})
}

func TestPromise85AllHaveSeenAll(t *testing.T) {
	t.Parallel()
	seen := 0
	forAllCalmed(t, func(what string, w impl.World) {
		for _, n := range honest(w) {
			if len(n.Seen) != len(w.Log) || slices.ContainsFunc(w.Log, func(v impl.Vote) bool { return !among(n.Seen, v) }) {
				t.Fatal(what, "has seen all that was sent, and no other", w.Log, n)
			}
			seen += len(n.Seen)
		}
	})
	if seen < 10000 {
		t.Fatal("too few were seen", seen)
	}
}

func TestPromise100OneBook(t *testing.T) {
	t.Parallel()
	final := 0
	forAllCalmed(t, func(what string, w impl.World) {
		held := finals(w)
		for at, n := range honest(w) {
			if len(held[at]) != len(held[0]) {
				t.Fatal(what, "all hold as much", held)
			}
			wantBook(t, what+": one book", impl.NodeBook(n), impl.NodeBook(honest(w)[0]))
		}
		if len(held[0]) > 0 {
			final++
		}
	})
	if final < 50 {
		t.Fatal("too few of which anything is final", final)
	}
}

// silentPlays are drawn without EvForge: the bad node says nothing.
func silentPlays() []play {
	var plays []play
	for n := range 40 {
		d := directorOf(rand.New(rand.NewPCG(90, uint64(n))), n%5)
		d.silent = true
		plays = append(plays, playOf(n%5, d.draw(impl.PlayMax)...))
	}
	return plays
}

func TestPromise90WithoutForged(t *testing.T) {
	t.Parallel()
	final := 0
	for at, p := range silentPlays() {
		if slices.ContainsFunc(p.events, func(e impl.Event) bool { return e.Kind == impl.EvForge }) {
			t.Fatal("forged", p.events)
		}
		for n, w := range p.worlds {
			if !agree(w) {
				t.Fatal(playAt(at, n), "all agree", finals(w))
			}
		}
		w := p.end()
		if len(honestVotes(w)) != len(w.Log) {
			t.Fatal(playAt(at, len(p.events)), "a vote of the bad node", w.Log)
		}
		if len(firstLongest(finals(w))) > 0 {
			final++
		}
	}
	if final < 5 {
		t.Fatal("too few of which anything is final", final)
	}
}

// onlyOf is the events that are so, of which no play has more than all.
func onlyOf(events []impl.Event, so func(e impl.Event) bool) []impl.Event {
	return slices.DeleteFunc(slices.Clone(events), func(e impl.Event) bool { return !so(e) })
}

func TestPromise91ForgedAlone(t *testing.T) {
	t.Parallel()
	sent := 0
	for at, p := range somePlays() {
		events := onlyOf(p.events, func(e impl.Event) bool { return e.Kind == impl.EvTick || e.Kind == impl.EvForge })
		for _, v := range badVotes(p.end()) {
			if len(events) < impl.PlayMax {
				events = append(events, forge(v))
			}
		}
		w, _ := impl.WorldPlay(p.bad, events)
		sent += len(w.Log)
		if all := impl.TreeAll(w.Log); len(all) != 1 || len(all[0]) != 0 {
			t.Fatal(playAt(at, len(events)), "sure", all)
		}
		wantWorld(t, "no node sees anything", w, worldIn(w.Epoch, p.bad, w.Log...))
	}
	if sent < 1000 {
		t.Fatal("too few votes", sent)
	}
}

func TestPromise92WithoutBringing(t *testing.T) {
	t.Parallel()
	own := 0
	for at, p := range somePlays() {
		events := onlyOf(p.events, func(e impl.Event) bool { return e.Kind != impl.EvBring })
		for epoch := 1; len(events)+3 <= impl.PlayMax; epoch++ {
			events = append(events, propose(1+epoch%4, pay(1, 2, 1)), tick(), propose(1+(epoch+1)%4, pay(3, 2, 1)))
		}
		w, _ := impl.WorldPlay(p.bad, events)
		for _, n := range w.Nodes {
			own += len(n.Seen)
			if slices.ContainsFunc(n.Seen, func(v impl.Vote) bool { return v.By != n.Id }) {
				t.Fatal(playAt(at, len(events)), "has seen another one's", n)
			}
			wantSame(t, "nothing is final by a node", impl.TreeFinal(n.Seen), nil)
		}
		wantSame(t, "nothing is final", impl.TreeFinal(w.Log), nil)
	}
	if own < 500 {
		t.Fatal("too few votes", own)
	}
}

func TestPromise93SeenWasSent(t *testing.T) {
	t.Parallel()
	forAllEnds(t, func(what string, w impl.World) {
		for _, n := range honest(w) {
			for _, v := range n.Seen {
				if !among(w.Log, v) {
					t.Fatal(what, "was not sent", n, v)
				}
			}
			isOwn := func(v impl.Vote) bool { return v.By == n.Id }
			wantVotes(t, what+": its own are those of it that were sent", keep(n.Seen, isOwn), keep(w.Log, isOwn))
		}
	})
}

func TestPromise94AllAheadIsSure(t *testing.T) {
	t.Parallel()
	ahead := 0
	forAllEnds(t, func(what string, w impl.World) {
		for _, v := range honestVotes(w) {
			if !impl.TreeSure(w.Log, v.Chain[:len(v.Chain)-1]) {
				t.Fatal(what, "all ahead is sure", w.Log, v)
			}
			ahead += len(v.Chain) - 1
		}
	})
	if ahead < 1000 {
		t.Fatal("too little ahead", ahead)
	}
}

// forAllSure goes through all chains but nothing that are sure by all that was sent, in the end of each play, and some on the way.
func forAllSure(t *testing.T, check func(what string, w impl.World, c []impl.Item)) {
	t.Helper()
	sure := 0
	forAllEnds(t, func(what string, w impl.World) {
		for _, c := range impl.TreeAll(w.Log)[1:] {
			sure++
			check(what, w, c)
		}
	})
	if sure < 1000 {
		t.Fatal("too few sure chains", sure)
	}
}

func TestPromise95EpochsHaveBegun(t *testing.T) {
	t.Parallel()
	forAllSure(t, func(what string, w impl.World, c []impl.Item) {
		if lastEpoch(c) > w.Epoch || len(c) > w.Epoch {
			t.Fatal(what, "its epochs have begun, it is no longer", w.Epoch, c)
		}
	})
}

func TestPromise96TheLeaderVotedToo(t *testing.T) {
	t.Parallel()
	forAllSure(t, func(what string, w impl.World, c []impl.Item) {
		if !among(w.Log, vote(impl.VoteLeader(lastEpoch(c)), c)) {
			t.Fatal(what, "the leader did not", w.Log, c)
		}
	})
}

func TestPromise97Nodes(t *testing.T) {
	t.Parallel()
	forAllPlayed(t, func(what string, w impl.World) {
		for at, n := range w.Nodes {
			if !impl.NodeOk(n) || n.Id != at+1 || n.Epoch != w.Epoch {
				t.Fatal(what, "is ok, in the world's epoch", w.Epoch, n)
			}
			if n.Id == w.Bad && (len(n.Seen) > 0 || n.Voted != 0) {
				t.Fatal(what, "the bad one has seen nothing", n)
			}
		}
		if len(w.Nodes) != impl.NodeMax || !impl.WorldOk(w) {
			t.Fatal(what, "all are there", w)
		}
	})
}

func TestPromise98EachCanShow(t *testing.T) {
	t.Parallel()
	shown := 0
	forAllEnds(t, func(what string, w impl.World) {
		var all [][]impl.Item
		for _, n := range honest(w) {
			final := impl.TreeFinal(n.Seen)
			c, ok := impl.CertOf(n.Seen)
			if ok != (len(final) > 0) || impl.WorldShown(w, c) != ok {
				t.Fatal(what, "what it holds it can show", final, c, ok)
			}
			if ok {
				all = append(all, impl.CertFinal(c))
				wantSame(t, what+": it shows what it holds", impl.CertFinal(c), final)
			}
		}
		shown += len(all)
		for _, a := range all {
			for _, b := range all {
				if !fit(a, b) {
					t.Fatal(what, "what two show fits", a, b)
				}
			}
		}
	})
	if shown < 200 {
		t.Fatal("too few could", shown)
	}
}

func TestPromise99AllBroughtToOne(t *testing.T) {
	t.Parallel()
	more := 0
	for at, p := range somePlays() {
		w := p.end()
		behind := w
		for place := range w.Log {
			behind = impl.WorldDo(behind, bring(place, honestIn(p.bad)[at%3]))
		}
		for id, held := range finals(w) {
			now := finals(behind)[id]
			if !begins(held, now) {
				t.Fatal(playAt(at, len(p.events)), "holds what it held, or more", held, now)
			}
			if len(now) > len(held) {
				more++
			}
		}
	}
	if more < 10 {
		t.Fatal("too few hold more", more)
	}
}

func TestPromise101NoMoreThanEpochs(t *testing.T) {
	t.Parallel()
	forAllPlayed(t, func(what string, w impl.World) {
		sent := map[int]int{}
		for _, v := range honestVotes(w) {
			sent[v.By]++
			if sent[v.By] > w.Epoch {
				t.Fatal(what, "more than there were epochs", v.By, w.Log)
			}
		}
	})
}

func TestPromise102TheLeadersVote(t *testing.T) {
	t.Parallel()
	forAllPlayed(t, func(what string, w impl.World) {
		for _, v := range honestVotes(w) {
			if !among(w.Log, vote(impl.VoteLeader(lastEpoch(v.Chain)), v.Chain)) {
				t.Fatal(what, "none of the leader was sent", v, w.Log)
			}
		}
	})
}
