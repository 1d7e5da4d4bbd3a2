package tests

import (
	"math"
	"math/rand/v2"
	"slices"
	"strconv"
	"sync"
	"testing"

	"loop.example/witan/impl"
)

// worldIn is a world of that epoch, in which so much was sent, and no node has seen anything.
func worldIn(epoch, bad int, log ...impl.Vote) impl.World {
	return withLog(inEpoch(newWorld(bad), epoch), log...)
}

// seenBy is the world with one node that has seen so many votes more.
func seenBy(w impl.World, id int, votes ...impl.Vote) impl.World {
	n := w.Nodes[id-1]
	n.Seen = deepCopy(join(n.Seen, votes))
	return withNode(w, n)
}

// allSeen is the world with all that was sent seen by all that are not bad, each having voted in the last epoch that it voted for.
func allSeen(w impl.World) impl.World {
	for _, id := range honestIn(w.Bad) {
		w = seenBy(w, id, w.Log...)
		n := w.Nodes[id-1]
		for _, v := range n.Seen {
			if v.By == id {
				n.Voted = max(n.Voted, lastEpoch(v.Chain))
			}
		}
		w = withNode(w, n)
	}
	return w
}

// fullLog is the world with so many votes sent; those more are never sure.
func fullLog(w impl.World, by, size int) impl.World {
	w = copyOfWorld(w)
	for _, v := range fillers(by, 2*impl.LogMax) {
		if len(w.Log) < size && !among(w.Log, v) {
			w.Log = append(w.Log, v)
		}
	}
	return w
}

// edgeWorlds are ok: the edges that the document names.
func edgeWorlds() []impl.World {
	rows := votesUp(rowOf(1, 3), 1, 3, 4)
	first := votesOf(rowOf(1, 1), 1)
	three := allSeen(worldIn(4, 2, rows...))
	worlds := []impl.World{
		worldIn(impl.EpochMax-1, 2),
		worldIn(impl.EpochMax, 0),
		worldIn(impl.EpochMax, impl.NodeMax),
		worldIn(1, 1, vote(1, rowOf(1, 1)), vote(1, rowAt(5))),
		worldIn(1, 0, first...),
		worldIn(1, 2, first...),
		worldIn(1, 2, votesOf(rowOf(1, 1), 4, 3, 1)...),
		seenBy(worldIn(1, 3), 2, vote(3, rowOf(1, 1))),
		seenBy(worldIn(1, 3, first...), 4, vote(3, rowOf(1, 1)), vote(1, rowOf(1, 1)), vote(3, rowAt(7))),
		seenBy(worldIn(6, 3, rows...), 3, rows[0]),
		withNode(worldIn(6, 3, rows...), node(3, 6, 6, votesOf(rowAt(6), 3))),
		three,
		inEpoch(three, 5),
		inEpoch(three, impl.EpochMax),
		allSeen(worldIn(17, 4, votesUp(rowOf(1, impl.ChainMax), 1, 2, 3)...)),
		allSeen(worldIn(17, 4, votesUp(rowOf(1, impl.ChainMax-1), 1, 2, 3)...)),
	}
	for bad := 0; bad <= impl.NodeMax; bad++ {
		w := newWorld(bad)
		worlds = append(worlds, w, inEpoch(w, 1), fullLog(inEpoch(w, 1), 1, impl.LogMax))
	}
	for lacking := range 5 {
		worlds = append(worlds, fullLog(worldIn(1, 4, first...), 4, impl.LogMax-lacking))
		worlds = append(worlds, fullLog(three, 2, impl.LogMax-lacking))
		full := seenBy(worldIn(1, 4), 1, fillers(4, impl.SeenMax-lacking)...)
		worlds = append(worlds, full, seenBy(withLog(full, first...), 3, fillers(4, impl.SeenMax-lacking)...))
	}
	return worlds
}

// drawSeen is what a node has seen of votes, and more by the bad node, in any order, and when it voted last.
func drawSeen(r *rand.Rand, id, epoch, bad int, votes []impl.Vote) impl.Node {
	list := drawOrder(r, votes)
	if r.IntN(2) == 0 {
		list = votes
	}
	list = list[:len(list)-r.IntN(len(list)/(1+r.IntN(3))+1)]
	if bad != 0 && bad != id {
		for _, c := range voteChains()[:r.IntN(4)] {
			if v := vote(bad, c); !among(list, v) {
				list = append(slices.Clone(list), v)
			}
		}
	}
	n := node(id, epoch, max(0, epoch-r.IntN(3)), nil)
	n.Seen = deepCopy(keep(list, func(v impl.Vote) bool { return v.By != id || lastEpoch(v.Chain) <= n.Voted }))
	if bad != 0 && bad != id && r.IntN(8) == 0 {
		for _, v := range fillers(bad, impl.SeenMax-r.IntN(3)) {
			if len(n.Seen) < impl.SeenMax && !among(n.Seen, v) {
				n.Seen = append(n.Seen, v)
			}
		}
	}
	return n
}

// drawWorld is ok, also where no play comes to it.
func drawWorld(r *rand.Rand) impl.World {
	list := drawTree(r)
	bad := r.IntN(impl.NodeMax + 1)
	epoch := min(impl.EpochMax, lastEpoch(firstLongest(sureChains(list)))+1+r.IntN(2))
	for _, v := range leaderVotes(list, epoch) {
		if !among(list, v) && r.IntN(4) == 0 {
			list = append(list, v)
		}
	}
	w := worldIn(epoch, bad, list[:min(len(list), impl.LogMax)]...)
	for id := range impl.NodeMax {
		w.Nodes[id] = drawSeen(r, id+1, epoch, bad, w.Log)
	}
	if r.IntN(6) == 0 {
		w = fullLog(w, 1+r.IntN(impl.NodeMax), impl.LogMax-r.IntN(4))
	}
	return w
}

// someWorlds are ok: the edges, drawn ones, and such as plays come to.
var someWorlds = sync.OnceValue(func() []impl.World {
	worlds := edgeWorlds()
	r := newDraw()
	for range 80 {
		worlds = append(worlds, drawWorld(r))
	}
	for n := range 40 {
		worlds = append(worlds, doneBy(newWorld(n%5), drawPlay(r, n%5, 10+n)...))
	}
	return worlds
})

// someForged are votes that a bad node may send, or just not.
func someForged(r *rand.Rand, w impl.World) []impl.Vote {
	votes := []impl.Vote{{}, vote(w.Bad, nil), vote(w.Bad, rowOf(1, impl.ChainMax)), vote(w.Bad, rowOf(1, impl.ChainMax+1))}
	for by := -1; by <= impl.NodeMax+1; by++ {
		votes = append(votes, vote(by, drawChain(r)), vote(by, with(impl.TreeTip(w.Log), item(max(1, w.Epoch), 1, 3, 5))))
	}
	for _, v := range drawOrder(r, w.Log)[:min(3, len(w.Log))] {
		votes = append(votes, v, vote(w.Bad, v.Chain))
	}
	return votes
}

// someEvents are of all kinds, such as can be, and such as cannot.
func someEvents(r *rand.Rand, w impl.World) []impl.Event {
	events := []impl.Event{{}, tick(), {Kind: -1}, {Kind: 5}, drawEvent(r, w), drawEvent(r, w)}
	for id := -1; id <= impl.NodeMax+1; id++ {
		events = append(events, propose(id, drawPay(r)), bring(-1, id), bring(len(w.Log), id))
		for range min(4, len(w.Log)) {
			events = append(events, bring(r.IntN(len(w.Log)), id))
		}
	}
	for _, v := range someForged(r, w) {
		events = append(events, forge(v))
	}
	return events
}

// forAllDone goes through some worlds, and what may happen in them.
func forAllDone(check func(w impl.World, e impl.Event)) {
	r := newDraw()
	for _, w := range someWorlds() {
		for _, e := range someEvents(r, w) {
			check(w, e)
		}
	}
}

// wrongWorlds are just not ok, each for one reason.
func wrongWorlds() map[string]impl.World {
	rows := votesUp(rowOf(1, 3), 1, 3, 4)
	good := allSeen(worldIn(4, 2, rows...))
	wrong := map[string]impl.World{
		"nothing":                  {},
		"no nodes":                 {Epoch: 4, Log: rows, Bad: 2},
		"nodes that are nothing":   {Nodes: make([]impl.Node, impl.NodeMax)},
		"one too many nodes":       {Epoch: 4, Nodes: append(copyOfWorld(good).Nodes, newNode(impl.NodeMax+1, 4)), Log: rows, Bad: 2},
		"one node twice, behind":   {Epoch: 4, Nodes: append(copyOfWorld(good).Nodes, newNode(impl.NodeMax, 4)), Log: rows, Bad: 2},
		"far too many nodes":       {Epoch: 4, Nodes: slices.Repeat(good.Nodes, 50), Log: rows, Bad: 2},
		"no bad one, what it told": seenBy(worldIn(1, 0), 2, vote(3, rowOf(1, 1))),
		"another is bad":           seenBy(worldIn(1, 4), 2, vote(3, rowOf(1, 1))),
		"itself is bad":            seenBy(worldIn(1, 2), 2, vote(3, rowOf(1, 1))),
	}
	for _, bad := range []int{-1, impl.NodeMax + 1, -2, math.MinInt, math.MaxInt, 1<<32 + 1, 1 << 32} {
		w := copyOfWorld(good)
		w.Bad = bad
		wrong["bad: "+strconv.Itoa(bad)] = w
	}
	for _, epoch := range []int{-1, impl.EpochMax + 1, math.MinInt, math.MaxInt, 1 << 32} {
		wrong["all in epoch: "+strconv.Itoa(epoch)] = worldIn(epoch, 2)
		w := copyOfWorld(good)
		w.Epoch = epoch
		wrong["epoch: "+strconv.Itoa(epoch)] = w
	}
	for _, epoch := range []int{0, 1, 3, 5, impl.EpochMax} {
		w := copyOfWorld(good)
		w.Epoch = epoch
		wrong["epoch, not the nodes': "+strconv.Itoa(epoch)] = w
	}
	addWrongNodes(wrong, good)
	addWrongSeen(wrong, good)
	addWrongLogs(wrong, good)
	return wrong
}

func addWrongNodes(wrong map[string]impl.World, good impl.World) {
	for at := range impl.NodeMax {
		id := strconv.Itoa(at + 1)
		w := copyOfWorld(good)
		w.Nodes = slices.Delete(w.Nodes, at, at+1)
		wrong["no node "+id] = w
		w = copyOfWorld(good)
		w.Nodes[at].Epoch++
		wrong["in a later epoch: "+id] = w
		w = copyOfWorld(good)
		w.Nodes[at] = newNode(at+1, 3)
		wrong["in an earlier epoch: "+id] = w
		w = copyOfWorld(good)
		w.Nodes[at].Voted = 5
		wrong["voted later: "+id] = w
		w = copyOfWorld(good)
		w.Nodes[at] = newNode((at+1)%impl.NodeMax+1, 4)
		wrong["another twice: "+id] = w
		w = copyOfWorld(good)
		w.Nodes[at] = impl.Node{}
		wrong["nothing for: "+id] = w
		for other := range at {
			w = copyOfWorld(good)
			w.Nodes[at], w.Nodes[other] = w.Nodes[other], w.Nodes[at]
			wrong["out of order: "+id+" "+strconv.Itoa(other+1)] = w
		}
	}
	for why, n := range wrongNodes() {
		if n.Id >= 1 && n.Id <= impl.NodeMax {
			wrong["node: "+why] = withNode(withLog(inEpoch(good, n.Epoch), n.Seen...), n)
			wrong["node, what it saw by the bad one: "+why] = withNode(worldIn(n.Epoch, n.Id%impl.NodeMax+1), n)
		}
	}
}

// addWrongSeen adds worlds in which a node has seen a vote that is neither of Log nor by Bad, who is 2.
func addWrongSeen(wrong map[string]impl.World, good impl.World) {
	last := len(good.Log) - 1
	strange := map[string]impl.Vote{
		"for what others are for": good.Log[last],
		"one more item":           vote(3, rowOf(1, 4)),
		"one less item ahead":     vote(1, rowAt(2)),
		"another sum":             vote(4, []impl.Item{item(1, 2, 3, 3)}),
		"another way":             vote(4, []impl.Item{item(1, 3, 2, 2)}),
		"of a later epoch":        vote(1, rowAt(1, 3)),
		"of its own epoch":        vote(3, rowAt(4)),
	}
	for why, v := range strange {
		for id := 1; id <= impl.NodeMax; id++ {
			w := withLog(inEpoch(newWorld(good.Bad), 4), good.Log[:last]...)
			w.Nodes[id-1].Voted = 4
			wrong["seen: "+why+", by "+strconv.Itoa(id)] = seenBy(w, id, v)
			wrong["seen, behind what was sent: "+why+", by "+strconv.Itoa(id)] = seenBy(allSeen(w), id, v)
		}
	}
	for at := range good.Log {
		w := copyOfWorld(good)
		w.Log = without(w.Log, at)
		wrong["seen: one was not sent: "+strconv.Itoa(at)] = w
	}
	wrong["seen: nothing was sent"] = withLog(good)
}

func addWrongLogs(wrong map[string]impl.World, good impl.World) {
	wrong["log: one too many"] = fullLog(good, 3, impl.LogMax+1)
	wrong["log: one too many of the bad one"] = fullLog(newWorld(4), 4, impl.LogMax+1)
	wrong["log: far too many"] = worldIn(3, 1, fillers(1, 10*impl.LogMax)...)
	for at := range good.Log {
		wrong["log: twice: "+strconv.Itoa(at)] = withLog(good, append(deepCopy(good.Log), good.Log[at])...)
	}
	for why, v := range wrongVotes() {
		wrong["log: not in form, last: "+why] = withLog(good, append(deepCopy(good.Log), v)...)
		wrong["log: not in form, first: "+why] = withLog(good, join([]impl.Vote{v}, good.Log)...)
		wrong["log: not in form, alone: "+why] = worldIn(2, 1, v)
	}
}

func TestWorldLimitsAreTheDocuments(t *testing.T) {
	if impl.LogMax != 80 || impl.PlayMax != 70 {
		t.Error(impl.LogMax, impl.PlayMax)
	}
	if impl.EvTick != 1 || impl.EvPropose != 2 || impl.EvBring != 3 || impl.EvForge != 4 {
		t.Error(impl.EvTick, impl.EvPropose, impl.EvBring, impl.EvForge)
	}
}

func TestWorldIsTheDocuments(t *testing.T) {
	t.Parallel()
	for _, w := range someWorlds() {
		if !okWorldBy(w) || !impl.WorldOk(w) {
			t.Fatal("is ok", w)
		}
	}
	forAllDone(func(w impl.World, e impl.Event) {
		wantWorld(t, "done", impl.WorldDo(w, e), doneBy(w, e))
	})
	for why, w := range wrongWorlds() {
		if okWorldBy(w) || impl.WorldOk(w) {
			t.Fatal("is not ok:", why, w)
		}
	}
}

func TestCalmIsTheDocuments(t *testing.T) {
	t.Parallel()
	r := newDraw()
	for _, w := range someWorlds() {
		for size := range 4 {
			pays := drawnPays(size)
			if size > 0 && r.IntN(4) == 0 {
				pays[r.IntN(size)] = wrongPays()[r.IntN(len(wrongPays()))]
			}
			wantWorld(t, "calm", impl.WorldCalm(w, pays), calmBy(w, pays...))
		}
	}
}

func TestPlayIsTheDocuments(t *testing.T) {
	t.Parallel()
	for _, p := range somePlays() {
		w, ok := impl.WorldPlay(p.bad, p.events)
		wantWorld(t, "played", w, doneBy(newWorld(p.bad), p.events...))
		if !ok {
			t.Fatal("is true", p.events)
		}
	}
}

// The drawn worlds must be such that what is asked of them says something.
func TestDrawnWorldsAreWorthIt(t *testing.T) {
	t.Parallel()
	var proposed, voted, seen, forged, stayed, calm int
	forAllDone(func(w impl.World, e impl.Event) {
		behind := doneBy(w, e)
		sent := len(behind.Log) > len(w.Log)
		switch {
		case sameWorld(w, behind):
			stayed++
		case e.Kind == impl.EvPropose && sent:
			proposed++
		case e.Kind == impl.EvBring && sent:
			voted++
		case e.Kind == impl.EvBring:
			seen++
		case e.Kind == impl.EvForge:
			forged++
		}
	})
	for _, w := range someWorlds() {
		if w.Epoch < impl.EpochMax && len(calmBy(w, pay(1, 2, 1)).Log) > len(w.Log)+1 {
			calm++
		}
	}
	if min(proposed, voted, seen, forged, stayed, calm) < 50 {
		t.Fatal(proposed, voted, seen, forged, stayed, calm)
	}
}

func TestPromise70New(t *testing.T) {
	for bad := 0; bad <= impl.NodeMax; bad++ {
		w, ok := impl.WorldNew(bad)
		wantWorld(t, "new", w, newWorld(bad))
		if !ok || !impl.WorldOk(w) || !agree(w) {
			t.Fatal("is ok, all agree", bad)
		}
		for at, n := range w.Nodes {
			same, _ := impl.NodeNew(at + 1)
			wantNode(t, "new", n, same)
		}
	}
	for _, bad := range oddNodes() {
		w, ok := impl.WorldNew(bad)
		if ok != (bad >= 0 && bad <= impl.NodeMax) {
			t.Fatal("just a node, or 0", bad)
		}
		if !ok {
			wantWorld(t, "no such node", w, impl.World{})
		}
	}
}

func TestPromise71Done(t *testing.T) {
	t.Parallel()
	forAllDone(func(w impl.World, e impl.Event) {
		behind := impl.WorldDo(w, e)
		if !impl.WorldOk(behind) || behind.Bad != w.Bad || len(behind.Log) > len(w.Log)+1 {
			t.Fatal("is ok, at most one more was sent", w, e, behind)
		}
		wantVotes(t, "all others before", behind.Log[:len(w.Log)], w.Log)
		if behind.Epoch != w.Epoch && behind.Epoch != w.Epoch+1 {
			t.Fatal("the same epoch, or the next", w.Epoch, e, behind.Epoch)
		}
		for at, n := range w.Nodes {
			for _, v := range n.Seen {
				if !among(behind.Nodes[at].Seen, v) {
					t.Fatal("has seen all that it had", w, e, behind)
				}
			}
		}
	})
}

func TestPromise72PlayIsEachEvent(t *testing.T) {
	for _, p := range somePlays() {
		for size := len(p.events); size >= 0; size -= 31 {
			w, ok := impl.WorldPlay(p.bad, p.events[:size])
			wantWorld(t, "played", w, p.worlds[size])
			if !ok {
				t.Fatal("is true", p.events[:size])
			}
		}
	}
	for bad := 0; bad <= impl.NodeMax; bad++ {
		for _, none := range [][]impl.Event{nil, {}} {
			w, ok := impl.WorldPlay(bad, none)
			wantWorld(t, "of no events", w, newWorld(bad))
			if !ok {
				t.Fatal("is true of no events", bad)
			}
		}
	}
}

func TestPromise72NoPlay(t *testing.T) {
	for _, size := range []int{0, 1, impl.PlayMax - 1, impl.PlayMax, impl.PlayMax + 1, 2 * impl.PlayMax, 1000} {
		for bad := -1; bad <= impl.NodeMax+1; bad++ {
			for what, e := range map[string]impl.Event{"ticks": tick(), "nothing": {}, "no kind": {Kind: 9}} {
				w, ok := impl.WorldPlay(bad, slices.Repeat([]impl.Event{e}, size))
				can := bad >= 0 && bad <= impl.NodeMax && size <= impl.PlayMax
				if ok != can || impl.WorldOk(w) != can {
					t.Fatal(what, bad, size, ok)
				}
				if !can {
					wantWorld(t, what, w, impl.World{})
				}
			}
		}
	}
	w, _ := impl.WorldPlay(3, ticks(impl.PlayMax))
	wantWorld(t, "past the last epoch", w, worldIn(impl.EpochMax, 3))
}

// whatNever is what changes nothing in a world.
func whatNever(w impl.World) map[string]impl.Event {
	next := with(impl.TreeTip(w.Log), item(min(impl.EpochMax, w.Epoch+1), 1, 2, 3))
	never := map[string]impl.Event{}
	for _, kind := range []int{math.MinInt, -3, -1, 0, 5, 6, 7, 1 << 32, 1<<32 + 1, math.MaxInt} {
		never["kind "+strconv.Itoa(kind)] = impl.Event{Kind: kind, A: 1, B: 2, Pay: pay(1, 2, 3), Vote: vote(w.Bad, next)}
	}
	for _, id := range []int{math.MinInt, -1, 0, w.Bad, impl.NodeMax + 1, 1<<32 + 1, math.MaxInt} {
		never["propose by "+strconv.Itoa(id)] = propose(id, pay(1, 2, 3))
		never["bring the first to "+strconv.Itoa(id)] = bring(0, id)
		never["bring the last to "+strconv.Itoa(id)] = bring(len(w.Log)-1, id)
	}
	for at, p := range wrongPays() {
		never["propose, wrong payment "+strconv.Itoa(at)] = propose(leads(w.Epoch), p)
	}
	for _, place := range []int{math.MinInt, -1, len(w.Log), len(w.Log) + 1, impl.LogMax + 1, 1 << 32, math.MaxInt} {
		for id := 1; id <= impl.NodeMax; id++ {
			never["bring "+strconv.Itoa(place)+" to "+strconv.Itoa(id)] = bring(place, id)
		}
	}
	for by := -1; by <= impl.NodeMax+1; by++ {
		if by != w.Bad {
			never["forge for "+strconv.Itoa(by)] = forge(vote(by, next))
		}
	}
	for why, v := range wrongVotes() {
		never["forge: "+why] = forge(v)
	}
	for why, c := range wrongChains() {
		never["forge, chain: "+why] = forge(vote(w.Bad, c))
	}
	never["forge for nothing"] = forge(vote(w.Bad, nil))
	return never
}

func TestPromise83ChangesNothing(t *testing.T) {
	t.Parallel()
	worlds := someWorlds()
	for at := 0; at < len(worlds); at += 3 {
		for why, e := range whatNever(worlds[at]) {
			wantWorld(t, why, impl.WorldDo(worlds[at], e), worlds[at])
		}
	}
}

func TestPromise83BadIsNoHonestOne(t *testing.T) {
	for bad := 1; bad <= impl.NodeMax; bad++ {
		w := worldIn(bad, bad)
		wantWorld(t, "its turn to propose", impl.WorldDo(w, propose(bad, pay(1, 2, 1))), w)
		leader := bad%impl.NodeMax + 1
		w = worldIn(leader, bad, vote(leader, rowAt(leader)))
		wantWorld(t, "it would vote", impl.WorldDo(w, bring(0, bad)), w)
		w = worldIn(leader, 0, vote(leader, rowAt(leader)))
		wantWorld(t, "not bad, it votes", impl.WorldDo(w, bring(0, bad)), doneBy(w, bring(0, bad)))
		if len(impl.WorldDo(w, bring(0, bad)).Log) != 2 {
			t.Fatal("not bad, it votes", bad)
		}
		w = worldIn(bad, 0)
		if len(impl.WorldDo(w, propose(bad, pay(1, 2, 1))).Log) != 1 {
			t.Fatal("not bad, it proposes", bad)
		}
	}
}

// With Bad 0 nobody may forge, not even 0.
func TestPromise83NobodyForges(t *testing.T) {
	for by := -1; by <= impl.NodeMax+1; by++ {
		for _, c := range [][]impl.Item{nil, rowOf(1, 1), rowAt(9), rowOf(1, impl.ChainMax)} {
			for _, w := range []impl.World{newWorld(0), worldIn(3, 0, votesUp(rowOf(1, 2), 1, 2, 3)...)} {
				wantWorld(t, "forged", impl.WorldDo(w, forge(vote(by, c))), w)
			}
		}
	}
}

func TestPromise84CalmInParts(t *testing.T) {
	t.Parallel()
	worlds := someWorlds()
	for at := 0; at < len(worlds); at += 4 {
		pays := drawnPays(5)
		pays[1+at%4] = wrongPays()[at%len(wrongPays())]
		all := impl.WorldCalm(worlds[at], pays)
		if !impl.WorldOk(all) {
			t.Fatal("is ok", all)
		}
		for size := range len(pays) + 1 {
			some := impl.WorldCalm(worlds[at], pays[:size])
			wantWorld(t, "some, and then the others", impl.WorldCalm(some, pays[size:]), all)
		}
	}
}

func TestPromise84CalmOfNone(t *testing.T) {
	for _, w := range someWorlds() {
		wantWorld(t, "of none", impl.WorldCalm(w, nil), w)
		wantWorld(t, "of none", impl.WorldCalm(w, []impl.Pay{}), w)
	}
}

func TestCalmOfTooManyPayments(t *testing.T) {
	for bad := 0; bad <= impl.NodeMax; bad++ {
		w := newWorld(bad)
		most := impl.WorldCalm(w, drawnPays(impl.EpochMax))
		if !impl.WorldOk(most) || most.Epoch != impl.EpochMax {
			t.Fatal("just EpochMax", most)
		}
		wantWorld(t, "just EpochMax", most, calmBy(w, drawnPays(impl.EpochMax)...))
		for _, size := range []int{impl.EpochMax + 1, impl.EpochMax + 2, 1000} {
			wantWorld(t, "too many", impl.WorldCalm(w, drawnPays(size)), impl.World{})
			wantWorld(t, "too many in the last epoch", impl.WorldCalm(most, drawnPays(size)), impl.World{})
			wantWorld(t, "too many that are none", impl.WorldCalm(w, make([]impl.Pay, size)), impl.World{})
		}
	}
}

// A payment that is not ok is not proposed; the epoch goes by all the same, and what was sent is spread.
func TestCalmOfWrongPayments(t *testing.T) {
	for at, p := range wrongPays() {
		w := worldIn(1, 2, votesOf(rowOf(1, 1), 1, 3, 4)...)
		behind := impl.WorldCalm(w, []impl.Pay{p})
		wantWorld(t, "wrong payment "+strconv.Itoa(at), behind, calmBy(w, p))
		wantVotes(t, "nothing is sent", behind.Log, w.Log)
		if behind.Epoch != 2 || len(behind.Nodes[0].Seen) != 2 || len(behind.Nodes[1].Seen) != 0 {
			t.Fatal("spread in the next epoch", behind)
		}
	}
}

func TestPromise86BroughtTwice(t *testing.T) {
	t.Parallel()
	forAllDone(func(w impl.World, e impl.Event) {
		if e.Kind == impl.EvBring {
			once := impl.WorldDo(w, e)
			wantWorld(t, "twice is once", impl.WorldDo(once, e), once)
		}
	})
}

func TestPromise87OneNodeAlone(t *testing.T) {
	t.Parallel()
	forAllDone(func(w impl.World, e impl.Event) {
		id := e.B
		if e.Kind == impl.EvPropose {
			id = e.A
		} else if e.Kind != impl.EvBring {
			return
		}
		behind := impl.WorldDo(w, e)
		if behind.Epoch != w.Epoch {
			t.Fatal("the epoch", w, e)
		}
		for at, n := range w.Nodes {
			if n.Id != id {
				wantNode(t, "another node", behind.Nodes[at], n)
			}
		}
		for _, v := range behind.Log[len(w.Log):] {
			if v.By != id || !among(behind.Nodes[id-1].Seen, v) {
				t.Fatal("what is sent is that node's", w, e, v)
			}
		}
	})
}

func TestPromise88Forged(t *testing.T) {
	t.Parallel()
	r := newDraw()
	for _, w := range someWorlds() {
		for _, v := range append(someForged(r, w), vote(w.Bad, rowAt(impl.EpochMax)), vote(w.Bad, rowOf(1, 1))) {
			if !impl.VoteOk(v) || v.By != w.Bad {
				continue
			}
			want := copyOfWorld(w)
			if !among(w.Log, v) && len(w.Log) < impl.LogMax {
				want.Log = append(want.Log, v)
			}
			behind := impl.WorldDo(w, forge(v))
			wantWorld(t, "forged", behind, want)
			wantWorld(t, "forged again", impl.WorldDo(behind, forge(v)), want)
		}
	}
}

// The bad node may vote for anything: what begins nowhere, what is to come, two chains of one epoch, others' epochs.
func TestPromise88ForWhateverItLikes(t *testing.T) {
	for bad := 1; bad <= impl.NodeMax; bad++ {
		w := newWorld(bad)
		var sent []impl.Vote
		for _, c := range append(voteChains(), rowAt(29, 30), []impl.Item{item(impl.EpochMax, 3, 2, 8)}) {
			w = impl.WorldDo(w, forge(vote(bad, c)))
			sent = append(sent, vote(bad, c))
			wantVotes(t, "sent", w.Log, sent)
		}
		for _, v := range sent {
			wantVotes(t, "sent already", impl.WorldDo(w, forge(v)).Log, sent)
		}
		wantWorld(t, "no node changes", w, withLog(newWorld(bad), sent...))
	}
}

func TestPromise89Tick(t *testing.T) {
	for _, w := range someWorlds() {
		wantWorld(t, "the next, but the last", impl.WorldDo(w, tick()), inEpoch(w, min(w.Epoch+1, impl.EpochMax)))
		e := impl.Event{Kind: impl.EvTick, A: 9, B: -9, Pay: pay(1, 2, 1), Vote: vote(w.Bad, rowOf(1, 1))}
		wantWorld(t, "whatever else it has", impl.WorldDo(w, e), inEpoch(w, min(w.Epoch+1, impl.EpochMax)))
	}
	for bad := 0; bad <= impl.NodeMax; bad++ {
		w := newWorld(bad)
		for epoch := 1; epoch <= impl.EpochMax; epoch++ {
			w = impl.WorldDo(w, tick())
			wantWorld(t, "so many", w, worldIn(epoch, bad))
		}
		wantWorld(t, "past the last", impl.WorldDo(w, tick()), worldIn(impl.EpochMax, bad))
	}
}

func TestPromise82AllButTheLast(t *testing.T) {
	for size := 3; size <= impl.EpochMax; size++ {
		pays := drawnPays(size)
		w := impl.WorldCalm(newWorld(0), pays)
		// A chain has room for so many alone.
		want := rowOfPays(pays[:min(size, impl.ChainMax)-1]...)
		for _, n := range w.Nodes {
			wantSame(t, "all but the last, in order", impl.TreeFinal(n.Seen), want)
			wantBook(t, "and made", impl.NodeBook(n), bookBehind(want))
		}
		wantSame(t, "by all that was sent", impl.TreeFinal(w.Log), want)
	}
	for size := range 3 {
		w := impl.WorldCalm(newWorld(0), drawnPays(size))
		for _, n := range w.Nodes {
			wantSame(t, "of fewer than three none", impl.TreeFinal(n.Seen), nil)
		}
	}
}

// In which order all is sent and seen, in an epoch that is calm.
func TestSpreadGoesByPlacesAndNodes(t *testing.T) {
	c := rowOfPays(pay(1, 2, 1))
	w := impl.WorldCalm(newWorld(0), []impl.Pay{c[0].Pay})
	wantVotes(t, "sent", w.Log, votesOf(c, 1, 2, 3, 4))
	for at, order := range [][]int{{1, 2, 3, 4}, {1, 2, 3, 4}, {1, 3, 2, 4}, {1, 4, 2, 3}} {
		wantVotes(t, "seen", w.Nodes[at].Seen, votesOf(c, order...))
	}
	w = impl.WorldCalm(newWorld(3), []impl.Pay{c[0].Pay})
	wantVotes(t, "sent, without the bad one", w.Log, votesOf(c, 1, 2, 4))
	for at, order := range [][]int{{1, 2, 4}, {1, 2, 4}, {}, {1, 4, 2}} {
		wantVotes(t, "seen, without the bad one", w.Nodes[at].Seen, votesOf(c, order...))
	}
}

// lateWorld is one in which three voted in epoch 1, but none has heard of all, and the bad leader of epoch 2 is for an item behind that.
func lateWorld() impl.World {
	first := rowOf(1, 1)[0].Pay
	return doneBy(newWorld(2), tick(), propose(1, first), bring(0, 3), bring(0, 4), forge(vote(2, rowOf(1, 2))))
}

// What comes while votes are spread is brought in the same spread: also what is sent by what was sent by it.
func TestWhatComesWhileVotesAreSpread(t *testing.T) {
	next, w := rowOf(1, 2), lateWorld()
	behind := impl.WorldCalm(w, []impl.Pay{{}})
	wantVotes(t, "three vote for what the bad leader told ahead of its epoch", behind.Log, join(w.Log, votesOf(next, 1, 3, 4)))
	for _, n := range honest(behind) {
		if len(n.Seen) != 7 || n.Voted != 2 {
			t.Fatal("all have seen all", n)
		}
		wantSame(t, "sure", impl.TreeTip(n.Seen), next)
	}
	wantWorld(t, "spread", behind, calmBy(w, impl.Pay{}))
	two := impl.WorldCalm(w, []impl.Pay{pay(1, 2, 1), pay(2, 1, 1)})
	wantSame(t, "the next leader is behind it", two.Log[7].Chain, with(next, item(3, 2, 1, 1)))
	wantWorld(t, "two epochs", two, calmBy(w, pay(1, 2, 1), pay(2, 1, 1)))
}

// Some vote for the one, some for the other of two that the bad leader told ahead: each for the first that it has seen.
func TestTwoAheadOfTheirEpoch(t *testing.T) {
	a, b := rowAt(2), []impl.Item{item(2, 1, 2, 9)}
	w := impl.WorldDo(impl.WorldDo(worldIn(1, 2), forge(vote(2, a))), forge(vote(2, b)))
	w = impl.WorldDo(w, bring(1, 3))
	wantVotes(t, "nobody votes ahead of the epoch", w.Log, []impl.Vote{vote(2, a), vote(2, b)})
	behind := impl.WorldCalm(w, []impl.Pay{pay(1, 2, 1)})
	wantVotes(t, "each for the first", behind.Log[2:], []impl.Vote{vote(1, a), vote(3, b), vote(4, a)})
	wantSame(t, "with the bad one's a is sure", impl.TreeTip(behind.Log), a)
	wantWorld(t, "spread", behind, calmBy(w, pay(1, 2, 1)))
}

// What a bad leader told ahead of its epoch was seen by all when that begins: it is voted for when it is brought again.
func TestSeenAheadOfItsEpoch(t *testing.T) {
	for bad := 2; bad <= impl.NodeMax; bad++ {
		c := rowOf(1, bad)
		w := impl.WorldDo(newWorld(bad), forge(vote(bad, c)))
		var pays []impl.Pay
		for _, i := range c {
			pays = append(pays, i.Pay)
		}
		behind := impl.WorldCalm(w, pays)
		wantVotes(t, "all others vote in its epoch", behind.Log[len(behind.Log)-3:], votesOf(c, honestIn(bad)...))
		wantSame(t, "it is sure", impl.TreeTip(behind.Log), c)
		wantWorld(t, "calm", behind, calmBy(w, pays...))
		ahead := impl.WorldCalm(w, pays[:bad-1])
		wantWorld(t, "in parts", impl.WorldCalm(ahead, pays[bad-1:]), behind)
	}
}

func TestSeenAheadOfItsEpochInAPlay(t *testing.T) {
	c := rowOf(1, 2)
	ahead := []impl.Event{tick(), propose(1, c[0].Pay), bring(0, 3), bring(0, 4), bring(1, 4), bring(2, 3), bring(1, 1), bring(2, 1), forge(vote(2, c))}
	ahead = append(ahead, bringAll([]int{1, 3, 4}, 3)...)
	w, _ := impl.WorldPlay(2, ahead)
	wantVotes(t, "ahead of its epoch", w.Log, append(votesOf(c[:1], 1, 3, 4), vote(2, c)))
	for id, place := range map[int]int{1: 3, 3: 0, 4: 1} {
		w, _ = impl.WorldPlay(2, append(slices.Clone(ahead), tick(), bring(place, id)))
		wantVotes(t, "anything is brought again", w.Log[4:], votesOf(c, id))
	}
	w, _ = impl.WorldPlay(2, append(slices.Clone(ahead), tick(), bring(0, 1)))
	wantVotes(t, "its own is no more than that", w.Log[4:], nil)
	w, _ = impl.WorldPlay(2, append(slices.Clone(ahead), tick(), bring(0, 1), bring(0, 3), bring(3, 1)))
	wantVotes(t, "its own, and then another one's", w.Log[4:], votesOf(c, 3, 1))
}

// A bad node that tells ahead, for each of its epochs, what an honest one would propose, keeps nobody from anything.
func TestBadThatTellsAllAhead(t *testing.T) {
	c := rowOf(1, 9)
	var pays []impl.Pay
	for _, i := range c {
		pays = append(pays, i.Pay)
	}
	for bad := 1; bad <= impl.NodeMax; bad++ {
		w := newWorld(bad)
		for epoch := bad; epoch <= 9; epoch += impl.NodeMax {
			w = impl.WorldDo(w, forge(vote(bad, c[:epoch])))
		}
		behind := impl.WorldCalm(w, pays)
		for _, n := range honest(behind) {
			wantSame(t, "all but the last", impl.TreeFinal(n.Seen), c[:8])
		}
		wantWorld(t, "calm", behind, calmBy(w, pays...))
	}
}

// wantCan holds whether an event changes a world.
func wantCan(t *testing.T, what string, w impl.World, e impl.Event, can bool) {
	t.Helper()
	behind := impl.WorldDo(w, e)
	wantWorld(t, what, behind, doneBy(w, e))
	if sameWorld(behind, w) == can {
		t.Fatal(what, e, "can be:", can)
	}
}

func TestHowMuchIsSent(t *testing.T) {
	first := votesOf(rowOf(1, 1), 1)
	for _, size := range []int{impl.LogMax - 2, impl.LogMax - 1, impl.LogMax} {
		room := size < impl.LogMax
		w := fullLog(worldIn(1, 4), 4, size)
		wantCan(t, "propose", w, propose(1, pay(1, 2, 1)), room)
		wantCan(t, "bring", w, bring(0, 2), room)
		wantCan(t, "bring the last", w, bring(size-1, 2), room)
		wantCan(t, "forge", w, forge(vote(4, rowAt(7))), room)
		wantCan(t, "forge what was sent", w, forge(w.Log[3]), false)
		wantCan(t, "tick", w, tick(), true)
		w = fullLog(worldIn(1, 4, first...), 4, size)
		wantCan(t, "bring what is voted for", w, bring(0, 2), room)
		if behind := impl.WorldDo(w, bring(0, 2)); len(behind.Log) != min(size+1, impl.LogMax) || (behind.Nodes[1].Voted == 1) != room {
			t.Fatal("voted", size, behind)
		}
	}
}

// Once so much was sent, nothing is brought any more, also in the middle of a spread.
func TestSpreadUntilLogIsFull(t *testing.T) {
	for lacking := range 6 {
		w := fullLog(newWorld(3), 3, impl.LogMax-lacking)
		behind := impl.WorldCalm(w, []impl.Pay{pay(1, 2, 1)})
		wantWorld(t, "calm", behind, calmBy(w, pay(1, 2, 1)))
		if len(behind.Log) != min(impl.LogMax, len(w.Log)+3) || behind.Epoch != 1 {
			t.Fatal("sent", lacking, len(behind.Log))
		}
		if lacking == 0 && len(behind.Nodes[0].Seen) > 0 {
			t.Fatal("nothing is brought", behind.Nodes[0])
		}
	}
	w := fullLog(lateWorld(), 2, impl.LogMax-1)
	behind := impl.WorldCalm(w, []impl.Pay{pay(1, 2, 1)})
	wantVotes(t, "one vote more", behind.Log[impl.LogMax-1:], votesOf(rowOf(1, 2), 1))
	if len(behind.Nodes[0].Seen) != 5 || len(behind.Nodes[2].Seen) != 3 {
		t.Fatal("then no more is brought", behind.Nodes)
	}
	wantWorld(t, "in the first spread", behind, calmBy(w, pay(1, 2, 1)))
}

func TestHowMuchIsSeen(t *testing.T) {
	for lacking := range 4 {
		w := seenBy(worldIn(1, 4, votesOf(rowOf(1, 1), 1)...), 2, fillers(4, impl.SeenMax-lacking)...)
		wantCan(t, "bring", w, bring(0, 2), lacking > 0)
		behind := impl.WorldDo(w, bring(0, 2))
		if n := behind.Nodes[1]; len(n.Seen) != min(impl.SeenMax, len(w.Nodes[1].Seen)+2) || (n.Voted == 1) != (lacking > 1) {
			t.Fatal("seen, voted", lacking, n)
		}
		if (len(behind.Log) > len(w.Log)) != (lacking > 1) {
			t.Fatal("sent", lacking, behind.Log)
		}
		w = seenBy(worldIn(1, 4), 1, fillers(4, impl.SeenMax-lacking)...)
		wantCan(t, "propose", w, propose(1, pay(1, 2, 1)), lacking > 0)
	}
}

// No play comes to it: a vote of a node was sent ahead of its giving it. It is given, and not sent again.
func TestSentAlready(t *testing.T) {
	c := rowOfPays(pay(1, 2, 1))
	w := worldIn(1, 4, votesOf(c, 1, 2)...)
	behind := impl.WorldDo(w, propose(1, c[0].Pay))
	wantWorld(t, "proposed", behind, withNode(w, node(1, 1, 1, votesOf(c, 1))))
	behind = impl.WorldDo(w, bring(0, 2))
	wantWorld(t, "brought", behind, withNode(w, node(2, 1, 1, votesOf(c, 1, 2))))
	wantWorld(t, "its own is brought", impl.WorldDo(w, bring(1, 2)), w)
	behind = impl.WorldCalm(withLog(newWorld(4), votesOf(c, 1, 2)...), []impl.Pay{c[0].Pay})
	wantVotes(t, "calm", behind.Log, votesOf(c, 1, 2, 3))
	wantWorld(t, "calm", behind, calmBy(withLog(newWorld(4), votesOf(c, 1, 2)...), c[0].Pay))
}

func TestWrongWorldsAreAnswered(t *testing.T) {
	t.Parallel()
	cert := certOf(rowOf(1, 3), 1, 3, 4)
	if !impl.WorldShown(worldIn(4, 2, impl.CertVotes(cert)...), cert) || !impl.CertOk(cert) {
		t.Fatal("the cert can be shown")
	}
	for why, w := range wrongWorlds() {
		for _, e := range []impl.Event{{}, tick(), propose(1, pay(1, 2, 1)), bring(0, 1), bring(-1, 9), forge(vote(2, rowAt(9))), {Kind: 77}} {
			wantWorld(t, why, impl.WorldDo(w, e), impl.World{})
		}
		for _, pays := range [][]impl.Pay{nil, {pay(1, 2, 1)}, {{}}, drawnPays(impl.EpochMax + 1)} {
			wantWorld(t, why+", calm", impl.WorldCalm(w, pays), impl.World{})
		}
		if impl.WorldOk(w) || impl.WorldShown(w, cert) || impl.WorldShown(w, impl.Cert{}) {
			t.Fatal("is not ok:", why)
		}
	}
}

// someShown are certs that can be shown in a world, or just not.
func someShown(r *rand.Rand, w impl.World) []impl.Cert {
	certs := []impl.Cert{{}, drawCert(r)}
	for _, votes := range [][]impl.Vote{w.Log, join(w.Log, badVotes(w)), w.Nodes[0].Seen, w.Nodes[3].Seen} {
		c, ok := impl.CertOf(votes)
		if !ok {
			continue
		}
		certs = append(certs, c, impl.Cert{Chain: c.Chain, By: c.By[:2]}, impl.Cert{Chain: c.Chain[1:], By: c.By})
		for at := range c.By {
			for _, by := range manyBy {
				certs = append(certs, withBy(c, at, by...))
			}
			certs = append(certs, withBy(c, at, c.By[at][:2]...))
			other := copyOfCert(c)
			other.Chain[len(c.Chain)-1-at].Pay = pay(3, 1, 9)
			certs = append(certs, other)
		}
	}
	return certs
}

func TestPromise80Shown(t *testing.T) {
	t.Parallel()
	r := newDraw()
	worlds := append(someWorlds(), lateWorld())
	for _, p := range somePlays() {
		worlds = append(worlds, p.end())
	}
	shown, not, byBad := 0, 0, 0
	for _, w := range worlds {
		for _, c := range someShown(r, w) {
			can := okBy(c) && cameBy(w, shownBy(c))
			if impl.WorldShown(w, c) != can {
				t.Fatal("shown", !can, w, c)
			}
			switch {
			case can && !cameBy(withLog(newWorld(0), w.Log...), shownBy(c)):
				byBad++
			case can:
				shown++
			case okBy(c):
				not++
			}
		}
	}
	if min(shown, not, byBad) < 50 {
		t.Fatal(shown, not, byBad)
	}
}

func TestPromise80EachVote(t *testing.T) {
	c := certOf(rowOf(2, 4), 1, 2, 4)
	votes := impl.CertVotes(c)
	for bad := 0; bad <= impl.NodeMax; bad++ {
		w := worldIn(9, bad, votes...)
		if !impl.WorldShown(w, c) {
			t.Fatal("all were sent", bad)
		}
		for at := range votes {
			w := worldIn(9, bad, without(votes, at)...)
			if impl.WorldShown(w, c) != (votes[at].By == bad) {
				t.Fatal("one was not sent", bad, votes[at])
			}
		}
		if impl.WorldShown(worldIn(9, bad, turnedVotes(votes)...), c) != true {
			t.Fatal("in any order", bad)
		}
		for at := range c.By {
			if impl.WorldShown(w, withBy(c, at, 1, 2, 3, 4)) != (bad == 3) {
				t.Fatal("one more, who was not there", bad, at)
			}
		}
		for why, wrong := range wrongCerts() {
			w := worldIn(9, bad, keep(allVotes(someBeginnings(wrong.Chain)), impl.VoteOk)...)
			if impl.WorldShown(w, wrong) || !impl.WorldOk(w) {
				t.Fatal("is none:", why)
			}
		}
	}
}

// someBeginnings are the last few beginnings of a chain, each once.
func someBeginnings(c []impl.Item) [][]impl.Item {
	var chains [][]impl.Item
	for n := max(1, len(c)-3); n <= len(c); n++ {
		chains = append(chains, c[:n])
	}
	return chains
}

// guardedWorld is a copy of the world with room behind all its lists, and a check that all of that stayed.
func guardedWorld(t *testing.T, w impl.World) (impl.World, func(what string)) {
	log, logStays := guardedVotes(t, w.Log)
	checks := []func(string){logStays}
	var nodes []impl.Node
	for _, n := range w.Nodes {
		n, stays := guardedNode(t, n)
		nodes, checks = append(nodes, n), append(checks, stays)
	}
	nodes, room := guard(nodes, node(77, 7, 7, nil))
	was := slices.Clone(room)
	return impl.World{Epoch: w.Epoch, Nodes: nodes, Log: log, Bad: w.Bad}, func(what string) {
		t.Helper()
		for _, check := range checks {
			check(what)
		}
		for at := range room {
			wantNode(t, what+": the nodes of an argument", room[at], was[at])
			if cap(room[at].Seen) > 0 && &room[at].Seen[:1][0] != &was[at].Seen[:1][0] {
				t.Fatal(what, "another list in an argument")
			}
		}
	}
}

// spoilWorld writes over all memory of a world, all spare room included.
func spoilWorld(w impl.World) {
	spoilVotes(w.Log)
	for _, n := range w.Nodes {
		spoilVotes(n.Seen)
	}
	spoilWith(w.Nodes, node(-99, -9, -99, nil))
}

// markAll writes its own mark into all of each list, and tells whether each holds it in the end: then no two share any.
func markAll[T any](lists [][]T, mark func(n int) T, is func(one T, n int) bool) bool {
	for n, list := range lists {
		spoilWith(list, mark(n))
	}
	for n, list := range lists {
		for _, one := range list[:cap(list)] {
			if !is(one, n) {
				return false
			}
		}
	}
	return true
}

// checkNoneShared spoils the worlds: no two of all their lists share any memory.
func checkNoneShared(t *testing.T, what string, worlds ...impl.World) {
	t.Helper()
	var nodes [][]impl.Node
	var votes [][]impl.Vote
	var chains [][]impl.Item
	for _, w := range worlds {
		nodes, votes = append(nodes, w.Nodes), append(votes, w.Log)
		for _, n := range w.Nodes {
			votes = append(votes, n.Seen)
		}
	}
	for _, list := range votes {
		for _, v := range list {
			chains = append(chains, v.Chain)
		}
	}
	if !markAll(chains, func(n int) impl.Item { return item(n, n, n, n) }, func(i impl.Item, n int) bool { return i.Epoch == n }) {
		t.Fatal(what, "two chains share memory")
	}
	if !markAll(votes, func(n int) impl.Vote { return vote(n, nil) }, func(v impl.Vote, n int) bool { return v.By == n }) {
		t.Fatal(what, "two lists of votes share memory")
	}
	if !markAll(nodes, func(n int) impl.Node { return node(n, n, n, nil) }, func(m impl.Node, n int) bool { return m.Id == n }) {
		t.Fatal(what, "two lists of nodes share memory")
	}
}

// checkNewMemory asks of two answers of one call that they share nothing with its arguments, with each other, or in themselves.
func checkNewMemory(t *testing.T, what string, w impl.World, call func(w impl.World) impl.World, stay func(what string), spoilRest func()) {
	t.Helper()
	given, stays := guardedWorld(t, w)
	first, second := call(given), call(given)
	stays(what)
	stay(what)
	want := copyOfWorld(second)
	wantWorld(t, what+": the same twice", first, want)
	spoilWorld(first)
	stays(what + ": the answer is spoilt")
	stay(what + ": the answer is spoilt")
	wantWorld(t, what+": the first is spoilt", second, want)
	third := call(given)
	spoilWorld(given)
	spoilRest()
	wantWorld(t, what+": the arguments are spoilt", second, want)
	checkNoneShared(t, what, second, third)
}

func TestDoIsNewMemory(t *testing.T) {
	t.Parallel()
	r := newDraw()
	worlds := someWorlds()
	for at := 0; at < len(worlds); at += 3 {
		w := worlds[at]
		for _, e := range someEvents(r, w) {
			given, stays := guardedVotes(t, []impl.Vote{e.Vote})
			was := e
			e.Vote = given[0]
			want := doneBy(w, was)
			checkNewMemory(t, "done", w, func(w impl.World) impl.World {
				behind := impl.WorldDo(w, e)
				wantWorld(t, "done", behind, want)
				return behind
			}, stays, func() { spoilVotes(given) })
		}
	}
}

func TestCalmIsNewMemory(t *testing.T) {
	t.Parallel()
	worlds := someWorlds()
	for at := 0; at < len(worlds); at += 5 {
		for size := range 4 {
			pays, room := guard(drawnPays(size), pay(7, 7, 7))
			was := slices.Clone(room)
			checkNewMemory(t, "calm", worlds[at], func(w impl.World) impl.World {
				return impl.WorldCalm(w, pays)
			}, func(what string) {
				if !slices.Equal(room, was) {
					t.Fatal(what, "payments", room)
				}
			}, func() { spoilWith(pays, pay(-9, -9, -9)) })
		}
	}
}

func TestNewAndPlayAreNewMemory(t *testing.T) {
	t.Parallel()
	for bad := 0; bad <= impl.NodeMax; bad++ {
		first, _ := impl.WorldNew(bad)
		second, _ := impl.WorldNew(bad)
		spoilWorld(first)
		wantWorld(t, "the first is spoilt", second, newWorld(bad))
		third, _ := impl.WorldNew(bad)
		checkNoneShared(t, "new", second, third)
	}
	for at, p := range somePlays() {
		if at%4 != 0 {
			continue
		}
		var forged []impl.Vote
		for _, e := range p.events {
			forged = append(forged, e.Vote)
		}
		forged, votesStay := guardedVotes(t, forged)
		events := slices.Clone(p.events)
		for at := range events {
			events[at].Vote = forged[at]
		}
		events, room := guard(events, impl.Event{Kind: 77})
		kinds := func() (all []int) {
			for _, e := range room {
				all = append(all, e.Kind, e.A, e.B, e.Pay.Sum, e.Vote.By, len(e.Vote.Chain))
			}
			return all
		}
		was := kinds()
		first, _ := impl.WorldPlay(p.bad, events)
		second, _ := impl.WorldPlay(p.bad, events)
		spoilWorld(first)
		votesStay("played")
		if !slices.Equal(kinds(), was) {
			t.Fatal("events", room)
		}
		third, _ := impl.WorldPlay(p.bad, events)
		spoilVotes(forged)
		spoilWith(events, impl.Event{Kind: impl.EvTick})
		wantWorld(t, "the events are spoilt", second, p.end())
		checkNoneShared(t, "played", second, third)
	}
}

// Chains and lists of an argument may share their memory; those of an answer do not.
func TestWorldsOfSharedMemory(t *testing.T) {
	full := rowOf(1, impl.ChainMax)
	log := votesUp(full[:4], 1, 2, 3, 4)
	w := impl.World{Epoch: 5, Log: log, Bad: 4}
	for id := 1; id <= impl.NodeMax; id++ {
		w.Nodes = append(w.Nodes, node(id, 5, 4, log))
	}
	want := copyOfWorld(w)
	for _, e := range []impl.Event{{}, tick(), propose(1, pay(1, 2, 1)), bring(3, 2), forge(vote(4, full[:5]))} {
		done := doneBy(want, e)
		behind := impl.WorldDo(w, e)
		wantWorld(t, "done", behind, done)
		checkNoneShared(t, "done", behind)
		wantWorld(t, "the argument", w, want)
	}
	calm := impl.WorldCalm(w, drawnPays(2))
	wantWorld(t, "calm", calm, calmBy(want, drawnPays(2)...))
	checkNoneShared(t, "calm", calm)
	wantWorld(t, "the argument", w, want)
	wantSame(t, "the chain", full, rowOf(1, impl.ChainMax))
}

func TestWorldArgumentsStay(t *testing.T) {
	for why, w := range wrongWorlds() {
		given, stays := guardedWorld(t, w)
		impl.WorldOk(given)
		impl.WorldDo(given, tick())
		impl.WorldDo(given, forge(vote(2, rowAt(9))))
		impl.WorldCalm(given, drawnPays(1))
		impl.WorldShown(given, certOf(rowOf(1, 3), 1, 3, 4))
		stays(why)
	}
	for _, p := range somePlays()[:30] {
		w := p.end()
		given, stays := guardedWorld(t, w)
		for _, c := range someShown(newDraw(), w) {
			one, certStays := guardedCert(t, c)
			if impl.WorldShown(given, one) != impl.WorldShown(w, c) || !impl.WorldOk(given) {
				t.Fatal("of a copy", c)
			}
			certStays("shown")
		}
		stays("shown")
	}
}

// Many calls at once, of one world: what a call answers hangs on nothing but what it was given.
func TestManyCallsAtOnce(t *testing.T) {
	w := allSeen(worldIn(4, 2, votesUp(rowOf(1, 3), 1, 3, 4)...))
	wantDone, wantCalm := doneBy(w, bring(2, 1)), calmBy(w, drawnPays(3)...)
	done, calm := make([]impl.World, 40), make([]impl.World, 40)
	var calls sync.WaitGroup
	for at := range done {
		calls.Go(func() { done[at] = impl.WorldDo(w, bring(2, 1)) })
		calls.Go(func() { calm[at] = impl.WorldCalm(w, drawnPays(3)) })
	}
	calls.Wait()
	for at := range done {
		wantWorld(t, "done", done[at], wantDone)
		wantWorld(t, "calm", calm[at], wantCalm)
	}
	checkNoneShared(t, "all at once", append(done, calm...)...)
}
