package tests

import (
	"math/rand/v2"
	"slices"
	"strconv"
	"sync"
	"testing"

	"loop.example/witan/impl"
)

func tick() impl.Event {
	return impl.Event{Kind: impl.EvTick}
}

func propose(id int, p impl.Pay) impl.Event {
	return impl.Event{Kind: impl.EvPropose, A: id, Pay: p}
}

func bring(place, id int) impl.Event {
	return impl.Event{Kind: impl.EvBring, A: place, B: id}
}

func forge(v impl.Vote) impl.Event {
	return impl.Event{Kind: impl.EvForge, Vote: v}
}

func ticks(size int) []impl.Event {
	return slices.Repeat([]impl.Event{tick()}, size)
}

// newWorld is one by another way than the program's.
func newWorld(bad int) impl.World {
	w := impl.World{Bad: bad}
	for id := 1; id <= 4; id++ {
		w.Nodes = append(w.Nodes, impl.Node{Id: id})
	}
	return w
}

func sameWorld(a, b impl.World) bool {
	return a.Epoch == b.Epoch && a.Bad == b.Bad && slices.EqualFunc(a.Nodes, b.Nodes, sameNode) && slices.EqualFunc(a.Log, b.Log, same)
}

func copyOfWorld(w impl.World) impl.World {
	c := impl.World{Epoch: w.Epoch, Log: deepCopy(w.Log), Bad: w.Bad}
	for _, n := range w.Nodes {
		c.Nodes = append(c.Nodes, copyOfNode(n))
	}
	return c
}

func wantWorld(t *testing.T, what string, got, want impl.World) {
	t.Helper()
	if !sameWorld(got, want) {
		t.Fatalf("%s: got %v, want %v", what, got, want)
	}
}

// honest is the nodes that are not bad.
func honest(w impl.World) []impl.Node {
	return slices.DeleteFunc(slices.Clone(w.Nodes), func(n impl.Node) bool { return n.Id == w.Bad })
}

// honestIn is the numbers of the nodes that are not bad.
func honestIn(bad int) []int {
	return slices.DeleteFunc([]int{1, 2, 3, 4}, func(id int) bool { return id == bad })
}

// inEpoch is the world, with all nodes, in that epoch.
func inEpoch(w impl.World, epoch int) impl.World {
	w = copyOfWorld(w)
	w.Epoch = epoch
	for at := range w.Nodes {
		w.Nodes[at].Epoch = epoch
	}
	return w
}

func withLog(w impl.World, log ...impl.Vote) impl.World {
	w = copyOfWorld(w)
	w.Log = deepCopy(log)
	return w
}

// withNode is the world with another one in the node's place.
func withNode(w impl.World, n impl.Node) impl.World {
	w = copyOfWorld(w)
	w.Nodes[n.Id-1] = n
	return w
}

// The model: what a world is behind an event, and behind calm epochs, told by another way than the program's, of worlds that are ok.
// It writes into the world that it is given.
func sendBy(w *impl.World, a answer) {
	w.Nodes[a.node.Id-1] = a.node
	if a.told && !among(w.Log, a.vote) {
		w.Log = append(w.Log, a.vote)
	}
}

func doBy(w *impl.World, e impl.Event) {
	room := len(w.Log) < 80
	switch {
	case e.Kind == 1 && w.Epoch < 30:
		*w = inEpoch(*w, w.Epoch+1)
	case e.Kind == 2 && room && slices.Contains(honestIn(w.Bad), e.A) && impl.PayOk(e.Pay):
		sendBy(w, proposedBy(w.Nodes[e.A-1], e.Pay))
	case e.Kind == 3 && room && slices.Contains(honestIn(w.Bad), e.B) && 0 <= e.A && e.A < len(w.Log):
		sendBy(w, heardBy(w.Nodes[e.B-1], w.Log[e.A]))
	case e.Kind == 4 && room && impl.VoteOk(e.Vote) && e.Vote.By == w.Bad && !among(w.Log, e.Vote):
		w.Log = append(w.Log, e.Vote)
	}
}

func doneBy(w impl.World, events ...impl.Event) impl.World {
	w = copyOfWorld(w)
	for _, e := range events {
		doBy(&w, e)
	}
	return w
}

func spreadBy(w *impl.World) {
	for place := 0; place < len(w.Log); place++ {
		for id := 1; id <= 4; id++ {
			doBy(w, bring(place, id))
		}
	}
}

func calmBy(w impl.World, pays ...impl.Pay) impl.World {
	w = copyOfWorld(w)
	for _, p := range pays {
		doBy(&w, tick())
		spreadBy(&w)
		doBy(&w, propose(leads(w.Epoch), p))
		spreadBy(&w)
	}
	return w
}

func cameBy(w impl.World, votes []impl.Vote) bool {
	return !slices.ContainsFunc(votes, func(v impl.Vote) bool { return v.By != w.Bad && !among(w.Log, v) })
}

func okWorldBy(w impl.World) bool {
	if w.Epoch < 0 || w.Epoch > 30 || w.Bad < 0 || w.Bad > 4 || len(w.Nodes) != 4 || len(w.Log) > 80 || !impl.VotesOk(w.Log) {
		return false
	}
	for at, n := range w.Nodes {
		if !impl.NodeOk(n) || n.Id != at+1 || n.Epoch != w.Epoch || !cameBy(w, n.Seen) {
			return false
		}
	}
	return true
}

// director draws a play: what comes next hangs on how the world is by then, so that much becomes sure, in spite of the bad node.
type director struct {
	r      *rand.Rand
	w      impl.World
	pace   int  // an epoch has some so many events at most
	deaf   int  // who hears nothing for now; 0, if all do
	silent bool // nothing is forged
}

func (d *director) next() impl.Event {
	if e := drawEvent(d.r, d.w); d.r.IntN(30) == 0 && !(d.silent && e.Kind == impl.EvForge) {
		return e
	}
	if d.w.Epoch == 0 || d.r.IntN(d.pace) == 0 {
		return d.enter()
	}
	if e, ok := d.lead(); ok && d.r.IntN(3) > 0 {
		return e
	}
	if e, ok := d.help(); ok && d.r.IntN(6) == 0 {
		return e
	}
	if e, ok := d.tell(); ok {
		return e
	}
	return d.enter()
}

func (d *director) enter() impl.Event {
	d.deaf = max(0, d.r.IntN(12)-7)
	return tick()
}

// lead is what the leader of the epoch does, or, being bad, for two chains of that, or ahead of one of its next epochs.
func (d *director) lead() (impl.Event, bool) {
	leader := leads(d.w.Epoch)
	if leader != d.w.Bad {
		n := d.w.Nodes[leader-1]
		return propose(leader, pay(1+d.r.IntN(2), 3, 1+d.r.IntN(2))), n.Voted < n.Epoch
	}
	own := keep(d.w.Log, func(v impl.Vote) bool { return v.By == leader && lastEpoch(v.Chain) == d.w.Epoch })
	return forge(d.two(d.w.Epoch + 4*(d.r.IntN(8)/7))), len(own) < 2 && !d.silent
}

// two is mostly behind a longest sure chain, sometimes behind any.
func (d *director) two(epoch int) impl.Vote {
	sure := sureChains(d.w.Log)
	ahead := firstLongest(sure)
	if d.r.IntN(3) == 0 {
		ahead = sure[d.r.IntN(len(sure))]
	}
	return vote(d.w.Bad, with(ahead, item(epoch, 1, 2, 1+d.r.IntN(3))))
}

// help is a vote of the bad node for what others are for.
func (d *director) help() (impl.Event, bool) {
	lacking := keep(d.w.Log, func(v impl.Vote) bool { return !among(d.w.Log, vote(d.w.Bad, v.Chain)) })
	if d.w.Bad == 0 || d.silent || len(lacking) == 0 {
		return impl.Event{}, false
	}
	late := max(0, len(lacking)-4)
	return forge(vote(d.w.Bad, lacking[late+d.r.IntN(len(lacking)-late)].Chain)), true
}

// tell brings what was not seen, or may be voted for by now: mostly the earliest of it, so that some of it comes in time.
func (d *director) tell() (impl.Event, bool) {
	var unseen []impl.Event
	for place, v := range d.w.Log {
		for _, n := range honest(d.w) {
			again := lastEpoch(v.Chain) == n.Epoch && n.Voted < n.Epoch && v.By == leads(n.Epoch) && d.r.IntN(4) == 0
			if n.Id != v.By && n.Id != d.deaf && (again || !among(n.Seen, v)) {
				unseen = append(unseen, bring(place, n.Id))
			}
		}
	}
	if len(unseen) == 0 {
		return impl.Event{}, false
	}
	if d.r.IntN(3) > 0 {
		return unseen[d.r.IntN(min(4, len(unseen)))], true
	}
	return unseen[d.r.IntN(len(unseen))], true
}

// drawEvent is of any kind, also of none, and of nodes, places and votes that there are, or not.
func drawEvent(r *rand.Rand, w impl.World) impl.Event {
	e := impl.Event{Kind: r.IntN(7) - 1, A: r.IntN(7) - 1, B: r.IntN(7) - 1, Pay: drawPay(r), Vote: vote(r.IntN(7)-1, drawChain(r))}
	if e.Kind == impl.EvBring {
		e.A = r.IntN(len(w.Log)+3) - 1
	}
	if r.IntN(8) == 0 {
		e.Pay = wrongPays()[r.IntN(len(wrongPays()))]
	}
	if len(w.Log) > 0 && r.IntN(2) == 0 {
		e.Vote.Chain = w.Log[r.IntN(len(w.Log))].Chain
	}
	return e
}

func drawPlay(r *rand.Rand, bad int, size int) []impl.Event {
	return directorOf(r, bad).draw(size)
}

func directorOf(r *rand.Rand, bad int) *director {
	return &director{r: r, w: newWorld(bad), pace: []int{16, 30, 60, 100}[r.IntN(4)]}
}

func (d *director) draw(size int) []impl.Event {
	var events []impl.Event
	for range size {
		e := d.next()
		events = append(events, e)
		doBy(&d.w, e)
	}
	return events
}

// play is events, and how the world is, by the program, ahead of all, and behind each of them.
type play struct {
	bad    int
	events []impl.Event
	worlds []impl.World
}

func (p play) end() impl.World {
	return p.worlds[len(p.worlds)-1]
}

func playOf(bad int, events ...impl.Event) play {
	w, _ := impl.WorldNew(bad)
	p := play{bad, events, []impl.World{w}}
	for _, e := range events {
		behind := impl.WorldDo(w, e)
		shareSame(w, behind)
		w = behind
		p.worlds = append(p.worlds, w)
	}
	return p
}

// shareSame keeps but once what is the same behind an event, so that all plays have room.
func shareSame(ahead, behind impl.World) {
	for at := range behind.Nodes {
		if at < len(ahead.Nodes) && sameNode(ahead.Nodes[at], behind.Nodes[at]) {
			behind.Nodes[at] = ahead.Nodes[at]
		}
	}
}

// somePlays are told ones, and drawn ones, most of just PlayMax events, with each of the nodes bad, and with none.
// Each is drawn on its own, so that they can be made side by side.
var somePlays = sync.OnceValue(func() []play {
	plays := make([]play, 150)
	var making sync.WaitGroup
	for n := range plays {
		making.Go(func() {
			r := rand.New(rand.NewPCG(21, uint64(n)))
			size := impl.PlayMax
			if n%10 == 9 {
				size = r.IntN(impl.PlayMax)
			}
			plays[n] = playOf(n%5, drawPlay(r, n%5, size)...)
		})
	}
	making.Wait()
	return append(toldPlays(), plays...)
})

// forAllPlayed goes through the worlds behind each event of each play that changed anything.
func forAllPlayed(t *testing.T, check func(what string, w impl.World)) {
	t.Helper()
	for at, p := range somePlays() {
		for n, w := range p.worlds {
			if n == 0 || !sameWorld(p.worlds[n-1], w) {
				check(playAt(at, n), w)
			}
		}
	}
}

// forAllEnds goes through the worlds in the end of each play, and some on the way.
func forAllEnds(t *testing.T, check func(what string, w impl.World)) {
	t.Helper()
	for at, p := range somePlays() {
		for n := len(p.worlds) - 1; n >= 0; n -= 23 {
			check(playAt(at, n), p.worlds[n])
		}
	}
}

func playAt(play, events int) string {
	return "play " + strconv.Itoa(play) + " behind " + strconv.Itoa(events)
}

// bringAll are the events that bring the votes of these places to these nodes, each in turn.
func bringAll(ids []int, places ...int) []impl.Event {
	var events []impl.Event
	for _, place := range places {
		for _, id := range ids {
			events = append(events, bring(place, id))
		}
	}
	return events
}

// script is a play that is told, event by event, by how the world should be by then.
type script struct {
	w      impl.World
	events []impl.Event
}

func scriptOf(bad int) *script {
	return &script{w: newWorld(bad)}
}

func (s *script) do(events ...impl.Event) {
	for _, e := range events {
		s.events = append(s.events, e)
		doBy(&s.w, e)
	}
}

func (s *script) play() play {
	return playOf(s.w.Bad, s.events...)
}

// bad lets the bad node vote for these chains.
func (s *script) bad(chains ...[]impl.Item) {
	for _, c := range chains {
		s.do(forge(vote(s.w.Bad, c)))
	}
}

// tell brings the votes of some nodes for a chain to another one.
func (s *script) tell(to int, c []impl.Item, by ...int) {
	for _, v := range votesOf(c, by...) {
		s.do(bring(slices.IndexFunc(s.w.Log, func(u impl.Vote) bool { return same(u, v) }), to))
	}
}

// propose is the leader's, behind its tip, with the payment that rowAt has in the epoch.
func (s *script) propose() {
	s.do(propose(leads(s.w.Epoch), rowAt(s.w.Epoch)[0].Pay))
}

// lastOfThree is a play in which node 1 sees three sure items in a row, and all others go on behind the second of them:
// were the third one final, too, two would be.
func lastOfThree() play {
	s := scriptOf(4)
	a, x := rowAt(1, 2, 3), rowAt(1, 2, 4, 6, 7, 8)
	s.do(tick())
	s.propose()
	s.tell(2, a[:1], 1)
	s.tell(3, a[:1], 1, 2)
	s.tell(2, a[:1], 3)
	s.do(tick())
	s.propose()
	s.tell(1, a[:1], 2, 3)
	s.tell(1, a[:2], 2)
	s.tell(3, a[:2], 2, 1)
	s.do(tick())
	s.propose()
	s.tell(1, a[:2], 3)
	s.tell(1, a, 3)
	s.bad(a)
	s.tell(1, a, 4)
	s.do(tick())
	s.tell(2, a[:2], 1, 3)
	s.bad(x[:3])
	s.tell(2, x[:3], 4)
	s.tell(3, x[:3], 4, 2)
	s.tell(2, x[:3], 3)
	s.do(tick(), tick())
	s.propose()
	s.bad(x[:4])
	s.tell(3, x[:4], 2, 4)
	s.tell(2, x[:4], 3, 4)
	s.do(tick())
	s.propose()
	s.bad(x[:5])
	s.tell(2, x[:5], 3, 4)
	s.do(tick())
	s.bad(x)
	s.tell(3, x[:5], 2, 4)
	s.tell(3, x, 4)
	s.tell(2, x, 4, 3)
	return s.play()
}

// twoOfTwo is a play in which two chains that go apart in their first items have two sure items in a row each, and one more behind:
// were two in a row enough, two would be final.
func twoOfTwo() play {
	s := scriptOf(4)
	a, x := rowAt(2, 3, 6), rowAt(1, 4, 5, 7)
	s.do(tick())
	s.propose()
	s.tell(2, x[:1], 1)
	s.tell(3, x[:1], 1)
	s.do(tick())
	s.propose()
	s.bad(a[:1])
	s.tell(3, a[:1], 2, 4)
	s.tell(2, a[:1], 3, 4)
	s.do(tick())
	s.propose()
	s.bad(a[:2])
	s.tell(2, a[:2], 3, 4)
	s.do(tick())
	s.bad(x[:2])
	s.tell(1, x[:1], 2, 3)
	s.tell(1, x[:2], 4)
	s.tell(3, x[:1], 2)
	s.tell(3, x[:2], 4, 1)
	s.tell(1, x[:2], 3)
	s.do(tick())
	s.propose()
	s.bad(x[:3])
	s.tell(3, x[:3], 1)
	s.tell(1, x[:3], 4, 3)
	s.do(tick())
	s.propose()
	s.bad(a)
	s.tell(3, a[:2], 2, 4)
	s.tell(3, a, 2)
	s.tell(2, a, 3, 4)
	s.do(tick())
	s.tell(3, x[:3], 4)
	s.propose()
	s.bad(x)
	s.tell(1, x, 3, 4)
	return s.play()
}

// twoInTurn is a play in which two chains grow in turn, each with three sure items: were it enough that they are behind each other,
// also with one epoch between, two would be final.
func twoInTurn() play {
	s := scriptOf(4)
	a, x := rowAt(1, 3, 5), rowAt(2, 4, 6)
	s.do(tick())
	s.propose()
	s.tell(3, a[:1], 1)
	s.bad(a[:1])
	s.do(tick())
	s.propose()
	s.tell(1, x[:1], 2)
	s.bad(x[:1])
	s.do(tick())
	s.tell(3, a[:1], 4)
	s.propose()
	s.tell(1, a[:1], 3, 4)
	s.tell(1, a[:2], 3)
	s.bad(a[:2])
	s.do(tick())
	s.bad(x[:2])
	s.tell(1, x[:1], 4)
	s.tell(1, x[:2], 4)
	s.tell(2, x[:1], 1, 4)
	s.tell(2, x[:2], 4)
	s.do(tick())
	s.tell(1, a[:2], 4)
	s.propose()
	s.bad(a)
	s.tell(3, a[:2], 1, 4)
	s.tell(3, a, 1, 4)
	s.do(tick())
	s.tell(2, x[:2], 1)
	s.propose()
	s.bad(x)
	s.tell(1, x[:2], 2)
	s.tell(1, x, 2)
	s.tell(2, x, 1, 4)
	return s.play()
}

// twoSides is a play in which the bad node is for what each of two sides is for: were two votes enough, two would be final.
func twoSides() play {
	s := scriptOf(4)
	a, b := rowAt(4, 5, 6), rowAt(2, 3, 4)
	s.do(tick(), tick())
	s.propose()
	s.tell(3, b[:1], 2)
	s.bad(b[:1])
	s.tell(3, b[:1], 4)
	s.do(tick())
	s.propose()
	s.bad(b[:2])
	s.tell(3, b[:2], 4)
	s.do(tick())
	s.bad(b, a[:1])
	s.tell(3, b, 4)
	s.tell(1, a[:1], 4)
	s.tell(2, a[:1], 4, 1)
	s.tell(1, a[:1], 2)
	s.do(tick())
	s.propose()
	s.bad(a[:2])
	s.tell(2, a[:2], 1, 4)
	s.tell(1, a[:2], 2, 4)
	s.do(tick())
	s.propose()
	s.bad(a)
	s.tell(1, a, 2, 4)
	return s.play()
}

// forOthers is a play in which the bad node would vote for others, too: could it, two would be final.
func forOthers() play {
	s := scriptOf(4)
	for _, v := range join(votesUp(rowAt(1, 2, 3), 1, 2, 3, 4), votesUp(rowAt(5, 6, 7), 1, 2, 3, 4)) {
		s.do(forge(v))
	}
	for place := range 12 {
		s.do(bring(place, 1), bring(12+place, 2))
	}
	return s.play()
}

// twoOfOneLeader is a play in which the bad leader of the first epoch is for two chains, each of which some vote for.
func twoOfOneLeader() play {
	s := scriptOf(1)
	a, b := rowAt(1), []impl.Item{item(1, 3, 2, 9)}
	s.do(tick())
	s.bad(a, b)
	s.tell(2, a, 1)
	s.tell(3, a, 1)
	s.tell(4, b, 1)
	for _, id := range []int{2, 3, 4} {
		s.tell(id, a, 1, 2, 3)
		s.tell(id, b, 1, 4)
	}
	s.do(tick())
	s.propose()
	s.do(bringAll([]int{2, 3, 4}, 5, 6, 7)...)
	s.do(tick())
	s.propose()
	s.do(bringAll([]int{2, 3, 4}, 8, 9, 10)...)
	s.do(tick())
	s.propose()
	s.do(bringAll([]int{2, 3, 4}, 11, 12, 13)...)
	return s.play()
}

// allInTime is a play without a bad node, in which all comes at once, as far as the events go.
func allInTime() play {
	s := scriptOf(0)
	for len(s.events) < impl.PlayMax {
		s.do(tick())
		s.propose()
		for place := len(s.w.Log) - 1; place < len(s.w.Log) && len(s.events) < impl.PlayMax; place++ {
			for id := 1; id <= impl.NodeMax && len(s.events) < impl.PlayMax; id++ {
				if id != s.w.Log[place].By {
					s.do(bring(place, id))
				}
			}
		}
	}
	return s.play()
}

// fullOfForged is a play in which the bad node sends as much as there are events for.
func fullOfForged() play {
	s := scriptOf(2)
	s.do(tick())
	s.propose()
	for _, v := range fillers(2, impl.PlayMax-2) {
		s.do(forge(v))
	}
	return s.play()
}

// dream is a play of what would be, were a rule broken: what would be sent then is told, as it is not by the rules.
type dream struct {
	bad    int
	log    []impl.Vote
	events []impl.Event
}

func (d *dream) enter(epochs int) {
	d.events = append(d.events, ticks(epochs)...)
}

func (d *dream) propose(by int, c []impl.Item) {
	d.events = append(d.events, propose(by, c[len(c)-1].Pay))
	d.log = append(d.log, vote(by, c))
}

func (d *dream) forge(chains ...[]impl.Item) {
	for _, c := range chains {
		d.events = append(d.events, forge(vote(d.bad, c)))
		d.log = append(d.log, vote(d.bad, c))
	}
}

func (d *dream) tell(to int, c []impl.Item, by ...int) {
	for _, v := range votesOf(c, by...) {
		d.events = append(d.events, bring(slices.IndexFunc(d.log, func(u impl.Vote) bool { return same(u, v) }), to))
	}
}

// win tells a node what one is for, and it would vote for that, too.
func (d *dream) win(to int, c []impl.Item, by int) {
	d.tell(to, c, by)
	d.log = append(d.log, vote(to, c))
}

// behindShorter is a play in which node 3, that has seen a sure chain of two, is asked to vote behind shorter ones:
// would it, what node 1 holds for final would not be all that is.
func behindShorter() play {
	d := &dream{bad: 4}
	a, x := rowAt(3, 4, 5), rowAt(6, 8, 14, 15, 16)
	d.enter(3)
	d.propose(3, a[:1])
	d.win(1, a[:1], 3)
	d.forge(a[:1])
	d.enter(1)
	d.forge(a[:2])
	d.tell(1, a[:1], 4)
	d.win(1, a[:2], 4)
	d.tell(3, a[:1], 1, 4)
	d.win(3, a[:2], 4)
	d.enter(1)
	d.tell(1, a[:2], 3)
	d.propose(1, a)
	d.tell(3, a[:2], 1)
	d.win(3, a, 1)
	d.forge(a)
	d.tell(1, a, 3, 4)
	d.enter(1)
	d.propose(2, x[:1])
	d.win(3, x[:1], 2)
	d.forge(x[:1])
	d.enter(2)
	d.forge(x[:2])
	d.tell(2, x[:1], 3, 4)
	d.win(2, x[:2], 4)
	d.tell(3, x[:1], 4)
	d.win(3, x[:2], 4)
	d.enter(6)
	d.tell(2, x[:2], 3)
	d.propose(2, x[:3])
	d.tell(3, x[:2], 2)
	d.win(3, x[:3], 2)
	d.forge(x[:3])
	d.enter(1)
	d.tell(3, x[:3], 4)
	d.propose(3, x[:4])
	d.tell(2, x[:3], 3, 4)
	d.win(2, x[:4], 3)
	d.forge(x[:4])
	d.enter(1)
	d.forge(x)
	d.tell(2, x[:4], 4)
	d.win(2, x, 4)
	d.tell(3, x[:4], 2, 4)
	d.win(3, x, 4)
	d.tell(2, x, 3)
	return playOf(d.bad, d.events...)
}

// moreThanOnce is a play in which node 1 would vote for two chains of one epoch, twice: then two would be final.
func moreThanOnce() play {
	d := &dream{bad: 2}
	a, b := rowAt(1, 2, 3), append([]impl.Item{item(1, 3, 2, 9)}, rowAt(2, 4, 5, 6)...)
	d.enter(1)
	d.propose(1, a[:1])
	d.propose(1, b[:1])
	d.forge(a[:1], b[:1])
	d.win(3, a[:1], 1)
	d.win(4, b[:1], 1)
	d.enter(1)
	d.forge(a[:2], b[:2])
	d.tell(1, a[:1], 3, 2)
	d.tell(1, b[:2], 2)
	d.win(1, a[:2], 2)
	d.tell(1, b[:1], 4, 2)
	d.log = append(d.log, vote(1, b[:2]))
	d.tell(3, a[:1], 2)
	d.win(3, a[:2], 2)
	d.tell(4, b[:1], 2)
	d.win(4, b[:2], 2)
	d.enter(1)
	d.tell(3, a[:2], 1)
	d.propose(3, a)
	d.tell(1, a[:2], 3)
	d.win(1, a, 3)
	d.forge(a)
	d.tell(3, a, 1, 2)
	d.enter(1)
	d.tell(4, b[:2], 1)
	d.propose(4, b[:3])
	d.forge(b[:3])
	d.tell(1, b[:2], 4)
	d.win(1, b[:3], 4)
	d.enter(1)
	d.tell(1, b[:3], 2)
	d.propose(1, b[:4])
	d.forge(b[:4])
	d.tell(4, b[:3], 1, 2)
	d.win(4, b[:4], 1)
	d.enter(1)
	d.forge(b)
	d.tell(4, b[:4], 2)
	d.win(4, b, 2)
	d.tell(1, b[:4], 4, 2)
	d.win(1, b, 2)
	d.tell(4, b, 1)
	return playOf(d.bad, d.events...)
}

// toldPlays are such as are not likely to be drawn.
func toldPlays() []play {
	return []play{
		playOf(0),
		playOf(1),
		playOf(impl.NodeMax),
		playOf(3, ticks(impl.PlayMax)...),
		lastOfThree(),
		twoOfTwo(),
		twoInTurn(),
		twoSides(),
		forOthers(),
		behindShorter(),
		moreThanOnce(),
		twoOfOneLeader(),
		allInTime(),
		fullOfForged(),
	}
}
