package tests

import (
	"math"
	"math/rand/v2"
	"slices"
	"testing"

	"loop.example/witan/impl"
)

func vote(by int, c []impl.Item) impl.Vote {
	return impl.Vote{By: by, Chain: c}
}

// oddNodes are the numbers around the limits of nodes and epochs, and the ends of int.
func oddNodes() []int {
	odd := []int{math.MinInt, math.MinInt + 1, math.MinInt + 4, math.MaxInt - 3, math.MaxInt, 1 << 32, 1<<32 + 1, 1<<62 + 1}
	for n := -9; n <= impl.EpochMax+9; n++ {
		odd = append(odd, n)
	}
	return odd
}

// voteChains are ok, and hard to tell from each other: some begin others, some have one epoch with other payments.
func voteChains() [][]impl.Item {
	full := rowOf(1, impl.ChainMax)
	return [][]impl.Item{
		full[:1],
		full[:2],
		full[:impl.ChainMax-1],
		full,
		{item(1, 2, 3, 3)},
		{item(1, 2, 3, 2), item(3, 1, 2, 4)},
		{item(2, 2, 3, 2)},
		{item(12, 1, 2, 1)},
		{item(1, 1, 2, 1), item(12, 1, 2, 1)},
		{item(1, 1, 2, 1), item(2, 1, 2, 1)},
		{item(impl.EpochMax, 3, 2, 9)},
		rowOf(impl.EpochMax-impl.ChainMax+1, impl.ChainMax),
	}
}

// allVotes are those of each node for each of the chains.
func allVotes(chains [][]impl.Item) []impl.Vote {
	var list []impl.Vote
	for _, c := range chains {
		for by := 1; by <= impl.NodeMax; by++ {
			list = append(list, vote(by, c))
		}
	}
	return list
}

func drawOrder(r *rand.Rand, list []impl.Vote) []impl.Vote {
	list = slices.Clone(list)
	r.Shuffle(len(list), func(i, j int) { list[i], list[j] = list[j], list[i] })
	return list
}

// someVotes are ok: the edges, and drawn ones.
func someVotes() [][]impl.Vote {
	chains := voteChains()
	every := allVotes(chains)
	lists := [][]impl.Vote{
		nil,
		{},
		{vote(1, chains[0])},
		{vote(impl.NodeMax, chains[3])},
		allVotes(chains[:1]),
		allVotes(chains[3:4]),
		{vote(4, chains[0]), vote(3, chains[0]), vote(2, chains[0]), vote(1, chains[0])},
		{vote(2, chains[0]), vote(2, chains[1])},
		{vote(2, chains[1]), vote(2, chains[0])},
		{vote(3, chains[3]), vote(3, chains[2]), vote(1, chains[2])},
		every,
	}
	var ofOne []impl.Vote
	for _, c := range chains {
		ofOne = append(ofOne, vote(3, c))
	}
	lists = append(lists, ofOne)
	r := newDraw()
	for range 60 {
		lists = append(lists, drawOrder(r, every)[:r.IntN(len(every)+1)])
	}
	return lists
}

// wrongVotes are just not in form, each for one reason.
func wrongVotes() map[string]impl.Vote {
	good := rowOf(1, 2)
	wrong := map[string]impl.Vote{
		"nothing":             {},
		"for nothing":         vote(1, nil),
		"for the empty chain": vote(impl.NodeMax, good[:0]),
		"by nobody":           vote(0, good),
		"by one too many":     vote(impl.NodeMax+1, good),
		"by one below 0":      vote(-1, good),
		"by the least":        vote(math.MinInt, good),
		"by the greatest":     vote(math.MaxInt, good),
		"by 1 and 2 of 32":    vote(1<<32+1, good),
		"by nobody, nothing":  vote(0, nil),
	}
	for why, c := range wrongChains() {
		wrong["chain: "+why] = vote(1, c)
	}
	return wrong
}

func same(a, b impl.Vote) bool {
	return a.By == b.By && slices.Equal(a.Chain, b.Chain)
}

func among(list []impl.Vote, v impl.Vote) bool {
	return slices.ContainsFunc(list, func(u impl.Vote) bool { return same(u, v) })
}

// nodesFor tells by another way than the program's who is for a chain, by votes that are ok.
func nodesFor(list []impl.Vote, c []impl.Item) []int {
	var nodes []int
	for _, v := range list {
		if slices.Equal(v.Chain, c) {
			nodes = append(nodes, v.By)
		}
	}
	slices.Sort(nodes)
	return nodes
}

func wantVotes(t *testing.T, what string, got, want []impl.Vote) {
	t.Helper()
	if !slices.EqualFunc(got, want, same) {
		t.Fatalf("%s: got %v, want %v", what, got, want)
	}
}

func wantNodes(t *testing.T, what string, got, want []int) {
	t.Helper()
	if !slices.Equal(got, want) {
		t.Fatalf("%s: got %v, want %v", what, got, want)
	}
}

// deepCopy is told by another way than the program's: no two of its chains share memory.
func deepCopy(list []impl.Vote) []impl.Vote {
	var out []impl.Vote
	for _, v := range list {
		out = append(out, vote(v.By, append([]impl.Item{}, v.Chain...)))
	}
	return out
}

// guardedVotes is a copy of the votes with room behind the list, and behind each chain, and a check that all of that stayed.
func guardedVotes(t *testing.T, list []impl.Vote) ([]impl.Vote, func(what string)) {
	var chains [][]impl.Item
	var votes []impl.Vote
	for _, v := range list {
		c, all := guarded(v.Chain)
		chains = append(chains, all)
		votes = append(votes, vote(v.By, c))
	}
	votes, room := guard(votes, vote(77, rowOf(7, 7)))
	chainsWere := [][]impl.Item{}
	for _, c := range chains {
		chainsWere = append(chainsWere, slices.Clone(c))
	}
	roomWas := deepCopy(room)
	return votes, func(what string) {
		t.Helper()
		for i := range chains {
			wantSame(t, what+": a chain of an argument", chains[i], chainsWere[i])
		}
		wantVotes(t, what+": an argument", room, roomWas)
	}
}

// spoilVotes writes over all memory of the votes, their chains' and all spare room included.
func spoilVotes(list []impl.Vote) {
	list = list[:cap(list)]
	for i := range list {
		spoil(list[i].Chain)
	}
	for i := range list {
		list[i] = vote(-99, nil)
	}
}

func TestQuorumIsTheDocuments(t *testing.T) {
	if impl.Quorum != 3 {
		t.Fatal(impl.Quorum)
	}
}

func TestPromise22LeadersInTurn(t *testing.T) {
	for e := 1; e < impl.EpochMax; e++ {
		if impl.VoteLeader(e) == impl.VoteLeader(e+1) {
			t.Fatal("another one in the next epoch", e)
		}
	}
	for e := 1; e+impl.NodeMax <= impl.EpochMax; e++ {
		if impl.VoteLeader(e) != impl.VoteLeader(e+impl.NodeMax) {
			t.Fatal("the same NodeMax epochs later", e)
		}
	}
	for e := 1; e+impl.NodeMax-1 <= impl.EpochMax; e++ {
		var row []int
		for more := range impl.NodeMax {
			row = append(row, impl.VoteLeader(e+more))
		}
		slices.Sort(row)
		wantNodes(t, "of as many in a row each once", row, []int{1, 2, 3, 4})
	}
	for _, e := range oddNodes() {
		if leader := impl.VoteLeader(e); (leader == 0) != (e < 1 || e > impl.EpochMax) {
			t.Fatal("of no epoch 0", e, leader)
		}
	}
}

func TestLeaderIsTheDocuments(t *testing.T) {
	for epoch, leader := range map[int]int{
		math.MinInt: 0, -4: 0, -3: 0, -1: 0, 0: 0,
		1: 1, 2: 2, 3: 3, 4: 4, 5: 1, 6: 2, 7: 3, 8: 4, 9: 1, 28: 4, 29: 1, impl.EpochMax: 2,
		impl.EpochMax + 1: 0, 32: 0, 33: 0, 1<<32 + 1: 0, math.MaxInt: 0,
	} {
		if got := impl.VoteLeader(epoch); got != leader {
			t.Errorf("epoch %d: got %d, want %d", epoch, got, leader)
		}
	}
}

func TestPromise23InForm(t *testing.T) {
	chains := append(someChains(), voteChains()...)
	for _, c := range wrongChains() {
		chains = append(chains, c)
	}
	for _, c := range chains {
		for _, by := range oddNodes() {
			ok := 1 <= by && by <= impl.NodeMax && len(c) > 0 && impl.ChainOk(c)
			if impl.VoteOk(vote(by, c)) != ok {
				t.Fatal(by, c, !ok)
			}
		}
	}
}

func TestVoteOkEdges(t *testing.T) {
	for _, c := range [][]impl.Item{{item(1, 1, 2, 1)}, {item(impl.EpochMax, 3, 1, 9)}, rowOf(1, impl.ChainMax)} {
		for by, ok := range map[int]bool{-1: false, 0: false, 1: true, 2: true, 3: true, impl.NodeMax: true, impl.NodeMax + 1: false} {
			if impl.VoteOk(vote(by, c)) != ok {
				t.Error(by, c, !ok)
			}
		}
	}
	for why, v := range wrongVotes() {
		if impl.VoteOk(v) {
			t.Error("is not in form:", why)
		}
	}
}

// checkAdd holds what VotesAdd answers, of votes that are ok, and one in form, against the document.
func checkAdd(t *testing.T, list []impl.Vote, v impl.Vote) {
	t.Helper()
	got, added := impl.VotesAdd(list, v)
	if added == among(list, v) {
		t.Fatal("true just if it was not among them", added, list, v)
	}
	if !impl.VotesOk(got) {
		t.Fatal("all are ok", got)
	}
	if added {
		wantVotes(t, "behind all", got, append(slices.Clone(list), v))
	} else {
		wantVotes(t, "all stay", got, list)
	}
}

func TestPromise24BehindAll(t *testing.T) {
	for _, list := range someVotes() {
		for _, v := range allVotes(voteChains()) {
			checkAdd(t, list, v)
		}
	}
}

func TestAddOneByOne(t *testing.T) {
	for _, list := range someVotes() {
		var got []impl.Vote
		for n, v := range list {
			more, added := impl.VotesAdd(got, v)
			if !added {
				t.Fatal("is not added", v)
			}
			wantVotes(t, "one by one", more, list[:n+1])
			again, added := impl.VotesAdd(more, v)
			if added {
				t.Fatal("is added twice", v)
			}
			wantVotes(t, "once more", again, more)
			got = more
		}
		for _, v := range list {
			checkAdd(t, got, v)
		}
	}
}

// No limit of a later layer holds of votes here: there may be any number.
func TestManyVotes(t *testing.T) {
	var chains [][]impl.Item
	for e := 1; e <= impl.EpochMax; e++ {
		for _, p := range okPays() {
			chains = append(chains, []impl.Item{{Epoch: e, Pay: p}})
		}
	}
	every := allVotes(chains)
	if !impl.VotesOk(every) {
		t.Fatal("all votes for chains of one item")
	}
	for _, n := range []int{79, 80, 81, 200, len(every) - 1} {
		checkAdd(t, every[:n], every[n])
		checkAdd(t, every[:n], every[n/2])
	}
	for _, c := range [][]impl.Item{chains[0], chains[len(chains)/2], chains[len(chains)-1]} {
		wantNodes(t, "all nodes", impl.VotesFor(every, c), []int{1, 2, 3, 4})
	}
	if impl.VotesOk(append(every, every[0])) {
		t.Fatal("the first is the last, too")
	}
}

func TestPromise25JustThose(t *testing.T) {
	asked := append(someChains()[:20], voteChains()...)
	for _, list := range someVotes() {
		for _, c := range asked {
			got := impl.VotesFor(list, c)
			wantNodes(t, "just those", got, nodesFor(list, c))
			if !slices.IsSorted(got) {
				t.Fatal("ascending", got)
			}
			if slices.ContainsFunc(got, func(n int) bool { return !among(list, vote(n, c)) }) {
				t.Fatal("no such vote is there", got)
			}
		}
	}
}

func TestPromise25NoLessWithOneMore(t *testing.T) {
	r := newDraw()
	for _, list := range someVotes() {
		for range 10 {
			v := vote(1+r.IntN(impl.NodeMax), voteChains()[r.IntN(12)])
			more, _ := impl.VotesAdd(list, v)
			for _, c := range voteChains() {
				now := impl.VotesFor(more, c)
				for _, n := range impl.VotesFor(list, c) {
					if !slices.Contains(now, n) {
						t.Fatal("less", list, v, c)
					}
				}
			}
		}
	}
}

// Each set of the votes of all nodes for three chains, of which one begins another.
func TestVotesForOfAllSmallSets(t *testing.T) {
	chains := [][]impl.Item{{item(1, 1, 2, 1)}, {item(1, 1, 2, 1), item(2, 1, 2, 1)}, {item(2, 1, 2, 1)}}
	every := allVotes(chains)
	for which := range 1 << len(every) {
		var list []impl.Vote
		for i := range every {
			if which>>i&1 == 1 {
				list = append(list, every[len(every)-1-i])
			}
		}
		if !impl.VotesOk(list) {
			t.Fatal("is ok", list)
		}
		for _, c := range chains {
			wantNodes(t, "of a small set", impl.VotesFor(list, c), nodesFor(list, c))
		}
	}
}

func TestVotesForEdges(t *testing.T) {
	one, two := rowOf(1, 1), rowOf(1, 2)
	list := []impl.Vote{vote(4, two), vote(1, two), vote(3, two), vote(2, one), vote(4, one)}
	wantNodes(t, "ascending, not as they came", impl.VotesFor(list, two), []int{1, 3, 4})
	wantNodes(t, "a vote for more is none for its beginning", impl.VotesFor(list, one), []int{2, 4})
	wantNodes(t, "a vote for a beginning is none for more", impl.VotesFor(list, rowOf(1, 3)), nil)
	wantNodes(t, "for nothing", impl.VotesFor(list, nil), nil)
	wantNodes(t, "for the empty chain", impl.VotesFor(list, one[:0]), nil)
	wantNodes(t, "without votes", impl.VotesFor(nil, one), nil)
	wantNodes(t, "without votes for nothing", impl.VotesFor([]impl.Vote{}, nil), nil)
	full := rowOf(1, impl.ChainMax)
	wantNodes(t, "a full chain", impl.VotesFor(allVotes([][]impl.Item{full}), full), []int{1, 2, 3, 4})
	for why, c := range wrongChains() {
		if got := impl.VotesFor(list, c); len(got) != 0 {
			t.Error("for a chain that is not ok:", why, got)
		}
	}
}

func TestPromise26OkInAnyOrder(t *testing.T) {
	if !impl.VotesOk(nil) || !impl.VotesOk([]impl.Vote{}) {
		t.Fatal("without any they are ok")
	}
	r := newDraw()
	for _, list := range someVotes() {
		turnedAbout := slices.Clone(list)
		slices.Reverse(turnedAbout)
		if !impl.VotesOk(list) || !impl.VotesOk(turnedAbout) {
			t.Fatal("are ok", list)
		}
		for range 5 {
			if !impl.VotesOk(drawOrder(r, list)) {
				t.Fatal("in any order", list)
			}
		}
	}
}

func TestPromise26AnyTwice(t *testing.T) {
	for _, list := range someVotes()[:16] {
		for _, v := range list {
			for at := range len(list) + 1 {
				twice := slices.Insert(slices.Clone(list), at, vote(v.By, slices.Clone(v.Chain)))
				checkNotOk(t, "twice", twice)
			}
		}
	}
	v, other := vote(2, rowOf(1, 2)), vote(2, rowOf(1, 1))
	checkNotOk(t, "side by side", []impl.Vote{v, v})
	checkNotOk(t, "side by side, behind another", []impl.Vote{other, v, v})
	checkNotOk(t, "apart", []impl.Vote{v, other, v})
	checkNotOk(t, "three times", []impl.Vote{v, v, v})
}

// checkNotOk holds all that is answered of votes that are not ok against the document.
func checkNotOk(t *testing.T, why string, list []impl.Vote) {
	t.Helper()
	if impl.VotesOk(list) {
		t.Fatal("is not ok:", why, list)
	}
	for _, v := range append(slices.Clone(list[:min(3, len(list))]), vote(1, rowOf(20, 1)), vote(0, nil)) {
		if got, added := impl.VotesAdd(list, v); added || len(got) != 0 {
			t.Fatal("something of votes that are not ok:", why, v, got, added)
		}
		if got := impl.VotesFor(list, v.Chain); len(got) != 0 {
			t.Fatal("somebody by votes that are not ok:", why, v.Chain, got)
		}
	}
}

func TestOneVoteThatIsNotInForm(t *testing.T) {
	good := allVotes(voteChains()[:3])
	for why, v := range wrongVotes() {
		checkNotOk(t, why+", alone", []impl.Vote{v})
		for at := range len(good) + 1 {
			checkNotOk(t, why, slices.Insert(slices.Clone(good), at, v))
		}
		for _, list := range someVotes()[:20] {
			if got, added := impl.VotesAdd(list, v); added || len(got) != 0 {
				t.Fatal("a vote that is not in form:", why, got, added)
			}
		}
	}
}

// checkEitherWay: whatever comes first, for each chain the same nodes are.
func checkEitherWay(t *testing.T, list []impl.Vote, u, v impl.Vote) {
	t.Helper()
	one, _ := impl.VotesAdd(list, u)
	one, _ = impl.VotesAdd(one, v)
	other, _ := impl.VotesAdd(list, v)
	other, _ = impl.VotesAdd(other, u)
	if len(one) != len(other) {
		t.Fatal("as many votes", list, u, v)
	}
	for _, c := range append(voteChains(), u.Chain, v.Chain) {
		wantNodes(t, "in whatever order", impl.VotesFor(other, c), impl.VotesFor(one, c))
		wantNodes(t, "of all in the other order", impl.VotesFor(one, c), nodesFor(append(slices.Clone(list), v, u), c))
	}
}

func TestPromise27InWhateverOrder(t *testing.T) {
	every := allVotes(voteChains())
	r := newDraw()
	for range 300 {
		drawn := drawOrder(r, every)
		size := r.IntN(12)
		checkEitherWay(t, drawn[:size], drawn[size], drawn[size+1])
	}
	c := rowOf(1, 2)
	checkEitherWay(t, nil, vote(2, c), vote(1, c))
	checkEitherWay(t, []impl.Vote{vote(3, c)}, vote(4, c), vote(1, c))
	checkEitherWay(t, nil, vote(2, c), vote(2, c[:1]))
	for _, list := range someVotes()[:20] {
		for _, c := range voteChains() {
			wantNodes(t, "all votes in another order", impl.VotesFor(drawOrder(r, list), c), impl.VotesFor(list, c))
		}
	}
}

func TestPromise28WhoVotedMore(t *testing.T) {
	every := allVotes(voteChains())
	r := newDraw()
	for range 200 {
		drawn := drawOrder(r, every)
		size := r.IntN(len(every))
		list, v := drawn[:size], drawn[size]
		more, added := impl.VotesAdd(list, v)
		if !added {
			t.Fatal("is not among them", v)
		}
		for _, c := range voteChains() {
			want := impl.VotesFor(list, c)
			if slices.Equal(c, v.Chain) {
				want = append(want, v.By)
				slices.Sort(want)
			}
			wantNodes(t, "one more of its chain alone", impl.VotesFor(more, c), want)
		}
	}
}

func TestPromise29AsManyAsVotes(t *testing.T) {
	for _, list := range someVotes() {
		together := 0
		var counted [][]impl.Item
		for _, v := range list {
			if slices.ContainsFunc(counted, func(c []impl.Item) bool { return slices.Equal(c, v.Chain) }) {
				continue
			}
			counted = append(counted, v.Chain)
			nodes := impl.VotesFor(list, v.Chain)
			if len(nodes) < 1 || len(nodes) > impl.NodeMax {
				t.Fatal("at most NodeMax", nodes)
			}
			together += len(nodes)
		}
		if together != len(list) {
			t.Fatal("together as many as votes", together, len(list))
		}
	}
}

func TestVotesAddIsNewMemory(t *testing.T) {
	r := newDraw()
	for _, votes := range someVotes() {
		for _, v := range drawOrder(r, allVotes(voteChains()))[:12] {
			list, listStays := guardedVotes(t, votes)
			one, oneStays := guardedVotes(t, []impl.Vote{v})
			first, added := impl.VotesAdd(list, one[0])
			second, _ := impl.VotesAdd(list, one[0])
			want := deepCopy(votes)
			if added {
				want = append(want, deepCopy([]impl.Vote{v})...)
			}
			listStays("added")
			oneStays("added")
			spoilVotes(first)
			listStays("the answer is spoilt")
			oneStays("the answer is spoilt")
			wantVotes(t, "the second one", second, want)
			spoilVotes(list)
			spoilVotes(one)
			wantVotes(t, "the arguments are spoilt, the answer is not", second, want)
		}
	}
}

// The vote that was among them may be the very memory of the list; and chains of the list may share theirs.
func TestVotesAddOfSharedMemory(t *testing.T) {
	full := rowOf(1, impl.ChainMax)
	var list []impl.Vote
	for n := 1; n <= impl.ChainMax; n++ {
		list = append(list, vote(1, full[:n]), vote(2, full[:n]))
	}
	for _, v := range []impl.Vote{list[0], list[7], vote(3, full[:5]), vote(3, full)} {
		want := deepCopy(list)
		if !among(list, v) {
			want = append(want, deepCopy([]impl.Vote{v})...)
		}
		for spoilt := range want {
			got, _ := impl.VotesAdd(list, v)
			wantVotes(t, "of shared memory", got, want)
			spoil(got[spoilt].Chain)
			for n := range got {
				if n != spoilt {
					wantSame(t, "another chain of the answer", got[n].Chain, want[n].Chain)
				}
			}
			wantSame(t, "the argument", full, rowOf(1, impl.ChainMax))
		}
	}
}

// What is put behind an answer must not be seen in another answer, or in the argument.
func TestVotesAddLeavesNoRoomInCommon(t *testing.T) {
	list := allVotes(voteChains()[:2])
	for n := range list {
		begun, beginStays := guardedVotes(t, list[:n])
		u, _ := impl.VotesAdd(begun, vote(1, rowOf(20, 1)))
		v, _ := impl.VotesAdd(begun, vote(2, rowOf(21, 1)))
		beginStays("two behind one list")
		wantVotes(t, "the first", u, append(slices.Clone(list[:n]), vote(1, rowOf(20, 1))))
		wantVotes(t, "the second", v, append(slices.Clone(list[:n]), vote(2, rowOf(21, 1))))
		u2, _ := impl.VotesAdd(u, vote(3, rowOf(22, 1)))
		u3, _ := impl.VotesAdd(u, vote(4, rowOf(23, 1)))
		wantVotes(t, "behind the first", u2[n+1:], []impl.Vote{vote(3, rowOf(22, 1))})
		wantVotes(t, "behind the first again", u3[n+1:], []impl.Vote{vote(4, rowOf(23, 1))})
	}
}

func TestVotesForIsNewMemory(t *testing.T) {
	for _, votes := range someVotes() {
		for _, c := range voteChains() {
			list, listStays := guardedVotes(t, votes)
			chain, all := guarded(c)
			was := slices.Clone(all)
			first, second := impl.VotesFor(list, chain), impl.VotesFor(list, chain)
			spoilWith(first, -99)
			wantNodes(t, "the second one", second, nodesFor(votes, c))
			wantNodes(t, "the third one", impl.VotesFor(list, chain), nodesFor(votes, c))
			listStays("the answer is spoilt")
			wantSame(t, "the chain", all, was)
			spoilVotes(list)
			spoil(chain)
			wantNodes(t, "the arguments are spoilt", second, nodesFor(votes, c))
		}
	}
}

func TestVoteArgumentsStay(t *testing.T) {
	lists := someVotes()[:20]
	for _, v := range wrongVotes() {
		lists = append(lists, []impl.Vote{v}, []impl.Vote{vote(1, rowOf(1, 1)), v}, []impl.Vote{v, v})
	}
	lists = append(lists, []impl.Vote{vote(1, rowOf(1, 1)), vote(1, rowOf(1, 1))})
	for _, votes := range lists {
		list, listStays := guardedVotes(t, votes)
		impl.VotesOk(list)
		for _, v := range append(slices.Clone(votes[:min(4, len(votes))]), vote(0, nil), vote(4, rowOf(9, 3))) {
			one, oneStays := guardedVotes(t, []impl.Vote{v})
			impl.VoteOk(one[0])
			impl.VotesAdd(list, one[0])
			impl.VotesFor(list, one[0].Chain)
			oneStays("the vote")
		}
		listStays("the votes")
	}
}

// A map is gone through in another order each time: the answers are the same.
func TestSameCallSameAnswer(t *testing.T) {
	list := drawOrder(newDraw(), allVotes(voteChains()))
	whole, last := list[:len(list)-1], list[len(list)-1]
	for range 200 {
		for _, c := range voteChains() {
			wantNodes(t, "for a chain", impl.VotesFor(list, c), []int{1, 2, 3, 4})
			wantNodes(t, "for a chain, one lacks", impl.VotesFor(whole, c), nodesFor(whole, c))
		}
		got, added := impl.VotesAdd(whole, last)
		if !added || !impl.VotesOk(list) {
			t.Fatal("is ok, and added")
		}
		wantVotes(t, "added", got, list)
		got, added = impl.VotesAdd(list, list[5])
		if added {
			t.Fatal("was among them")
		}
		wantVotes(t, "was among them", got, list)
	}
}
