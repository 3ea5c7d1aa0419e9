package ballot_test

import (
	"math"
	"math/rand/v2"
	"slices"
	"testing"

	"raceway/api"
	"raceway/ballot"
)

// The document's limits, apart from the package that is tested.
const (
	maxRound  = 1 << 36
	nodes     = 5
	leastOne  = 8
	greatest  = 8*maxRound + 4
	manyTimes = 20000
)

// farOff has numbers that are none of a round, a node or a ballot.
var farOff = []int{math.MinInt, math.MinInt + 1, math.MinInt + 8, -1 << 40, -1 << 39, -1 << 32, 1 << 41, 1 << 60, math.MaxInt - 8, math.MaxInt - 1, math.MaxInt}

// rounds has those that may be, at the edges and between.
var rounds = []int{1, 2, 3, 7, 8, 9, 1000, 1<<32 - 1, 1 << 32, maxRound/2 + 1, maxRound - 1, maxRound}

// partsOf is the document's words of a ballot: round 0 and node -1 of what is none.
func partsOf(b int) (round, node int) {
	round, node = b>>3, b&7
	if round < 1 || round > maxRound || node >= nodes {
		return 0, -1
	}
	return round, node
}

func wantParts(t *testing.T, b, round, node int) {
	t.Helper()
	if r, n := ballot.Round(b), ballot.Node(b); r != round || n != node {
		t.Errorf("%d is of round %d and node %d, not %d and %d", b, r, n, round, node)
	}
}

func wantNext(t *testing.T, b, node, next int) {
	t.Helper()
	if n, e := ballot.Next(b, node); n != next || e != api.OK {
		t.Errorf("Next(%d, %d): %d, error %d, not %d", b, node, n, int(e), next)
	}
}

func wantNoNext(t *testing.T, b, node int) {
	t.Helper()
	if n, e := ballot.Next(b, node); n != 0 || e != api.ErrArg {
		t.Errorf("Next(%d, %d): %d, error %d", b, node, n, int(e))
	}
}

func wantNone(t *testing.T, round, node int) {
	t.Helper()
	if b, e := ballot.Make(round, node); b != 0 || e != api.ErrArg {
		t.Errorf("Make(%d, %d): %d, error %d", round, node, b, int(e))
	}
}

// The chapter's example, but for Merge.
func TestExample(t *testing.T) {
	if b, e := ballot.Make(1, 2); b != 10 || e != api.OK {
		t.Errorf("Make(1, 2): %d, error %d", b, int(e))
	}
	wantNext(t, 10, 1, 17)
	wantNext(t, 10, 3, 11)
	if n := ballot.Quorum(5); n != 3 {
		t.Errorf("Quorum(5): %d", n)
	}
}

// P9.1: what is made, and its parts.
func TestMake(t *testing.T) {
	for _, round := range rounds {
		for node := range nodes {
			b, e := ballot.Make(round, node)
			if b != 8*round+node || e != api.OK {
				t.Errorf("Make(%d, %d): %d, error %d", round, node, b, int(e))
			}
			wantParts(t, b, round, node)
		}
	}
	for b, want := range map[int][2]int{leastOne: {1, 0}, greatest: {maxRound, 4}} {
		if got, e := ballot.Make(want[0], want[1]); got != b || e != api.OK {
			t.Errorf("Make(%d, %d): %d, error %d", want[0], want[1], got, int(e))
		}
	}
}

// P9.1: a round, a node, or both that may not be.
func TestMakeOfWrongOnes(t *testing.T) {
	wrongRounds := append([]int{0, -1, -2, -8, maxRound + 1, maxRound + 2, 2 * maxRound, -maxRound}, farOff...)
	wrongNodes := append([]int{-1, -2, -8, 5, 6, 7, 8, 9, 13}, farOff...)
	for _, round := range wrongRounds {
		for node := range nodes {
			wantNone(t, round, node)
		}
		for _, node := range wrongNodes {
			wantNone(t, round, node)
		}
	}
	for _, node := range wrongNodes {
		for _, round := range rounds {
			wantNone(t, round, node)
		}
	}
}

// P9.1: the numbers around the least and the greatest ballot, and around others.
func TestParts(t *testing.T) {
	for b := -40; b < 200; b++ {
		round, node := partsOf(b)
		wantParts(t, b, round, node)
	}
	for b := greatest - 100; b < greatest+100; b++ {
		round, node := partsOf(b)
		wantParts(t, b, round, node)
	}
	for _, x := range []struct{ b, round, node int }{
		{0, 0, -1}, {4, 0, -1}, {7, 0, -1}, {8, 1, 0}, {12, 1, 4}, {13, 0, -1}, {14, 0, -1}, {15, 0, -1}, {16, 2, 0},
		{-8, 0, -1}, {-1, 0, -1}, {greatest - 4, maxRound, 0}, {greatest - 5, 0, -1}, {greatest - 8, maxRound - 1, 4},
		{greatest, maxRound, 4}, {greatest + 1, 0, -1}, {greatest + 4, 0, -1}, {greatest + 8, 0, -1},
	} {
		wantParts(t, x.b, x.round, x.node)
	}
	for _, b := range farOff {
		wantParts(t, b, 0, -1)
	}
}

// nextOf looks for the least ballot of a node above a number, one by one.
func nextOf(b, node int) int {
	for next := b + 1; ; next++ {
		if _, n := partsOf(next); n == node {
			return next
		}
	}
}

// P9.1: Next of ballots and of numbers that are none.
func TestNext(t *testing.T) {
	for _, x := range []struct{ b, node, next int }{
		{0, 0, 8}, {0, 4, 12}, {1, 0, 8}, {3, 4, 12}, {4, 4, 12}, {7, 0, 8}, {7, 4, 12}, {8, 0, 16}, {8, 4, 12}, {12, 4, 20},
		{10, 2, 18}, {10, 1, 17}, {10, 3, 11}, {13, 0, 16}, {13, 4, 20}, {15, 0, 16}, {15, 4, 20}, {9, 2, 10}, {11, 2, 18},
	} {
		wantNext(t, x.b, x.node, x.next)
	}
	for node := range nodes {
		for b := range 200 {
			wantNext(t, b, node, nextOf(b, node))
		}
		last := 8*maxRound + node
		for b := last - 50; b < last; b++ {
			wantNext(t, b, node, nextOf(b, node))
		}
		for _, round := range rounds[:len(rounds)-1] {
			for b := 8*round - 2; b < 8*round+8; b++ {
				wantNext(t, b, node, nextOf(b, node))
			}
		}
	}
}

// P9.1: behind a node's last ballot there is none, and what is wrong has none.
func TestNextOfWrongOnes(t *testing.T) {
	for node := range nodes {
		last := 8*maxRound + node
		wantNext(t, last-1, node, last)
		for b := last; b < last+20; b++ {
			wantNoNext(t, b, node)
		}
		for _, b := range append([]int{-1, -2, -7, -8, -9, -16}, farOff...) {
			wantNoNext(t, b, node)
		}
	}
	for _, node := range append([]int{-1, -2, -8, 5, 6, 7, 8, 12}, farOff...) {
		for _, b := range append([]int{-1, 0, 1, 7, 8, 10, 13, greatest - 8, greatest, greatest + 1}, farOff...) {
			wantNoNext(t, b, node)
		}
	}
}

// P9.1: a node's ballots, one behind the other.
func TestNextOneByOne(t *testing.T) {
	for node := range nodes {
		b := 0
		for round := 1; round < 1000; round++ {
			wantNext(t, b, node, 8*round+node)
			b, _ = ballot.Next(b, node)
		}
	}
}

// P9.2
func TestQuorum(t *testing.T) {
	for n, want := range []int{0, 1, 2, 2, 3, 3, 4, 4, 5} {
		if got := ballot.Quorum(n); got != want {
			t.Errorf("Quorum(%d): %d, not %d", n, got, want)
		}
	}
	for n, want := range map[int]int{-1: 0, -2: 0, -5: 0, -1 << 40: 0, math.MinInt: 0, math.MinInt + 1: 0, 1 << 40: 1<<39 + 1, math.MaxInt - 1: 1 << 62, math.MaxInt: 1 << 62} {
		if got := ballot.Quorum(n); got != want {
			t.Errorf("Quorum(%d): %d, not %d", n, got, want)
		}
	}
}

// P9.5: no two ballots that are made, or told as the next, are the same but those of one round and one node.
func TestBallotsAreApart(t *testing.T) {
	type maker struct{ round, node int }
	made := map[int]maker{}
	note := func(b int, e api.Errno, round, node int) {
		t.Helper()
		if old, has := made[b]; e != api.OK || has && old != (maker{round, node}) {
			t.Errorf("%d of round %d and node %d, error %d: it was one of %v", b, round, node, int(e), old)
		}
		made[b] = maker{round, node}
	}
	for _, round := range append([]int{4, 5, 6, 10, 11, 12, 13, 14, 15, 16, 17}, rounds...) {
		for node := range nodes {
			b, e := ballot.Make(round, node)
			note(b, e, round, node)
		}
	}
	for b := range 100 {
		for node := range nodes {
			next, e := ballot.Next(b, node)
			note(next, e, ballot.Round(next), node)
			if ballot.Node(next) != node {
				t.Errorf("Next(%d, %d) is node %d's", b, node, ballot.Node(next))
			}
		}
	}
}

// members tells the sets of n nodes that are quorums, as bits.
func members(n int) []uint {
	var l []uint
	for set := range uint(1) << n {
		count := 0
		for node := range n {
			count += int(set >> node & 1)
		}
		if count >= ballot.Quorum(n) {
			l = append(l, set)
		}
	}
	return l
}

// P9.5: each two quorums have a node in common, and all nodes together are one.
func TestQuorumsMeet(t *testing.T) {
	for n := 1; n <= 7; n++ {
		quorums := members(n)
		if len(quorums) == 0 {
			t.Errorf("%d nodes are no quorum", n)
		}
		for _, a := range quorums {
			for _, b := range quorums {
				if a&b == 0 {
					t.Fatalf("of %d nodes the quorums %b and %b have none in common", n, a, b)
				}
			}
		}
	}
}

// P9.1: numbers of any kind, held against the document's words.
func TestAnyNumbers(t *testing.T) {
	r := rand.New(rand.NewPCG(9, 1))
	for range manyTimes {
		b := r.IntN(greatest+200) >> r.IntN(40)
		round, node := partsOf(b)
		wantParts(t, b, round, node)
		if got, e := ballot.Make(round, node); round > 0 && (got != b || e != api.OK) {
			t.Errorf("Make(%d, %d): %d, error %d", round, node, got, int(e))
		}
		for node := range nodes {
			if b < 8*maxRound+node {
				wantNext(t, b, node, nextOf(b, node))
			} else {
				wantNoNext(t, b, node)
			}
		}
	}
}

func vote(slot, ballot int, value string) api.Vote {
	return api.Vote{Slot: slot, Ballot: ballot, Value: []byte(value)}
}

func votes(l ...api.Vote) []api.Vote { return l }

func sameVote(a, b api.Vote) bool {
	return a.Slot == b.Slot && a.Ballot == b.Ballot && string(a.Value) == string(b.Value)
}

// merged is the document's words of Merge, without a map: whatever a vote stands behind or below goes.
func merged(lists ...[]api.Vote) []api.Vote {
	all := slices.Concat(lists...)
	var l []api.Vote
	for i, v := range all {
		beaten := false
		for j, other := range all {
			beaten = beaten || other.Slot == v.Slot && (other.Ballot > v.Ballot || other.Ballot == v.Ballot && j < i)
		}
		if !beaten {
			l = append(l, v)
		}
	}
	slices.SortFunc(l, func(a, b api.Vote) int {
		if a.Slot < b.Slot {
			return -1
		}
		return 1
	})
	return l
}

func copyOf(lists [][]api.Vote) [][]api.Vote {
	out := make([][]api.Vote, len(lists))
	for i, l := range lists {
		for _, v := range l {
			out[i] = append(out[i], vote(v.Slot, v.Ballot, string(v.Value)))
		}
	}
	return out
}

// wantMerge checks what Merge tells, and that it leaves what it is handed.
func wantMerge(t *testing.T, name string, want []api.Vote, lists ...[]api.Vote) {
	t.Helper()
	was := copyOf(lists)
	if got := ballot.Merge(lists...); !slices.EqualFunc(got, want, sameVote) {
		t.Errorf("%s: %v, not %v", name, got, want)
	}
	same := func(a, b []api.Vote) bool { return slices.EqualFunc(a, b, sameVote) }
	if !slices.EqualFunc(lists, was, same) {
		t.Errorf("%s: what was handed in is changed: %v, it was %v", name, lists, was)
	}
}

// P9.3
func TestMerge(t *testing.T) {
	wantMerge(t, "the example", votes(vote(0, 5, "b"), vote(1, 2, "c")), votes(vote(0, 3, "a")), votes(vote(0, 5, "b"), vote(1, 2, "c")))
	wantMerge(t, "no lists", nil)
	wantMerge(t, "one nil list", nil, nil)
	wantMerge(t, "empty lists", nil, votes(), nil, []api.Vote{})
	wantMerge(t, "empty lists beside one", votes(vote(2, 8, "x")), votes(), votes(vote(2, 8, "x")), nil)
	wantMerge(t, "one list", votes(vote(2, 8, "x"), vote(3, 9, "y")), votes(vote(2, 8, "x"), vote(3, 9, "y")))
	wantMerge(t, "slots that fall", votes(vote(0, 8, "c"), vote(3, 8, "b"), vote(1<<30, 8, "a")), votes(vote(1<<30, 8, "a"), vote(3, 8, "b"), vote(0, 8, "c")))
	wantMerge(t, "slots in no order", votes(vote(1, 8, "d"), vote(4, 8, "b"), vote(5, 8, "a"), vote(9, 8, "c")), votes(vote(5, 8, "a"), vote(9, 8, "c")), votes(vote(4, 8, "b"), vote(1, 8, "d")))
	wantMerge(t, "slots that other lists have not", votes(vote(0, 8, "a"), vote(1, 9, "b"), vote(2, 10, "c")), votes(vote(1, 9, "b")), votes(vote(2, 10, "c")), votes(vote(0, 8, "a")))
}

// P9.3: the greatest ballot counts, wherever it stands.
func TestMergeTakesTheGreatest(t *testing.T) {
	greater, lesser := vote(7, 17, "greater"), vote(7, 16, "lesser")
	want := votes(greater)
	wantMerge(t, "in an earlier list", want, votes(greater), votes(lesser))
	wantMerge(t, "in a later list", want, votes(lesser), votes(greater))
	wantMerge(t, "in the midst", want, votes(lesser), votes(greater), votes(lesser))
	wantMerge(t, "first in one list", want, votes(greater, lesser))
	wantMerge(t, "last in one list", want, votes(lesser, greater))
	wantMerge(t, "of 0", votes(vote(7, 0, "zero")), votes(vote(7, -1, "below")), votes(vote(7, 0, "zero")))
	wantMerge(t, "0 alone", votes(vote(0, 0, "")), votes(vote(0, 0, "")))
	wantMerge(t, "below 0 alone", votes(vote(-3, -8, "x")), votes(vote(-3, -8, "x")))
	wantMerge(t, "the ends of numbers", votes(vote(math.MinInt, math.MaxInt, "b"), vote(math.MaxInt, math.MinInt, "c")),
		votes(vote(math.MinInt, math.MinInt, "a"), vote(math.MaxInt, math.MinInt, "c")), votes(vote(math.MinInt, math.MaxInt, "b")))
	wantMerge(t, "a lesser value", votes(vote(1, 9, "")), votes(vote(1, 8, "zzz")), votes(vote(1, 9, "")))
}

// P9.3: of several with the greatest ballot the first one counts, list by list.
func TestMergeTakesTheFirst(t *testing.T) {
	a, b, c := vote(3, 10, "a"), vote(3, 10, "b"), vote(3, 10, "c")
	wantMerge(t, "in several lists", votes(a), votes(a), votes(b), votes(c))
	wantMerge(t, "in several lists, the other way", votes(c), votes(c), votes(b), votes(a))
	wantMerge(t, "several times in one list", votes(b), votes(b, a, c))
	wantMerge(t, "last in the first list", votes(b), votes(vote(1, 8, ""), b)[1:], votes(a), votes(c))
	wantMerge(t, "behind a lesser one", votes(b), votes(vote(3, 9, "x"), b), votes(a, c))
	wantMerge(t, "behind a list without it", votes(vote(4, 8, "y"), vote(5, 8, "z")), votes(vote(5, 8, "z")), votes(vote(4, 8, "y")), votes(vote(5, 8, "x"), vote(4, 8, "w")))
	wantMerge(t, "no bytes first", votes(vote(3, 10, "")), votes(vote(3, 10, "")), votes(a))
	wantMerge(t, "no bytes behind", votes(a), votes(a), votes(vote(3, 10, "")))
}

// P9.3: lists of any votes, held against the document's words, twice.
func TestMergeOfAnyLists(t *testing.T) {
	r := rand.New(rand.NewPCG(9, 3))
	for range 2000 {
		lists := make([][]api.Vote, r.IntN(6))
		slots, ballots := 1+r.IntN(40), 1+r.IntN(5)
		for i := range lists {
			for range r.IntN(12) {
				lists[i] = append(lists[i], vote(r.IntN(slots)-2, r.IntN(ballots), string(rune('a'+r.IntN(26)))))
			}
		}
		for range 2 {
			wantMerge(t, "any lists", merged(lists...), lists...)
		}
	}
}

// P9.3: more slots than a replica has, falling, from lists one behind the other.
func TestMergeOfManySlots(t *testing.T) {
	var falling, again, want []api.Vote
	for slot := range 5000 {
		falling = append(falling, vote(4999-slot, 8, "old"))
		again = append(again, vote(slot, 8+slot%2, "new"))
		want = append(want, vote(slot, 8+slot%2, [2]string{"old", "new"}[slot%2]))
	}
	wantMerge(t, "many slots", want, falling, again)
}

// P9.3: values that are told are apart from those handed in, and from each other.
func TestMergeSharesNothing(t *testing.T) {
	memory := []byte("abcdefgh")
	a := votes(api.Vote{Slot: 1, Ballot: 8, Value: memory[0:4]}, api.Vote{Slot: 2, Ballot: 8, Value: memory[0:4]})
	b := votes(api.Vote{Slot: 3, Ballot: 9, Value: memory[2:6]}, api.Vote{Slot: 4, Ballot: 9, Value: memory[4:4]})
	want := votes(vote(1, 8, "abcd"), vote(2, 8, "abcd"), vote(3, 9, "cdef"), vote(4, 9, ""))
	first, second := ballot.Merge(a, b), ballot.Merge(a, b)
	wantSame := func(name string, got []api.Vote) {
		t.Helper()
		if !slices.EqualFunc(got, want, sameVote) {
			t.Errorf("%s: %v, not %v", name, got, want)
		}
	}
	wantSame("the first", first)
	copy(memory, "xxxxxxxx")
	a[0].Slot, b[0].Ballot = 99, 99
	wantSame("the first, with other bytes handed in", first)
	for i := range first {
		spoil(&first[i])
		for _, other := range first[i+1:] {
			if !sameVote(other, want[other.Slot-1]) {
				t.Errorf("vote %d is changed with vote %d: %v", other.Slot, i+1, other)
			}
		}
	}
	wantSame("the second", second)
	if string(memory) != "xxxxxxxx" || a[0].Slot != 99 || a[1].Slot != 2 {
		t.Errorf("what was handed in is changed: %q, %v", memory, a)
	}
}

// P9.3: one list is no less apart, nor one list that is handed in twice.
func TestMergeOfOneListSharesNothing(t *testing.T) {
	list := votes(vote(0, 8, "abc"), vote(1, 8, "def"))
	for _, got := range [][]api.Vote{ballot.Merge(list), ballot.Merge(list, list)} {
		for i := range got {
			spoil(&got[i])
		}
		if !slices.EqualFunc(list, votes(vote(0, 8, "abc"), vote(1, 8, "def")), sameVote) {
			t.Errorf("what was handed in is changed: %v", list)
		}
	}
}

// spoil writes over a vote, and over all the memory that its value has.
func spoil(v *api.Vote) {
	for i := range v.Value {
		v.Value[i] = '-'
	}
	v.Value = append(v.Value, "----"...)
	all := v.Value[:cap(v.Value)]
	for i := range all {
		all[i] = '-'
	}
	v.Ballot = -99
}

// Rule 5: what lies behind a list's length, or a value's, is neither told nor written.
func TestMergeLeavesWhatLiesBehind(t *testing.T) {
	value := []byte("abcSECRET")
	long := votes(api.Vote{Slot: 1, Ballot: 8, Value: value[:3]}, vote(0, 99, "behind"), vote(1, 99, "behind"))
	got := ballot.Merge(long[:1], long[:0])
	if !slices.EqualFunc(got, votes(vote(1, 8, "abc")), sameVote) {
		t.Fatalf("%v", got)
	}
	if all := got[0].Value[:cap(got[0].Value)]; len(all) > 3 && all[3] == 'S' {
		t.Errorf("what lies behind the value is handed out: %q", all)
	}
	_ = append(got, vote(5, 5, "5"))
	_ = append(got[0].Value, "more"...)
	if string(value) != "abcSECRET" || string(long[1].Value) != "behind" || long[1].Slot != 0 || long[2].Ballot != 99 {
		t.Errorf("what lies behind is written: %q, %v", value, long)
	}
}
