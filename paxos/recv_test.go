package paxos_test

import (
	"fmt"
	"slices"
	"testing"

	"raceway/api"
	"raceway/paxos"
)

// P10.3: messages to another one, from itself, from no node, of no kind, and with numbers that may not be.
func TestWrongMessages(t *testing.T) {
	right := []api.Msg{
		prepareOf(30, 3), promiseOf(10, 3, vote(3, 5, "x")), refuseOf(30), acceptOf(30, 3, "x", 3), acceptedOf(10, 3), beatOf(30, 9), askOf(2), learnOf(30, 3, vote(3, 30, "x")), behindOf(9),
	}
	begun := map[string]func() pair{
		"a follower":  func() pair { return begin(t, of(2, 5)).learn(0, "a", "b", "c") },
		"a candidate": func() pair { p := begin(t, of(2, 5)).learn(0, "a", "b", "c"); p.stood(); return p },
		"a leader":    func() pair { p := begin(t, of(2, 5)).lead().choose("a", "b", "c"); p.propose("d"); return p },
	}
	for name, f := range begun {
		for _, m := range right {
			p := f()
			p.trim(1)
			nothing := func(m api.Msg) {
				t.Helper()
				text := storeText(p.r.Store())
				wantMessages(t, name+": "+message(m), p.recv(m))
				if got := storeText(p.r.Store()); got != text {
					t.Errorf("%s: %s: the store has %s, not %s", name, message(m), got, text)
				}
			}
			for _, n := range append([]int{-1, 0, 1, 3, 4, 5}, farOff...) {
				wrong := p.from(1, m)
				wrong.To = n
				nothing(wrong)
			}
			for _, n := range append([]int{-1, 2, 5, 6}, farOff...) {
				nothing(p.from(n, m))
			}
			for _, n := range append([]int{-1, maxNumber + 1}, farOff...) {
				wrong := p.from(1, m)
				wrong.Ballot = n
				nothing(wrong)
				wrong = p.from(1, m)
				wrong.N = n
				nothing(wrong)
				wrong = p.from(1, m)
				wrong.Slot = n
				nothing(wrong)
			}
			wrong := p.from(1, m)
			wrong.Slot = maxSlot + 1
			nothing(wrong)
			for _, n := range append([]int{-1, 0, 9, 10, 11}, farOff...) {
				wrong := p.from(1, m)
				wrong.Kind = n
				nothing(wrong)
			}
			p.check(name)
		}
	}
}

// P10.3: the least and the greatest numbers that may be.
func TestNumbersAtEnds(t *testing.T) {
	for kind := 1; kind <= 9; kind++ {
		for _, n := range []int{0, maxNumber} {
			for _, slot := range []int{0, maxSlot} {
				p := begin(t, of(0, 3))
				p.recv(p.from(1, api.Msg{Kind: kind, Ballot: n, Slot: slot, N: n, Value: []byte("x")}))
				p.recv(p.from(2, api.Msg{Kind: kind, Ballot: maxNumber - n, Slot: slot, N: n}))
				p.check(fmt.Sprintf("kind %d, ballot and n %d, slot %d", kind, n, slot))
			}
		}
	}
	p := begin(t, of(0, 3))
	to := func(m api.Msg) []api.Msg { return p.s.to(1, m) }
	wantMessages(t, "ballot 0", p.recv(p.from(1, prepareOf(0, 0))), to(promiseOf(0, 0))...)
	wantMessages(t, "ballot 0", p.recv(p.from(1, acceptOf(0, 0, "x", 0))), to(acceptedOf(0, 0))...)
	wantMessages(t, "ballot 0, n 2^40", p.recv(p.from(1, beatOf(0, maxNumber))), to(askOf(0))...)
	wantMessages(t, "slot 2^30", p.recv(p.from(1, prepareOf(0, maxSlot))), to(promiseOf(0, maxSlot))...)
	wantMessages(t, "ballot 2^40", p.recv(p.from(1, prepareOf(maxNumber, 0))), to(promiseOf(maxNumber, 0, vote(0, 0, "x")))...)
	wantMessages(t, "ballot 2^40", p.recv(p.from(1, acceptOf(maxNumber, 1, "y", 0))), to(acceptedOf(maxNumber, 1))...)
	wantMessages(t, "ballot 2^40", p.recv(p.from(1, beatOf(maxNumber, 0))))
	p.install(maxSlot)
	wantMessages(t, "slot 2^30, the base", p.recv(p.from(1, acceptOf(maxNumber, maxSlot, "z", maxNumber))), to(acceptedOf(maxNumber, maxSlot))...)
	p.check("the end")
}

// P10.3: a Ballot just below, at and just above the promise.
func TestBallotAndPromise(t *testing.T) {
	for _, m := range []api.Msg{prepareOf(0, 0), acceptOf(0, 0, "y", 0), beatOf(0, 0)} {
		for ballot := 18; ballot <= 22; ballot++ {
			p := begin(t, of(0, 3))
			p.recv(p.from(2, prepareOf(20, 0)))
			m.Ballot = ballot
			out := p.recv(p.from(1, m))
			refused := ballot < 20
			if refused {
				wantMessages(t, message(m), out, p.s.to(1, refuseOf(20))...)
			}
			promise, leader := 20, nobody
			if !refused && m.Kind != api.MsBeat {
				promise = ballot
			}
			if !refused && m.Kind != api.MsPrepare {
				leader = 1
			}
			if p.r.Store().Promised() != promise || p.r.Leader() != leader {
				t.Errorf("%s: promise %d, leader %d", message(m), p.r.Store().Promised(), p.r.Leader())
			}
			p.check(message(m))
		}
	}
}

// P10.3: a refused ballot counts for nothing: neither who leads nor what it is changes.
func TestRefusedChangesNothing(t *testing.T) {
	p := begin(t, of(1, 3)).lead().choose("a")
	for _, m := range []api.Msg{prepareOf(8, 0), acceptOf(8, 0, "x", 0), beatOf(8, 5)} {
		wantMessages(t, message(m), p.recv(p.from(0, m)), p.s.to(0, refuseOf(9))...)
		if p.r.Role() != api.RoLeader || p.r.Leader() != 1 || p.r.Ballot() != 9 {
			t.Errorf("%s: role %d, leader %d", message(m), p.r.Role(), p.r.Leader())
		}
	}
	wantChosen(t, "refused", p.r.Chosen(0), "a")
	p.check("refused")
}

// P10.3: a Slot just below the base, and at it; a ballot below the promise counts first.
func TestSlotAndBase(t *testing.T) {
	for _, m := range []api.Msg{prepareOf(20, 0), acceptOf(20, 0, "y", 0), askOf(0)} {
		for _, ballot := range []int{0, 19, 20, 21} {
			for slot := range 7 {
				p := begin(t, of(0, 3))
				p.recv(p.from(2, beatOf(3, 0)))
				p.learn(0, "a", "b", "c", "d", "e", "f")
				p.recv(p.from(2, prepareOf(20, 0)))
				p.trim(4)
				m.Ballot, m.Slot = ballot, slot
				out := p.recv(p.from(1, m))
				switch {
				case ballot < 20 && m.Kind != api.MsAsk:
					wantMessages(t, message(m), out, p.s.to(1, refuseOf(20))...)
				case slot < 4:
					wantMessages(t, message(m), out, p.s.to(1, behindOf(4))...)
					if p.r.Store().Promised() != 20 || p.r.Leader() != 2 {
						t.Errorf("%s: promise %d, leader %d", message(m), p.r.Store().Promised(), p.r.Leader())
					}
				case m.Kind == api.MsPrepare:
					wantMessages(t, message(m), out, p.s.to(1, api.Msg{Kind: api.MsPromise, Ballot: ballot, Slot: slot, N: 6})...)
				case m.Kind == api.MsAccept:
					wantMessages(t, message(m), out, p.s.to(1, acceptedOf(ballot, slot))...)
				case slot < 6:
					wantMessages(t, message(m), out, p.s.to(1, learnOf(0, slot, []api.Vote{vote(4, 0, "e"), vote(5, 0, "f")}[slot-4:]...))...)
				default:
					wantMessages(t, message(m), out)
				}
				p.check(message(m))
			}
		}
	}
}

// P10.3, Prepare: what its store has from Slot on, rising; of what it knows nothing counts but the prefix.
func TestPrepare(t *testing.T) {
	p := begin(t, of(0, 5))
	for _, slot := range []int{7, 2, 900, 0, 5, 1023} {
		p.recv(p.from(1, acceptOf(9, slot, fmt.Sprint(slot), 0)))
	}
	p.recv(p.from(1, acceptOf(11, 5, "again", 0)))
	p.learn(0, "0").learn(2, "2")
	all := []api.Vote{vote(0, 9, "0"), vote(2, 9, "2"), vote(5, 11, "again"), vote(7, 9, "7"), vote(900, 9, "900"), vote(1023, 9, "1023")}
	for i, c := range []struct{ slot, skipped int }{{0, 0}, {1, 1}, {2, 1}, {3, 2}, {5, 2}, {6, 3}, {900, 4}, {901, 5}, {1023, 5}, {1024, 6}, {maxSlot, 6}} {
		wantMessages(t, "Prepare", p.recv(p.from(4, prepareOf(12+i, c.slot))), p.s.to(4, api.Msg{Kind: api.MsPromise, Ballot: 12 + i, Slot: c.slot, N: 1, Votes: all[c.skipped:]})...)
		if p.r.Leader() != 1 || p.r.Store().Promised() != 12+i {
			t.Errorf("leader %d, promise %d", p.r.Leader(), p.r.Store().Promised())
		}
	}
	records := p.r.Store().Log().Len()
	p.recv(p.from(4, prepareOf(22, 0)))
	if n := p.r.Store().Log().Len(); n != records {
		t.Errorf("the same promise has a record: %d, not %d", n, records)
	}
	p.check("the end")
}

// P10.3: who hears of a ballot that is not its own is a follower; of its own it stays what it is.
func TestAnotherBallot(t *testing.T) {
	for _, m := range []api.Msg{prepareOf(0, 0), acceptOf(0, 0, "y", 0), beatOf(0, 0)} {
		for _, leads := range []bool{false, true} {
			for _, ballot := range []int{9, 10, 16} {
				p := begin(t, of(1, 3))
				role := api.RoCandidate
				if leads {
					p.lead()
					role = api.RoLeader
				} else {
					p.stood()
				}
				if ballot != 9 {
					role = api.RoFollower
				}
				leader := p.r.Leader()
				if m.Kind != api.MsPrepare {
					leader = 2
				}
				m.Ballot = ballot
				p.recv(p.from(2, m))
				if p.r.Role() != role || p.r.Leader() != leader || p.r.Ballot() != 9 {
					t.Errorf("%s: role %d, leader %d, ballot %d", message(m), p.r.Role(), p.r.Leader(), p.r.Ballot())
				}
				p.check(message(m))
				_, _, e := p.propose("x")
				if (e == api.OK) != (role == api.RoLeader) {
					t.Errorf("%s: Propose: error %d", message(m), int(e))
				}
				wantMessages(t, "a late promise", p.recv(p.from(2, promiseOf(9, 1))))
			}
		}
	}
}

// P10.3: what comes for an earlier ballot when it is a follower again counts for nothing.
func TestLateForEarlierBallot(t *testing.T) {
	p := begin(t, of(1, 3))
	p.stood()
	p.recv(p.from(2, beatOf(10, 0)))
	wantMessages(t, "a late Promise", p.recv(p.from(0, promiseOf(9, 0, vote(0, 3, "x")))))
	if p.r.Role() != api.RoFollower {
		t.Errorf("role %d", p.r.Role())
	}
	p = begin(t, of(1, 3)).lead()
	p.propose("a")
	p.recv(p.from(2, beatOf(10, 0)))
	wantMessages(t, "a late Accepted", p.recv(p.from(0, acceptedOf(9, 0))))
	if p.r.Prefix() != 0 {
		t.Errorf("prefix %d", p.r.Prefix())
	}
	wantMessages(t, "a follower's tick", p.tick())
}

// P10.3, Promise: with a quorum it leads, not with fewer; each node counts once.
func TestQuorumOfPromises(t *testing.T) {
	for nodes := 2; nodes <= 5; nodes++ {
		for _, id := range []int{0, nodes - 1} {
			p := begin(t, of(id, nodes))
			p.stood()
			b := p.r.Ballot()
			others := p.others()
			slices.Reverse(others)
			for i, node := range others {
				role := api.RoCandidate
				if i+1 >= nodes/2 {
					role = api.RoLeader
				}
				for range 3 {
					wantMessages(t, "a Promise", p.recv(p.from(node, promiseOf(b, 0))))
				}
				if p.r.Role() != role {
					t.Errorf("of %d: %d promises: role %d", nodes, i+1, p.r.Role())
				}
			}
			p.check("the end")
		}
	}
}

// P10.3, Promise: of another ballot, and of another Slot than it asked from.
func TestPromiseOfOther(t *testing.T) {
	p := begin(t, of(1, 3)).learn(0, "a", "b")
	p.stood()
	for _, m := range []api.Msg{promiseOf(8, 2), promiseOf(10, 2), promiseOf(0, 2), promiseOf(17, 2), promiseOf(9, 1), promiseOf(9, 3), promiseOf(9, 0)} {
		m.Votes = []api.Vote{vote(2, 5, "x")}
		wantMessages(t, message(m), p.recv(p.from(0, m)))
		if p.r.Role() != api.RoCandidate {
			t.Fatalf("%s: role %d", message(m), p.r.Role())
		}
	}
	p.learn(2, "c")
	wantMessages(t, "a promise from its prefix, not from what it asked", p.recv(p.from(0, promiseOf(9, 3))))
	wantMessages(t, "the right one", p.recv(p.from(0, promiseOf(9, 2, vote(2, 5, "c")))), p.toOthers(acceptOf(9, 2, "c", 3))...)
	if p.r.Role() != api.RoLeader {
		t.Errorf("role %d", p.r.Role())
	}
	if slot, _, e := p.propose("d"); slot != 3 || e != api.OK {
		t.Errorf("Propose: %d, error %d", slot, int(e))
	}
}

// P10.3, Promise: one of an earlier standing counts for nothing.
func TestPromiseOfEarlierStanding(t *testing.T) {
	p := begin(t, of(0, 5))
	p.stood()
	p.recv(p.from(1, promiseOf(8, 0, vote(0, 1, "x"))))
	p.stood()
	p.recv(p.from(2, promiseOf(8, 0)))
	p.recv(p.from(2, promiseOf(16, 0)))
	if p.r.Role() != api.RoCandidate {
		t.Errorf("role %d", p.r.Role())
	}
	wantMessages(t, "a quorum without the vote", p.recv(p.from(3, promiseOf(16, 0))))
	if p.r.Role() != api.RoLeader {
		t.Errorf("role %d", p.r.Role())
	}
}

// P10.3, Promise: of each slot the vote with the greatest ballot, of several the least node's; an empty value in a gap; what is its own counts, too.
func TestLeadsWithVotes(t *testing.T) {
	p := begin(t, of(1, 5))
	p.recv(p.from(0, acceptOf(6, 3, "own 3", 0)))
	p.recv(p.from(0, acceptOf(6, 5, "own 5", 0)))
	p.learn(0, "a")
	wantMessages(t, "standing", p.stood(), p.toOthers(prepareOf(9, 1))...)
	wantMessages(t, "the first", p.recv(p.from(4, promiseOf(9, 1, vote(1, 5, "4: 1"), vote(3, 7, "4: 3"), vote(5, 6, "4: 5"), vote(7, 4, "4: 7"), vote(8, 2, "4: 8")))))
	wantMessages(t, "told twice", p.recv(p.from(4, promiseOf(9, 1, vote(1, 8, "twice"), vote(9, 8, "twice")))))
	out := p.recv(p.from(0, promiseOf(9, 1, vote(1, 4, "0: 1"), vote(3, 7, "0: 3"), vote(5, 5, "0: 5"), vote(8, 2, "0: 8"))))
	wantMessages(t, "leading", out, p.toOthers(
		acceptOf(9, 1, "4: 1", 1), acceptOf(9, 2, "", 1), acceptOf(9, 3, "0: 3", 1), acceptOf(9, 4, "", 1),
		acceptOf(9, 5, "own 5", 1), acceptOf(9, 6, "", 1), acceptOf(9, 7, "4: 7", 1), acceptOf(9, 8, "0: 8", 1))...)
	for slot, value := range []string{1: "4: 1", 2: "", 3: "0: 3", 4: "", 5: "own 5", 6: "", 7: "4: 7", 8: "0: 8"} {
		if ballot, got, ok := p.r.Store().Get(slot); slot > 0 && (ballot != 9 || string(got) != value || !ok) {
			t.Errorf("slot %d: it accepted %d, %q, %v", slot, ballot, got, ok)
		}
	}
	wantMessages(t, "a promise too many", p.recv(p.from(2, promiseOf(9, 1, vote(9, 8, "late")))))
	if slot, _, e := p.propose("n"); slot != 9 || e != api.OK {
		t.Errorf("Propose: %d, error %d", slot, int(e))
	}
	p.recv(p.from(2, acceptedOf(9, 2)))
	wantMessages(t, "the gap is chosen", p.recv(p.from(3, acceptedOf(9, 2))), p.toOthers(learnOf(9, 2, vote(2, 9, "")))...)
	p.check("the end")
}

// P10.3, Promise: votes below Slot, and such as are not near, are not noted; the last near one is.
func TestVotesThatAreNotNoted(t *testing.T) {
	for _, base := range []int{0, 3} {
		p := begin(t, of(0, 3))
		p.install(base)
		p.learn(base, "a", "b")
		p.stood()
		asked := base + 2
		far := []api.Vote{vote(asked-1, 7, "b"), vote(base, 7, "a"), vote(0, 7, "no"), vote(-1, 7, "no"), vote(base+nearSlots, 7, "no"), vote(asked+nearSlots, 7, "no"), vote(maxSlot, 7, "no")}
		for _, n := range farOff {
			far = append(far, vote(n, 7, "no"))
		}
		wantMessages(t, "none is noted", p.recv(p.from(1, promiseOf(8, asked, far...))))
		if slot, _, e := p.propose("c"); slot != asked || e != api.OK {
			t.Errorf("Propose: %d, error %d", slot, int(e))
		}
		p.check("none is noted")
	}
	for _, base := range []int{0, 3} {
		p := begin(t, of(0, 3))
		p.install(base)
		p.stood()
		last := base + nearSlots - 1
		out := p.recv(p.from(1, promiseOf(8, base, vote(last+1, 7, "no"), vote(last, 7, "last"), vote(last, 6, "no"))))
		var l []api.Msg
		for slot := base; slot < last; slot++ {
			l = append(l, acceptOf(8, slot, "", base))
		}
		wantMessages(t, "the last near slot", out, p.toOthers(append(l, acceptOf(8, last, "last", base))...)...)
		if slot, _, e := p.propose("x"); slot != 0 || e != api.ErrFull {
			t.Errorf("Propose: %d, error %d", slot, int(e))
		}
		p.check("the last near slot")
		p.recv(p.from(1, acceptedOf(8, base)))
		p.trim(base + 1)
		if slot, _, e := p.propose("x"); slot != last+1 || e != api.OK {
			t.Errorf("Propose, where none has voted: %d, error %d", slot, int(e))
		}
	}
}

// P10.3, Promise: it proposes up to the first that is refused: what is too long, and what a full log has no room for.
func TestLeadsUpToRefused(t *testing.T) {
	p := begin(t, of(0, 3))
	p.stood()
	out := p.recv(p.from(2, promiseOf(8, 0, vote(0, 3, longest), vote(1, 3, longest+"l"), vote(2, 3, "c"))))
	wantMessages(t, "too long", out, p.toOthers(acceptOf(8, 0, longest, 0))...)
	if p.r.Role() != api.RoLeader || p.r.Store().Slots() != 1 {
		t.Errorf("role %d, %d slots", p.r.Role(), p.r.Store().Slots())
	}
	if slot, _, e := p.propose("b"); slot != 1 || e != api.OK {
		t.Errorf("Propose: %d, error %d", slot, int(e))
	}
	p.check("too long")

	c := of(0, 3)
	c.Per = 1
	p = begin(t, c)
	for slot := range 253 {
		p.recv(p.from(1, acceptOf(1, slot, "x", 0)))
	}
	p.stood()
	out = p.recv(p.from(1, promiseOf(8, 0, vote(5, 2, "y"))))
	wantMessages(t, "a full log", out, p.toOthers(acceptOf(8, 0, "x", 0), acceptOf(8, 1, "x", 0))...)
	if _, _, e := p.propose("z"); p.r.Role() != api.RoLeader || e != api.ErrFull {
		t.Errorf("role %d; Propose: error %d", p.r.Role(), int(e))
	}
	wantMessages(t, "a tick", p.tick(), p.toOthers(beatOf(8, 0), acceptOf(8, 0, "x", 0), acceptOf(8, 1, "x", 0))...)
	p.check("a full log")
}

// P10.3, P10.4: from where it asked it goes on, even if that has become known meanwhile; if it is below the base, nothing is proposed.
func TestLeadsBehindWhatIsKnown(t *testing.T) {
	p := begin(t, of(0, 3))
	p.stood()
	p.learn(0, "a", "b")
	wantMessages(t, "known slots", p.recv(p.from(1, promiseOf(8, 0, vote(0, 2, "a"), vote(1, 2, "b"), vote(2, 2, "c")))),
		p.toOthers(acceptOf(8, 0, "a", 2), acceptOf(8, 1, "b", 2), acceptOf(8, 2, "c", 2))...)
	wantMessages(t, "a tick", p.tick(), p.toOthers(beatOf(8, 2), acceptOf(8, 2, "c", 2))...)
	wantMessages(t, "an Accepted of what is known", p.recv(p.from(1, acceptedOf(8, 1))))

	p = begin(t, of(0, 3))
	p.stood()
	p.learn(0, "a", "b")
	p.trim(1)
	wantMessages(t, "it asked below the base", p.recv(p.from(1, promiseOf(8, 0, vote(0, 2, "a"), vote(1, 2, "b")))))
	if slot, _, e := p.propose("x"); p.r.Role() != api.RoLeader || slot != 0 || e != api.ErrFull {
		t.Errorf("role %d; Propose: %d, error %d", p.r.Role(), slot, int(e))
	}
	p.check("it asked below the base")
}

// P10.3, Refuse: at its own ballot, and above it; of a candidate, a leader, a follower.
func TestRefuse(t *testing.T) {
	for _, leads := range []bool{false, true} {
		for _, ballot := range []int{0, 8, 9, 10, 16, maxNumber} {
			p := begin(t, api.PaxosConf{Id: 1, Nodes: 3, Timeout: 2, Per: 4})
			role := api.RoCandidate
			if leads {
				p.lead()
				role = api.RoLeader
			} else {
				p.stood()
				p.tick()
			}
			leader := p.r.Leader()
			if ballot > 9 {
				role, leader = api.RoFollower, nobody
			}
			wantMessages(t, "Refuse", p.recv(p.from(0, refuseOf(ballot))))
			if p.r.Role() != role || p.r.Leader() != leader || p.r.Ballot() != 9 || p.r.Store().Promised() != 9 {
				t.Errorf("ballot %d: role %d, leader %d, ballot %d, promise %d", ballot, p.r.Role(), p.r.Leader(), p.r.Ballot(), p.r.Store().Promised())
			}
			if role == api.RoFollower {
				wantMessages(t, "it waits from 0 on", p.stood(), p.toOthers(prepareOf(17, 0))...)
			}
			p.check("the end")
		}
	}
	p := begin(t, of(0, 3))
	p.recv(p.from(2, beatOf(10, 0)))
	p.recv(p.from(1, refuseOf(100)))
	if p.r.Leader() != 2 {
		t.Errorf("a follower takes %d for the leader", p.r.Leader())
	}
}

// P10.3, Accept: near slots, the last one and the one behind it; a value's length.
func TestAccept(t *testing.T) {
	for _, base := range []int{0, 6} {
		p := begin(t, of(2, 3))
		p.install(base)
		for _, slot := range []int{base, base + 9, base + 1, base + nearSlots - 1} {
			wantMessages(t, "near", p.recv(p.from(1, acceptOf(9, slot, "x", 0))), p.s.to(1, acceptedOf(9, slot))...)
		}
		records := p.r.Store().Log().Len()
		for _, slot := range []int{base + nearSlots, base + nearSlots + 1, maxSlot} {
			wantMessages(t, "not near", p.recv(p.from(0, acceptOf(16, slot, "x", 0))))
		}
		wantMessages(t, "too long", p.recv(p.from(0, acceptOf(16, base, longest+"l", 0))))
		if p.r.Leader() != 1 || p.r.Store().Promised() != 9 || p.r.Store().Log().Len() != records {
			t.Errorf("leader %d, promise %d", p.r.Leader(), p.r.Store().Promised())
		}
		wantMessages(t, "the longest", p.recv(p.from(0, acceptOf(16, base, longest, 0))), p.s.to(0, acceptedOf(16, base))...)
		if ballot, value, ok := p.r.Store().Get(base); ballot != 16 || string(value) != longest || !ok || p.r.Leader() != 0 || p.r.Store().Promised() != 16 {
			t.Errorf("it accepted %d, %.20q, %v; leader %d, promise %d", ballot, value, ok, p.r.Leader(), p.r.Store().Promised())
		}
		if p.r.Prefix() != base {
			t.Errorf("what is accepted is not chosen: prefix %d", p.r.Prefix())
		}
		p.check("the end")
	}
}

// P10.3, Accept: one that may not be accepted does not end a leader's or a candidate's role.
func TestAcceptThatIsNot(t *testing.T) {
	for _, m := range []api.Msg{acceptOf(17, nearSlots, "x", 0), acceptOf(17, 1, longest+"l", 0)} {
		p := begin(t, of(0, 3)).lead()
		wantMessages(t, message(m), p.recv(p.from(1, m)))
		if p.r.Role() != api.RoLeader || p.r.Leader() != 0 || p.r.Store().Promised() != 8 {
			t.Errorf("%s: role %d, leader %d, promise %d", message(m), p.r.Role(), p.r.Leader(), p.r.Store().Promised())
		}
	}
}

// P10.3, Accepted: with a quorum, itself counted, the slot is chosen; then all others learn it, once.
func TestQuorumOfAccepted(t *testing.T) {
	for nodes := 2; nodes <= 5; nodes++ {
		for _, id := range []int{0, nodes - 1} {
			p := begin(t, of(id, nodes)).lead()
			b := p.r.Ballot()
			p.propose("a")
			p.propose("b")
			others := p.others()
			slices.Reverse(others)
			for i, node := range others {
				chosen := i+1 >= nodes/2
				for j := range 3 {
					out := p.recv(p.from(node, acceptedOf(b, 1)))
					if j == 0 && i+1 == nodes/2 {
						wantMessages(t, "with a quorum", out, p.toOthers(learnOf(b, 1, vote(1, b, "b")))...)
					} else {
						wantMessages(t, "without, or behind it", out)
					}
				}
				want := p.toOthers(beatOf(b, 0), acceptOf(b, 0, "a", 0), acceptOf(b, 1, "b", 0))
				if chosen {
					want = p.toOthers(beatOf(b, 0), acceptOf(b, 0, "a", 0))
				}
				wantMessages(t, "a tick", p.tick(), want...)
			}
			p.learn(0, "a")
			wantChosen(t, "chosen", p.r.Chosen(0), "a", "b")
			p.check("the end")
		}
	}
}

// P10.3, Accepted: of another ballot, and of a slot that was not proposed.
func TestAcceptedOfOther(t *testing.T) {
	p := begin(t, of(1, 3))
	p.recv(p.from(0, acceptOf(8, 2, "c", 0)))
	p.recv(p.from(0, acceptOf(8, 0, "a", 0)))
	wantMessages(t, "a follower", p.recv(p.from(0, acceptedOf(0, 0))))
	wantMessages(t, "a follower", p.recv(p.from(0, acceptedOf(8, 0))))
	p.stood()
	wantMessages(t, "a candidate", p.recv(p.from(0, acceptedOf(9, 0))))
	p.recv(p.from(0, promiseOf(9, 0)))
	for _, m := range []api.Msg{acceptedOf(8, 0), acceptedOf(10, 0), acceptedOf(17, 0), acceptedOf(0, 0), acceptedOf(9, 3), acceptedOf(9, 4), acceptedOf(9, maxSlot)} {
		wantMessages(t, message(m), p.recv(p.from(0, m)))
	}
	if p.r.Prefix() != 0 {
		t.Errorf("prefix %d", p.r.Prefix())
	}
	for slot, value := range []string{"a", "", "c"} {
		wantMessages(t, "proposed anew", p.recv(p.from(2, acceptedOf(9, slot))), p.toOthers(learnOf(9, slot, vote(slot, 9, value)))...)
	}
	wantChosen(t, "chosen", p.r.Chosen(0), "a", "", "c")
}

// P10.3, Accepted: a slot that is known from a Learn is told to nobody.
func TestAcceptedOfKnown(t *testing.T) {
	p := begin(t, of(0, 3)).lead()
	p.propose("a")
	p.learn(0, "a")
	for node := 1; node <= 2; node++ {
		wantMessages(t, "known already", p.recv(p.from(node, acceptedOf(8, 0))))
	}
	wantChosen(t, "known", p.r.Chosen(0), "a")
}

// P10.3, Beat: N at the prefix, and above it.
func TestBeat(t *testing.T) {
	p := begin(t, of(0, 3)).learn(0, "a", "b", "c").learn(5, "f")
	for n, asks := range []bool{false, false, false, false, true, true, true, true} {
		out := p.recv(p.from(2, beatOf(10, n)))
		if asks {
			wantMessages(t, fmt.Sprintf("n %d", n), out, p.s.to(2, askOf(3))...)
		} else {
			wantMessages(t, fmt.Sprintf("n %d", n), out)
		}
	}
	if p.r.Leader() != 2 || p.r.Store().Promised() != 0 {
		t.Errorf("leader %d, promise %d", p.r.Leader(), p.r.Store().Promised())
	}
	p.recv(p.from(1, beatOf(9, 0)))
	if p.r.Leader() != 1 {
		t.Errorf("leader %d", p.r.Leader())
	}
}

// P10.3, Ask: below the prefix, and at it; 16 slots, and 17; nobody needs to lead.
func TestAsk(t *testing.T) {
	l := values(20)
	learned := func(from, end int) []api.Vote {
		var votes []api.Vote
		for slot := from; slot < end; slot++ {
			votes = append(votes, vote(slot, 0, l[slot]))
		}
		return votes
	}
	p := begin(t, of(0, 3))
	wantMessages(t, "nothing is known", p.recv(p.from(1, askOf(0))))
	p.learn(0, l[:16]...).learn(17, l[17:]...)
	wantMessages(t, "16 slots", p.recv(p.from(1, askOf(0))), p.s.to(1, learnOf(0, 0, learned(0, 16)...))...)
	p.learn(16, l[16])
	wantMessages(t, "17 slots and more", p.recv(p.from(1, askOf(0))), p.s.to(1, learnOf(0, 0, learned(0, 16)...))...)
	for slot := range 20 {
		wantMessages(t, fmt.Sprintf("slot %d", slot), p.recv(p.from(2, askOf(slot))), p.s.to(2, learnOf(0, slot, learned(slot, min(20, slot+16))...))...)
	}
	for _, slot := range []int{20, 21, maxSlot} {
		wantMessages(t, "at the prefix and above", p.recv(p.from(2, askOf(slot))))
	}
	m := askOf(3)
	m.Ballot, m.N = 77, 5
	wantMessages(t, "with a ballot", p.recv(p.from(2, m)), p.s.to(2, learnOf(0, 3, learned(3, 19)...))...)
	p.trim(4)
	wantMessages(t, "below the base", p.recv(p.from(2, askOf(3))), p.s.to(2, behindOf(4))...)
	wantMessages(t, "at the base", p.recv(p.from(2, askOf(4))), p.s.to(2, learnOf(0, 4, learned(4, 20)...))...)
	p.trim(20)
	wantMessages(t, "all is forgotten", p.recv(p.from(2, askOf(20))))
	p.check("the end")
}

// P10.3, Learn: each near slot that is not chosen yet, and no other one; the store has nothing of it.
func TestLearn(t *testing.T) {
	for _, base := range []int{0, 4} {
		p := begin(t, of(0, 3))
		p.install(base)
		wantMessages(t, "Learn", p.recv(p.from(1, learnOf(3, maxSlot,
			vote(base+1, 2, "b"), vote(base, 5, "a"), vote(base, 9, "no"), vote(base+nearSlots-1, 1, "last"), vote(base+nearSlots, 1, "no"),
			vote(base-1, 1, "no"), vote(-1, 1, "no"), vote(farOff[0], 1, "no"), vote(farOff[len(farOff)-1], 1, "no")))))
		wantChosen(t, "learned", p.r.Chosen(base), "a", "b")
		p.recv(p.from(2, learnOf(9, base, vote(base, 9, "no"), vote(base+1, 9, "no"), vote(base+2, 9, ""))))
		wantChosen(t, "known already", p.r.Chosen(base), "a", "b", "")
		for slot := base + 3; slot < base+nearSlots-1; slot++ {
			p.r.Recv(p.from(1, learnOf(0, slot, vote(slot, 0, "x"))))
			p.s.recv(p.from(1, learnOf(0, slot, vote(slot, 0, "x"))))
		}
		p.check("all that is near")
		if n := base + nearSlots; p.r.Prefix() != n || string(p.r.Chosen(n - 1)[0]) != "last" || p.r.Store().Slots() != 0 || p.r.Store().Promised() != 0 {
			t.Errorf("prefix %d, %d slots", p.r.Prefix(), p.r.Store().Slots())
		}
		p.trim(base + nearSlots)
		p.learn(base+nearSlots, "now")
		wantChosen(t, "near behind Trim", p.r.Chosen(base+nearSlots), "now")
	}
}

// P10.3, Learn: too long values, too, and any ballot; who leads does not change.
func TestLearnOfAny(t *testing.T) {
	p := begin(t, of(0, 3)).lead()
	p.propose("x")
	p.recv(p.from(1, learnOf(maxNumber, 0, vote(0, -5, longest+"l"))))
	wantChosen(t, "too long for a store", p.r.Chosen(0), longest+"l")
	if p.r.Role() != api.RoLeader || p.r.Leader() != 0 || p.r.Store().Promised() != 8 {
		t.Errorf("role %d, leader %d, promise %d", p.r.Role(), p.r.Leader(), p.r.Store().Promised())
	}
	wantMessages(t, "a tick", p.tick(), p.toOthers(beatOf(8, 1))...)
}

// P10.3: a Behind does nothing at all.
func TestBehind(t *testing.T) {
	p := begin(t, of(0, 3)).lead().choose("a")
	for _, slot := range []int{0, 1, 2, 500, maxSlot} {
		m := behindOf(slot)
		m.Ballot = maxNumber
		wantMessages(t, "Behind", p.recv(p.from(1, m)))
	}
	p.check("Behind")
}

// P10.3, P10.8: who has no room for a promise gives none, and does not stand; what is promised already may be told.
func TestPromisesOfFullLog(t *testing.T) {
	c := of(1, 3)
	c.Per = 1
	p := begin(t, c)
	for i := range 256 {
		p.recv(p.from(0, acceptOf(8, i%3, "x", 0)))
	}
	wantMessages(t, "no room", p.recv(p.from(2, prepareOf(10, 3))))
	wantMessages(t, "no room", p.recv(p.from(2, acceptOf(10, 3, "y", 0))))
	wantMessages(t, "promised already", p.recv(p.from(2, prepareOf(8, 3))), p.s.to(2, promiseOf(8, 3))...)
	for range 10 {
		wantMessages(t, "it can't stand", p.tick())
	}
	if p.r.Role() != api.RoFollower || p.r.Ballot() != 0 || p.r.Leader() != 0 || p.r.Store().Promised() != 8 {
		t.Errorf("role %d, ballot %d, leader %d, promise %d", p.r.Role(), p.r.Ballot(), p.r.Leader(), p.r.Store().Promised())
	}
	p.check("a full log")

	p = begin(t, c)
	for i := range 255 {
		p.recv(p.from(0, acceptOf(8, i%3, "x", 0)))
	}
	p.stood()
	if p.r.Role() != api.RoCandidate || p.r.Ballot() != 9 {
		t.Fatalf("role %d, ballot %d", p.r.Role(), p.r.Ballot())
	}
	wantMessages(t, "no room", p.recv(p.from(2, prepareOf(10, 3))))
	for range 10 {
		wantMessages(t, "it can't stand again", p.tick())
	}
	if p.r.Role() != api.RoCandidate || p.r.Ballot() != 9 {
		t.Errorf("role %d, ballot %d", p.r.Role(), p.r.Ballot())
	}
	p.check("a full log")
}

// P10.7, P10.8: what a message told is there behind a crash, whatever of the rest is left.
func TestToldIsThereBehindCrash(t *testing.T) {
	for _, keep := range []int{0, 1, 5, 1000} {
		for _, flip := range []int{-1, 0, 3, 40} {
			crash := func(p pair) *paxos.Replica {
				t.Helper()
				p.crash(keep, flip).restart()
				return p.r
			}
			p := begin(t, of(0, 3))
			p.recv(p.from(1, prepareOf(9, 0)))
			if r := crash(p); r.Store().Promised() != 9 {
				t.Errorf("a Promise: promise %d", r.Store().Promised())
			}
			wantMessages(t, "an earlier ballot", p.recv(p.from(2, acceptOf(8, 0, "x", 0))), p.s.to(2, refuseOf(9))...)

			p.recv(p.from(2, acceptOf(10, 5, "y", 0)))
			r := crash(p)
			if ballot, value, ok := r.Store().Get(5); r.Store().Promised() != 10 || ballot != 10 || string(value) != "y" || !ok {
				t.Errorf("an Accepted: promise %d, vote %d, %q, %v", r.Store().Promised(), ballot, value, ok)
			}
			wantMessages(t, "Prepare", p.recv(p.from(1, prepareOf(17, 2))), p.s.to(1, promiseOf(17, 2, vote(5, 10, "y")))...)

			p.stood()
			if r := crash(p); r.Store().Promised() != 24 {
				t.Errorf("a Prepare: promise %d", r.Store().Promised())
			}
			wantMessages(t, "a greater ballot", p.stood(), p.toOthers(prepareOf(32, 0))...)

			p.recv(p.from(2, promiseOf(32, 0)))
			slot, _, _ := p.propose("z")
			r = crash(p)
			if ballot, value, ok := r.Store().Get(slot); slot != 6 || ballot != 32 || string(value) != "z" || !ok {
				t.Errorf("an Accept: slot %d, vote %d, %q, %v", slot, ballot, value, ok)
			}
			if ballot, value, ok := r.Store().Get(5); ballot != 32 || string(value) != "y" || !ok {
				t.Errorf("what was proposed anew: vote %d, %q, %v", ballot, value, ok)
			}

			p.install(6)
			wantMessages(t, "Behind", p.recv(p.from(1, acceptOf(33, 5, "x", 0))), p.s.to(1, behindOf(6))...)
			if r := crash(p); r.Base() != 6 || r.Prefix() != 6 {
				t.Errorf("Install: base %d, prefix %d", r.Base(), r.Prefix())
			}
			p.learn(6, "z", "")
			p.trim(7)
			if r := crash(p); r.Base() != 7 || r.Prefix() != 7 {
				t.Errorf("Trim: base %d, prefix %d", r.Base(), r.Prefix())
			}
		}
	}
}

// P10.7: a crash ahead of, and behind, each kind of message: what comes then is answered as of a new one over what its store has.
func TestCrashAroundMessages(t *testing.T) {
	kinds := []api.Msg{
		prepareOf(30, 1), promiseOf(9, 1, vote(1, 5, "x")), refuseOf(30), acceptOf(30, 1, "y", 1), acceptedOf(9, 1), beatOf(30, 9), askOf(1), learnOf(30, 1, vote(1, 30, "y")), behindOf(9),
	}
	begun := map[string]func(p pair){
		"a follower":  func(p pair) { p.recv(p.from(0, acceptOf(8, 1, "v", 0))) },
		"a candidate": func(p pair) { p.stood() },
		"a leader":    func(p pair) { p.lead().propose("w") },
	}
	for name, f := range begun {
		for _, m := range kinds {
			for _, next := range kinds {
				p := begin(t, of(1, 3)).learn(0, "a")
				f(p)
				p.crash(2, 1)
				wantMessages(t, name+", down", p.recv(p.from(2, m)))
				p.restart()
				p.recv(p.from(2, m))
				p.crash(0, 0).restart()
				p.recv(p.from(0, next))
				p.stood()
				p.check(name)
			}
		}
	}
}

// Rule 5: what is handed in is not kept: the caller may change it.
func TestHandedInIsNotKept(t *testing.T) {
	spoil := func(b []byte) {
		for i := range b {
			b[i] = '!'
		}
	}
	p := begin(t, of(0, 1)).lead()
	value := []byte("value")
	p.r.Propose(value)
	p.s.propose("value")
	spoil(value)
	p.check("proposed alone")
	wantChosen(t, "proposed alone", p.r.Chosen(0), "value")

	p = begin(t, of(0, 3)).lead()
	value = []byte("value")
	p.r.Propose(value)
	p.s.propose("value")
	spoil(value)
	wantMessages(t, "proposed", p.tick(), p.toOthers(beatOf(8, 0), acceptOf(8, 0, "value", 0))...)
	p.recv(p.from(1, acceptedOf(8, 0)))
	wantChosen(t, "proposed", p.r.Chosen(0), "value")

	for _, m := range []api.Msg{acceptOf(9, 1, "value", 0), learnOf(9, 1, vote(1, 9, "value")), promiseOf(16, 0, vote(1, 9, "value"))} {
		p := begin(t, of(0, 5))
		if m.Kind == api.MsPromise {
			p.recv(p.from(2, prepareOf(8, 0)))
			p.stood()
			p.recv(p.from(2, promiseOf(16, 0)))
		}
		if m.Kind == api.MsLearn {
			p.learn(0, "a")
		}
		copied := p.from(1, m)
		copied.Value = slices.Clone(m.Value)
		copied.Votes = nil
		for _, v := range m.Votes {
			copied.Votes = append(copied.Votes, vote(v.Slot, v.Ballot, string(v.Value)))
		}
		p.r.Recv(copied)
		p.s.recv(p.from(1, m))
		spoil(copied.Value)
		for i := range copied.Votes {
			spoil(copied.Votes[i].Value)
			copied.Votes[i] = vote(1, 77, "other")
		}
		p.check(message(m))
		p.tick()
		p.recv(p.from(3, askOf(0)))
		p.recv(p.from(3, promiseOf(16, 0)))
		p.tick()
		p.check(message(m))
	}
}

// Rule 5: a promise's votes are its own, also until a later one makes it lead.
func TestPromisesAreNotKept(t *testing.T) {
	p := begin(t, of(0, 5))
	p.stood()
	l := []api.Vote{vote(0, 3, "a"), vote(1, 3, "b")}
	m := p.from(1, promiseOf(8, 0, l...))
	p.recv(m)
	m.Votes[0].Value[0] = '!'
	m.Votes[1] = vote(1, 7, "other")
	wantMessages(t, "leading", p.r.Recv(p.from(2, promiseOf(8, 0))), p.toOthers(acceptOf(8, 0, "a", 0), acceptOf(8, 1, "b", 0))...)
}

// Rule 5: what lies behind a list's length is neither read nor written.
func TestBehindLengthIsNotTouched(t *testing.T) {
	p := begin(t, of(0, 3)).lead()
	memory := []byte("value and more")
	p.r.Propose(memory[:5])
	p.s.propose("value")
	list := []api.Vote{vote(0, 8, "value"), vote(1, 8, "more")}
	m := p.from(1, learnOf(8, 0))
	m.Votes = list[:1]
	p.recv(m)
	p.tick()
	if string(memory) != "value and more" || string(list[1].Value) != "more" || list[1].Slot != 1 {
		t.Errorf("memory is %q, %v", memory, list)
	}
	wantChosen(t, "learned", p.r.Chosen(0), "value")
}

// spoil changes all that a call told.
func spoil(out []api.Msg) {
	for i := range out {
		for j := range out[i].Value {
			out[i].Value[j] = '!'
		}
		for j := range out[i].Votes {
			for k := range out[i].Votes[j].Value {
				out[i].Votes[j].Value[k] = '!'
			}
			out[i].Votes[j] = vote(99, 99, "!")
		}
		out[i] = api.Msg{}
	}
}

// Rule 5: what is told is new memory, and each list in it: the caller may change it.
func TestToldIsNew(t *testing.T) {
	p := begin(t, of(0, 5))
	p.recv(p.from(1, acceptOf(2, 0, "a", 0)))
	p.recv(p.from(1, acceptOf(2, 1, "b", 0)))
	spoil(p.recv(p.from(1, prepareOf(3, 0))))
	p.check("a Promise was changed")
	spoil(p.stood())
	spoil(p.recv(p.from(1, promiseOf(8, 0, vote(1, 5, "B")))))
	spoil(p.recv(p.from(2, promiseOf(8, 0))))
	p.check("Accepts were changed")
	_, out, _ := p.propose("c")
	spoil(out)
	wantMessages(t, "a tick", p.tick(), p.toOthers(beatOf(8, 0), acceptOf(8, 0, "a", 0), acceptOf(8, 1, "B", 0), acceptOf(8, 2, "c", 0))...)
	spoil(p.tick())
	for slot := range 3 {
		p.recv(p.from(1, acceptedOf(8, slot)))
		spoil(p.recv(p.from(2, acceptedOf(8, slot))))
	}
	wantChosen(t, "Learns were changed", p.r.Chosen(0), "a", "B", "c")
	for _, value := range p.r.Chosen(0) {
		value[0] = '!'
	}
	wantChosen(t, "Chosen was changed", p.r.Chosen(0), "a", "B", "c")
	spoil(p.recv(p.from(4, askOf(0))))
	wantMessages(t, "Ask", p.recv(p.from(4, askOf(0))), p.s.to(4, learnOf(0, 0, vote(0, 0, "a"), vote(1, 0, "B"), vote(2, 0, "c")))...)
	p.check("all was changed")
}

// Rule 5: no two messages of one answer share memory.
func TestToldIsApart(t *testing.T) {
	p := begin(t, of(0, 5)).lead()
	apart := func(name string, out []api.Msg) {
		t.Helper()
		text := messages(out[1:])
		if len(out) < 2 {
			t.Fatalf("%s: %v", name, out)
		}
		spoil(out[:1])
		if got := messages(out[1:]); got != text {
			t.Errorf("%s: told are%s, not%s", name, got, text)
		}
	}
	_, out, _ := p.propose("a")
	apart("Propose", out)
	apart("Tick", p.tick()[4:])
	p.recv(p.from(1, acceptedOf(8, 0)))
	apart("Accepted", p.recv(p.from(2, acceptedOf(8, 0))))
	p.check("the end")
}
