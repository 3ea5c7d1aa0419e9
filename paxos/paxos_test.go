package paxos_test

import (
	"fmt"
	"testing"

	"raceway/api"
	"raceway/paxos"
)

// of is how replica id of so many is, if it does not matter how else.
func of(id, nodes int) api.PaxosConf {
	return api.PaxosConf{Id: id, Nodes: nodes, Timeout: 1, Per: 64}
}

// The chapter's example.
func TestExample(t *testing.T) {
	p := begin(t, of(0, 3))
	wantMessages(t, "the first tick", p.tick())
	wantMessages(t, "the second tick", p.tick(),
		api.Msg{Kind: api.MsPrepare, From: 0, To: 1, Ballot: 8},
		api.Msg{Kind: api.MsPrepare, From: 0, To: 2, Ballot: 8})
	p.recv(api.Msg{Kind: api.MsPromise, From: 1, To: 0, Ballot: 8})
	p.recv(api.Msg{Kind: api.MsPromise, From: 2, To: 0, Ballot: 8})
	if p.r.Role() != api.RoLeader || p.r.Ballot() != 8 || p.r.Leader() != 0 {
		t.Fatalf("role %d, ballot %d, leader %d", p.r.Role(), p.r.Ballot(), p.r.Leader())
	}
	slot, out, e := p.propose("a")
	if slot != 0 || e != api.OK {
		t.Fatalf("Propose: %d, error %d", slot, int(e))
	}
	wantMessages(t, "Propose", out,
		api.Msg{Kind: api.MsAccept, From: 0, To: 1, Ballot: 8, Value: []byte("a")},
		api.Msg{Kind: api.MsAccept, From: 0, To: 2, Ballot: 8, Value: []byte("a")})
	wantChosen(t, "proposed", p.r.Chosen(0))
	p.recv(api.Msg{Kind: api.MsAccepted, From: 1, To: 0, Ballot: 8})
	wantChosen(t, "accepted", p.r.Chosen(0), "a")
	p.check("the end")
}

// P10.1
func TestNew(t *testing.T) {
	for nodes := 1; nodes <= 5; nodes++ {
		for id := range nodes {
			for _, timeout := range []int{1, 2, 999, 1000} {
				for _, per := range []int{1, 1024} {
					p := begin(t, api.PaxosConf{Id: id, Nodes: nodes, Timeout: timeout, Per: per})
					if p.r.Down() || p.r.Role() != 0 || p.r.Ballot() != 0 || p.r.Leader() != -1 || p.r.Prefix() != 0 || p.r.Base() != 0 {
						t.Errorf("of %d, %d: down %v, role %d, ballot %d, leader %d, prefix %d, base %d", nodes, id, p.r.Down(), p.r.Role(), p.r.Ballot(), p.r.Leader(), p.r.Prefix(), p.r.Base())
					}
				}
			}
		}
	}
}

// P10.1: each part wrong, one at a time, and several at once.
func TestNewOfWrongConf(t *testing.T) {
	refused := func(c api.PaxosConf) {
		t.Helper()
		if r, e := paxos.New(c); r != nil || e != api.ErrArg {
			t.Errorf("New(%+v): %v, error %d", c, r, int(e))
		}
	}
	for _, n := range append([]int{-1, 6, 7, 1025, 5000}, farOff...) {
		for _, id := range []int{0, 2, 4} {
			right := api.PaxosConf{Id: id, Nodes: 5, Timeout: 7, Per: 4}
			c := right
			c.Nodes = n
			refused(c)
			c = right
			c.Id = n
			refused(c)
			if n < 1 || n > 1000 {
				c = right
				c.Timeout = n
				refused(c)
			}
			if n < 1 || n > 1024 {
				c = right
				c.Per = n
				refused(c)
			}
			refused(api.PaxosConf{Id: n, Nodes: n, Timeout: 7, Per: 4})
		}
		refused(api.PaxosConf{Id: n, Nodes: n, Timeout: n, Per: n})
	}
	for nodes := 1; nodes <= 5; nodes++ {
		refused(api.PaxosConf{Id: nodes, Nodes: nodes, Timeout: 1, Per: 1})
		refused(api.PaxosConf{Id: -1, Nodes: nodes, Timeout: 1, Per: 1})
	}
	for _, c := range []api.PaxosConf{
		{}, {Nodes: 0, Timeout: 1, Per: 1}, {Nodes: 1, Timeout: 0, Per: 1}, {Nodes: 1, Timeout: 1, Per: 0},
		{Nodes: 3, Timeout: 1001, Per: 1}, {Nodes: 3, Timeout: 1, Per: 1025}, {Id: 3, Nodes: 3, Timeout: 1001, Per: 1025},
	} {
		refused(c)
	}
}

// P10.1: per of a replica's store is Per: a log of 256 segments with so many records.
func TestRecordsOfSegment(t *testing.T) {
	for _, per := range []int{1, 2, 3} {
		c := of(0, 3)
		c.Per = per
		p := begin(t, c).lead()
		for range 4 * per {
			p.propose("x")
		}
		if n := len(p.r.Store().Log().Segments()); n != 5 {
			t.Errorf("%d records, %d a segment: %d segments", 1+4*per, per, n)
		}
	}
}

// P10.1: replicas are apart.
func TestReplicasAreApart(t *testing.T) {
	p, q := begin(t, of(0, 3)), begin(t, of(0, 3))
	p.lead().choose("a", "b")
	q.check("the other one")
	q.lead().choose("c").trim(1)
	q.crash(0, 0)
	p.check("the one").choose("d")
	wantChosen(t, "the one", p.r.Chosen(0), "a", "b", "d")
}

// P10.2: the tick with which it has waited Timeout + Id, and the one behind it; then as long again.
func TestWaits(t *testing.T) {
	for _, timeout := range []int{1, 2, 5, 1000} {
		for nodes := 2; nodes <= 5; nodes++ {
			for _, id := range []int{0, 1, nodes - 1} {
				p := begin(t, api.PaxosConf{Id: id, Nodes: nodes, Timeout: timeout, Per: 4})
				for round := 1; round <= 3; round++ {
					for range timeout + id {
						wantMessages(t, "waiting", p.tick())
					}
					b := 8*round + id
					wantMessages(t, "standing", p.tick(), p.toOthers(prepareOf(b, 0))...)
					if p.r.Role() != api.RoCandidate || p.r.Ballot() != b || p.r.Leader() != -1 || p.r.Store().Promised() != b {
						t.Fatalf("role %d, ballot %d, leader %d, promise %d", p.r.Role(), p.r.Ballot(), p.r.Leader(), p.r.Store().Promised())
					}
				}
				p.check("stood three times")
			}
		}
	}
}

// P10.2: what it has waited begins anew with each message of which the document says so, and with no other one.
func TestWaitsAnew(t *testing.T) {
	const timeout = 3
	anew := []api.Msg{prepareOf(20, 0), acceptOf(20, 0, "x", 0), beatOf(20, 0)}
	not := []api.Msg{
		prepareOf(19, 0), acceptOf(19, 0, "x", 0), beatOf(19, 0), // refused
		prepareOf(20, 1), acceptOf(20, 1, "x", 0), // behind
		acceptOf(20, 2+nearSlots, "x", 0), acceptOf(20, 2, longest+"l", 0),
		promiseOf(20, 2), refuseOf(100), acceptedOf(20, 2), askOf(2), learnOf(20, 2, vote(2, 20, "x")), behindOf(2), {Ballot: 20},
	}
	for kind, l := range [][]api.Msg{anew, not} {
		for _, m := range l {
			p := begin(t, api.PaxosConf{Id: 1, Nodes: 3, Timeout: timeout, Per: 8})
			if kind == 1 {
				p.install(2)
			}
			p.recv(p.from(0, prepareOf(20, p.r.Base())))
			for range timeout {
				wantMessages(t, "waiting", p.tick())
			}
			p.recv(p.from(0, m))
			left := timeout + 1
			if kind == 1 {
				left = 1
			}
			for range left {
				wantMessages(t, "waiting behind "+message(m), p.tick())
			}
			wantMessages(t, "standing behind "+message(m), p.tick(), p.toOthers(prepareOf(25, p.r.Prefix()))...)
		}
	}
}

// P10.2: it stands with the least ballot of its own above its store's promise, and asks from its prefix.
func TestStands(t *testing.T) {
	for _, c := range []struct{ id, promise, ballot int }{
		{0, 0, 8}, {2, 0, 10}, {0, 7, 8}, {0, 8, 16}, {1, 8, 9}, {1, 9, 17}, {2, 12, 18}, {2, 17, 18},
		{0, 8*maxRound - 1, 8 * maxRound}, {2, 8*maxRound + 1, 8*maxRound + 2},
	} {
		p := begin(t, of(c.id, 3))
		node := p.others()[0]
		p.recv(p.from(node, prepareOf(c.promise, 0)))
		p.learn(0, "a", "b", "c").learn(4, "e")
		wantMessages(t, fmt.Sprint(c), p.stood(), p.toOthers(prepareOf(c.ballot, 3))...)
		p.check(fmt.Sprint(c))
	}
}

// P10.2: where there is no greater ballot it does nothing.
func TestNoBallotIsLeft(t *testing.T) {
	for _, c := range []struct{ id, promise int }{
		{0, 8 * maxRound}, {0, 8*maxRound + 1}, {1, 8*maxRound + 1}, {1, 8*maxRound + 4}, {2, 8*maxRound + 5}, {0, maxNumber - 1}, {2, maxNumber},
	} {
		p := begin(t, of(c.id, 3))
		node := p.others()[0]
		p.recv(p.from(node, acceptOf(c.promise, 0, "x", 0)))
		for range 10 {
			wantMessages(t, "no ballot is left", p.tick())
		}
		if p.r.Role() != api.RoFollower || p.r.Ballot() != 0 || p.r.Leader() != node || p.r.Store().Promised() != c.promise {
			t.Errorf("promise %d: role %d, ballot %d, leader %d", c.promise, p.r.Role(), p.r.Ballot(), p.r.Leader())
		}
		p.check("no ballot is left")
	}
}

// P10.2: one vote is a quorum of one: it leads with the tick with which it stands, and what it proposes is chosen.
func TestOneAlone(t *testing.T) {
	p := begin(t, of(0, 1))
	wantMessages(t, "the first tick", p.tick())
	if p.r.Role() != api.RoFollower {
		t.Errorf("role %d", p.r.Role())
	}
	wantMessages(t, "the second tick", p.tick())
	if p.r.Role() != api.RoLeader || p.r.Ballot() != 8 || p.r.Leader() != 0 {
		t.Fatalf("role %d, ballot %d, leader %d", p.r.Role(), p.r.Ballot(), p.r.Leader())
	}
	for i, value := range []string{"a", "", "c"} {
		slot, out, e := p.propose(value)
		if slot != i || len(out) > 0 || e != api.OK || p.r.Prefix() != i+1 {
			t.Errorf("Propose: %d, %v, error %d; the prefix is %d", slot, out, int(e), p.r.Prefix())
		}
	}
	wantMessages(t, "a leader's tick", p.tick())
	p.trim(1)
	p.crash(0, 0).restart()
	wantChosen(t, "restarted", p.r.Chosen(1))
	p.tick()
	p.tick()
	if p.r.Role() != api.RoLeader || p.r.Ballot() != 16 {
		t.Fatalf("role %d, ballot %d", p.r.Role(), p.r.Ballot())
	}
	wantChosen(t, "leading again", p.r.Chosen(1), "", "c")
	p.check("leading again").choose("d")
}

// P10.2: one vote is a quorum of no more than one.
func TestOneVoteOfMore(t *testing.T) {
	for nodes := 2; nodes <= 5; nodes++ {
		p := begin(t, of(0, nodes))
		p.stood()
		if p.r.Role() != api.RoCandidate {
			t.Errorf("of %d: role %d", nodes, p.r.Role())
		}
	}
}

// P10.2: a leader's tick tells the 16 least slots that are not chosen, not the seventeenth.
func TestLeaderTells16Slots(t *testing.T) {
	for _, c := range []struct{ id, nodes int }{{0, 3}, {2, 3}, {3, 5}, {1, 2}} {
		p := begin(t, of(c.id, c.nodes)).lead()
		b := p.r.Ballot()
		wantMessages(t, "nothing proposed", p.tick(), p.toOthers(beatOf(b, 0))...)
		accepts := func(slots ...int) []api.Msg {
			l := []api.Msg{beatOf(b, p.r.Prefix())}
			for _, slot := range slots {
				l = append(l, acceptOf(b, slot, fmt.Sprintf("v%d", slot), p.r.Prefix()))
			}
			return p.toOthers(l...)
		}
		slots := []int{}
		for i, value := range values(19) {
			p.propose(value)
			if i < 16 {
				slots = append(slots, i)
			}
			if i > 13 {
				wantMessages(t, fmt.Sprintf("%d slots", i+1), p.tick(), accepts(slots...)...)
			}
		}
		p.learn(3, "v3").learn(0, "v0")
		wantMessages(t, "two are chosen", p.tick(), accepts(1, 2, 4, 5, 6, 7, 8, 9, 10, 11, 12, 13, 14, 15, 16, 17)...)
		p.learn(1, "v1", "v2")
		wantMessages(t, "four are chosen", p.tick(), accepts(4, 5, 6, 7, 8, 9, 10, 11, 12, 13, 14, 15, 16, 17, 18)...)
		for slot := 4; slot < 19; slot++ {
			p.learn(slot, fmt.Sprintf("v%d", slot))
		}
		wantMessages(t, "all are chosen", p.tick(), accepts()...)
		p.check("all are chosen")
	}
}

// P10.2: a leader never stands, however often it ticks; its beats do not end.
func TestLeaderGoesOn(t *testing.T) {
	p := begin(t, of(1, 3)).lead().choose("a", "b")
	for range 20 {
		wantMessages(t, "a leader's tick", p.tick(), p.toOthers(beatOf(9, 2))...)
	}
	if p.r.Role() != api.RoLeader || p.r.Ballot() != 9 {
		t.Errorf("role %d, ballot %d", p.r.Role(), p.r.Ballot())
	}
}

// P10.2: what an earlier ballot proposed is told under the ballot under which it is proposed, or not at all.
func TestLeaderForgetsEarlierBallot(t *testing.T) {
	p := begin(t, of(0, 3)).lead()
	p.propose("a")
	p.propose("b")
	p.recv(p.from(1, refuseOf(20)))
	wantMessages(t, "a follower's tick", p.tick())
	wantMessages(t, "standing again", p.tick(), p.toOthers(prepareOf(16, 0))...)
	wantMessages(t, "leading again", p.recv(p.from(2, promiseOf(16, 0))), p.toOthers(acceptOf(16, 0, "a", 0), acceptOf(16, 1, "b", 0))...)
	wantMessages(t, "an answer to the earlier one", p.recv(p.from(1, acceptedOf(8, 0))))
	wantMessages(t, "a tick", p.tick(), p.toOthers(beatOf(16, 0), acceptOf(16, 0, "a", 0), acceptOf(16, 1, "b", 0))...)
	p.check("leading again")
}

// P10.4
func TestPropose(t *testing.T) {
	p := begin(t, of(1, 3))
	wantRefused := func(name string, value string, e api.Errno) {
		t.Helper()
		slot, out, f := p.propose(value)
		if slot != 0 || len(out) > 0 || f != e {
			t.Errorf("%s: %d, %v, error %d, not %d", name, slot, out, int(f), int(e))
		}
		p.check(name)
	}
	wantRefused("a follower", "x", api.ErrLeader)
	wantRefused("a follower, too long", longest+"l", api.ErrLeader)
	p.stood()
	wantRefused("a candidate", "x", api.ErrLeader)
	p.recv(p.from(0, promiseOf(9, 0)))
	wantRefused("too long", longest+"l", api.ErrLong)
	for i, value := range []string{"a", "", longest, "a"} {
		slot, out, e := p.propose(value)
		if slot != i || e != api.OK {
			t.Errorf("Propose: %d, error %d", slot, int(e))
		}
		wantMessages(t, "Propose", out, p.toOthers(acceptOf(9, i, value, 0))...)
		ballot, got, ok := p.r.Store().Get(i)
		if ballot != 9 || string(got) != value || !ok {
			t.Errorf("it accepted %d, %.20q, %v", ballot, got, ok)
		}
		wantRefused("too long", longest+"l", api.ErrLong)
	}
	p.recv(p.from(2, acceptedOf(9, 0)))
	_, out, _ := p.propose("e")
	wantMessages(t, "with a prefix", out, p.toOthers(acceptOf(9, 4, "e", 1))...)
	p.recv(p.from(2, refuseOf(16)))
	wantRefused("a follower again", "x", api.ErrLeader)
}

// P10.4: nil is an empty value.
func TestProposeNil(t *testing.T) {
	p := begin(t, of(0, 1)).lead()
	slot, out, e := p.r.Propose(nil)
	if slot != 0 || len(out) > 0 || e != api.OK {
		t.Errorf("Propose(nil): %d, %v, error %d", slot, out, int(e))
	}
	wantChosen(t, "nil", p.r.Chosen(0), "")
}

// P10.4: up to the last near slot, and behind it; more come near with the base.
func TestProposeIsFull(t *testing.T) {
	for _, base := range []int{0, 5, maxSlot - 2000} {
		p := begin(t, of(0, 3))
		p.install(base)
		p.lead()
		wantFull := func(value string) {
			t.Helper()
			if slot, out, e := p.propose(value); slot != 0 || len(out) > 0 || e != api.ErrFull {
				t.Fatalf("behind the last one: %d, %v, error %d", slot, out, int(e))
			}
		}
		for i := range nearSlots {
			if slot, _, e := p.propose("x"); slot != base+i || e != api.OK {
				t.Fatalf("Propose: %d, error %d, not %d", slot, int(e), base+i)
			}
		}
		wantFull("y")
		wantFull(longest + "l")
		p.check("full")
		p.recv(p.from(1, acceptedOf(8, base)))
		p.recv(p.from(1, acceptedOf(8, base+1)))
		wantFull("y")
		p.trim(base + 2)
		for i := range 2 {
			if slot, _, e := p.propose("z"); slot != base+nearSlots+i || e != api.OK {
				t.Fatalf("behind Trim: %d, error %d", slot, int(e))
			}
		}
		wantFull("z")
		p.check("full again")
	}
}

// P10.4: a log without room refuses what is proposed, and nothing has changed.
func TestProposeOfFullLog(t *testing.T) {
	c := of(0, 3)
	c.Per = 1
	p := begin(t, c).lead()
	for i := range 255 {
		if slot, _, e := p.propose("x"); slot != i || e != api.OK {
			t.Fatalf("Propose: %d, error %d", slot, int(e))
		}
	}
	for range 2 {
		if slot, out, e := p.propose("y"); slot != 0 || len(out) > 0 || e != api.ErrFull {
			t.Errorf("a full log: %d, %v, error %d", slot, out, int(e))
		}
		p.check("a full log")
	}
	if slot, out, e := p.propose(longest + "l"); slot != 0 || len(out) > 0 || e != api.ErrLong {
		t.Errorf("a full log, too long: %d, %v, error %d", slot, out, int(e))
	}
	p.recv(p.from(1, acceptedOf(8, 0)))
	wantErr(t, "Trim", p.trim(1), api.ErrFull)
	wantErr(t, "Install", p.install(2), api.ErrFull)
	if p.r.Role() != api.RoLeader || p.r.Base() != 0 || p.r.Prefix() != 1 {
		t.Errorf("role %d, base %d, prefix %d", p.r.Role(), p.r.Base(), p.r.Prefix())
	}
	p.tick()
	p.check("a full log")
}

// P10.4: its next slot is the one behind what it proposed last, also where it knows later ones, or has forgotten that one.
func TestNextSlot(t *testing.T) {
	p := begin(t, of(0, 3)).lead().choose("a", "b")
	p.learn(2, "c", "d")
	if slot, _, e := p.propose("c"); slot != 2 || e != api.OK {
		t.Errorf("behind a Learn: %d, error %d", slot, int(e))
	}
	p.trim(3)
	if slot, _, e := p.propose("d"); slot != 3 || e != api.OK {
		t.Errorf("behind Trim: %d, error %d", slot, int(e))
	}
	p.learn(4, "e", "f")
	p.trim(5)
	if slot, out, e := p.propose("x"); slot != 0 || len(out) > 0 || e != api.ErrFull {
		t.Errorf("the next slot is below the base: %d, %v, error %d", slot, out, int(e))
	}
	p.check("the end")
}

// P10.5
func TestChosen(t *testing.T) {
	p := begin(t, of(0, 3)).lead().choose("a", "", "c", "d")
	p.learn(5, "f")
	for from, want := range map[int][]string{-1: nil, 0: {"a", "", "c", "d"}, 1: {"", "c", "d"}, 3: {"d"}, 4: nil, 5: nil, 6: nil} {
		wantChosen(t, fmt.Sprintf("Chosen(%d)", from), p.r.Chosen(from), want...)
	}
	p.trim(2)
	for from, want := range map[int][]string{-1: nil, 0: nil, 1: nil, 2: {"c", "d"}, 3: {"d"}, 4: nil, 5: nil} {
		wantChosen(t, fmt.Sprintf("behind Trim: Chosen(%d)", from), p.r.Chosen(from), want...)
	}
	p.learn(4, "e")
	wantChosen(t, "the gap is filled", p.r.Chosen(2), "c", "d", "e", "f")
	for _, from := range farOff {
		wantChosen(t, fmt.Sprintf("Chosen(%d)", from), p.r.Chosen(from))
	}
	if p.r.Prefix() != 6 || p.r.Base() != 2 {
		t.Errorf("prefix %d, base %d", p.r.Prefix(), p.r.Base())
	}
}

// P10.5: Store is a copy that goes its own way.
func TestStoreIsCopy(t *testing.T) {
	p := begin(t, of(0, 3)).lead().choose("a", "b")
	st := p.r.Store()
	text := storeText(st)
	wantErr(t, "Accept", st.Accept(0, 100, []byte("other")), api.OK)
	wantErr(t, "Forget", st.Forget(2), api.OK)
	wantErr(t, "Crash", st.Crash(0, 0), api.OK)
	p.check("the copy has changed")
	if got := storeText(p.r.Store()); got != text {
		t.Errorf("the store has %s, not %s", got, text)
	}
	st = p.r.Store()
	text = storeText(st)
	p.choose("c")
	p.trim(2)
	p.crash(0, 0)
	if got := storeText(st); got != text {
		t.Errorf("the copy has %s, not %s", got, text)
	}
	if st = p.r.Store(); st == nil || !st.Down() {
		t.Errorf("the store of one that is down: %v", st)
	}
	wantErr(t, "Restart of the copy", st.Restart(), api.OK)
	p.check("still down").restart()
	wantMessages(t, "it has what it had", p.recv(p.from(1, prepareOf(20, 2))), p.s.to(1, api.Msg{Kind: api.MsPromise, Ballot: 20, Slot: 2, N: 2, Votes: []api.Vote{vote(2, 8, "c")}})...)
}

// P10.6
func TestTrim(t *testing.T) {
	p := begin(t, of(0, 3))
	wantErr(t, "Trim(0) of a new one", p.trim(0), api.OK)
	wantErr(t, "Trim(1) of a new one", p.trim(1), api.ErrArg)
	p.lead().choose("a", "b", "c", "d")
	p.propose("e")
	p.learn(6, "g")
	records := p.r.Store().Log().Len()
	for _, n := range append([]int{5, 6, 7, maxSlot, maxNumber + 1}, farOff...) {
		if n > 0 {
			wantErr(t, fmt.Sprintf("Trim(%d)", n), p.trim(n), api.ErrArg)
		} else {
			wantErr(t, fmt.Sprintf("Trim(%d)", n), p.trim(n), api.OK)
		}
	}
	wantErr(t, "Trim(0)", p.trim(0), api.OK)
	wantErr(t, "Trim(-1)", p.trim(-1), api.OK)
	if p.r.Base() != 0 || p.r.Store().Log().Len() != records {
		t.Errorf("base %d, %d records, not %d", p.r.Base(), p.r.Store().Log().Len(), records)
	}
	wantErr(t, "Trim(2)", p.trim(2), api.OK)
	wantErr(t, "Trim of the base", p.trim(2), api.OK)
	wantErr(t, "Trim below the base", p.trim(1), api.OK)
	if p.r.Base() != 2 || p.r.Prefix() != 4 || p.r.Role() != api.RoLeader || p.r.Store().Base() != 2 || p.r.Store().Log().Len() != records+1 {
		t.Errorf("base %d, prefix %d, role %d", p.r.Base(), p.r.Prefix(), p.r.Role())
	}
	wantChosen(t, "trimmed", p.r.Chosen(2), "c", "d")
	wantErr(t, "Trim of the prefix", p.trim(4), api.OK)
	wantErr(t, "Trim above the prefix", p.trim(5), api.ErrArg)
	p.crash(0, 0).restart()
	if p.r.Base() != 4 || p.r.Prefix() != 4 {
		t.Errorf("restarted: base %d, prefix %d", p.r.Base(), p.r.Prefix())
	}
}

// P10.6: what was proposed below is forgotten; what is above stays.
func TestTrimForgetsProposals(t *testing.T) {
	p := begin(t, of(0, 3)).lead()
	for _, value := range []string{"a", "b", "c", "d"} {
		p.propose(value)
	}
	p.learn(0, "a", "b", "c")
	p.trim(2)
	for slot := range 3 {
		wantMessages(t, "an Accepted of what is chosen", p.recv(p.from(1, acceptedOf(8, slot))))
	}
	wantMessages(t, "a tick", p.tick(), p.toOthers(beatOf(8, 3), acceptOf(8, 3, "d", 3))...)
	wantMessages(t, "an Accepted", p.recv(p.from(2, acceptedOf(8, 3))), p.toOthers(learnOf(8, 3, vote(3, 8, "d")))...)
	wantChosen(t, "all", p.r.Chosen(2), "c", "d")
}

// P10.6
func TestInstall(t *testing.T) {
	p := begin(t, of(0, 3)).lead().choose("a", "b", "c")
	p.trim(1)
	p.propose("d")
	p.learn(4, "e").learn(6, "g").learn(8, "i")
	records := p.r.Store().Log().Len()
	for _, n := range append([]int{-1, 0, 1, 2, 3}, farOff...) {
		if n > 3 {
			wantErr(t, fmt.Sprintf("Install(%d)", n), p.install(n), api.ErrArg)
		} else {
			wantErr(t, fmt.Sprintf("Install(%d)", n), p.install(n), api.OK)
		}
	}
	wantErr(t, "Install(MaxSlot + 1)", p.install(maxSlot+1), api.ErrArg)
	if p.r.Role() != api.RoLeader || p.r.Base() != 1 || p.r.Store().Log().Len() != records {
		t.Errorf("nothing is to be done: role %d, base %d", p.r.Role(), p.r.Base())
	}
	wantErr(t, "Install(6)", p.install(6), api.OK)
	if p.r.Role() != api.RoFollower || p.r.Base() != 6 || p.r.Prefix() != 7 || p.r.Ballot() != 8 {
		t.Errorf("role %d, base %d, prefix %d, ballot %d", p.r.Role(), p.r.Base(), p.r.Prefix(), p.r.Ballot())
	}
	wantChosen(t, "installed", p.r.Chosen(6), "g")
	p.learn(7, "h")
	wantChosen(t, "known above", p.r.Chosen(6), "g", "h", "i")
	wantMessages(t, "an Accepted", p.recv(p.from(1, acceptedOf(8, 3))))
	p.crash(0, 0).restart()
	if p.r.Base() != 6 || p.r.Prefix() != 6 {
		t.Errorf("restarted: base %d, prefix %d", p.r.Base(), p.r.Prefix())
	}
}

// P10.6: one above the prefix, and the greatest.
func TestInstallAtEnds(t *testing.T) {
	p := begin(t, of(0, 3))
	wantErr(t, "Install(1)", p.install(1), api.OK)
	wantErr(t, "Install(MaxSlot)", p.install(maxSlot), api.OK)
	wantErr(t, "Install(MaxSlot) again", p.install(maxSlot), api.OK)
	if p.r.Base() != maxSlot || p.r.Prefix() != maxSlot {
		t.Errorf("base %d, prefix %d", p.r.Base(), p.r.Prefix())
	}
	p.learn(maxSlot, "a", "b")
	wantChosen(t, "the last slots", p.r.Chosen(maxSlot), "a", "b")
	wantErr(t, "Trim", p.trim(maxSlot+2), api.OK)
	wantErr(t, "Install(MaxSlot)", p.install(maxSlot), api.OK)
	wantErr(t, "Install above", p.install(maxSlot+3), api.ErrArg)
}

// P10.6: it has waited 0, whatever it was; a candidate does not lead any more.
func TestInstallBeginsWait(t *testing.T) {
	p := begin(t, api.PaxosConf{Id: 0, Nodes: 3, Timeout: 3, Per: 8})
	for range 3 {
		p.tick()
	}
	p.install(4)
	wantMessages(t, "standing", p.stood(), p.toOthers(prepareOf(8, 4))...)
	p.tick()
	p.install(5)
	if p.r.Role() != api.RoFollower {
		t.Errorf("role %d", p.r.Role())
	}
	wantMessages(t, "a promise too late", p.recv(p.from(1, promiseOf(8, 4, vote(4, 3, "x")))))
	wantMessages(t, "standing again", p.stood(), p.toOthers(prepareOf(16, 5))...)
	p.recv(p.from(1, promiseOf(16, 5)))
	if p.r.Role() != api.RoLeader {
		t.Errorf("role %d", p.r.Role())
	}
	p.install(9)
	if p.r.Role() != api.RoFollower || p.r.Leader() != 0 {
		t.Errorf("role %d, leader %d", p.r.Role(), p.r.Leader())
	}
	wantMessages(t, "standing once more", p.stood(), p.toOthers(prepareOf(24, 9))...)
}

// P10.7, rule 1: of nil, and of what New did not make.
func TestNoReplica(t *testing.T) {
	for name, r := range map[string]*paxos.Replica{"nil": nil, "a plain one": {}} {
		for range 2 {
			wantMessages(t, name, r.Tick())
			for kind := range 11 {
				wantMessages(t, name, r.Recv(api.Msg{Kind: kind, From: 1, Ballot: 8, Votes: []api.Vote{{}}}))
			}
			slot, out, e := r.Propose([]byte("x"))
			if slot != 0 || len(out) > 0 || e != api.ErrNil {
				t.Errorf("%s: Propose: %d, %v, error %d", name, slot, out, int(e))
			}
			wantChosen(t, name, r.Chosen(0))
			wantErr(t, name+": Trim", r.Trim(0), api.ErrNil)
			wantErr(t, name+": Trim", r.Trim(-1), api.ErrNil)
			wantErr(t, name+": Install", r.Install(0), api.ErrNil)
			wantErr(t, name+": Install", r.Install(maxSlot+1), api.ErrNil)
			wantErr(t, name+": Restart", r.Restart(), api.ErrNil)
			wantErr(t, name+": Crash", r.Crash(0, 0), api.ErrNil)
			wantErr(t, name+": Crash", r.Crash(-1, 0), api.ErrNil)
			if r.Prefix() != 0 || r.Base() != 0 || r.Role() != 0 || r.Ballot() != 0 || r.Leader() != -1 || r.Store() != nil || !r.Down() {
				t.Errorf("%s: prefix %d, base %d, role %d, ballot %d, leader %d, store %v, down %v", name, r.Prefix(), r.Base(), r.Role(), r.Ballot(), r.Leader(), r.Store(), r.Down())
			}
		}
	}
}

// P10.7, P10.3, P10.5: one that is down.
func TestDown(t *testing.T) {
	p := begin(t, of(0, 3)).lead().choose("a", "b", "c")
	p.trim(1)
	p.propose("d")
	p.crash(0, 0)
	for range 5 {
		wantMessages(t, "Tick", p.tick())
	}
	for kind := range 11 {
		wantMessages(t, "Recv", p.recv(p.from(1, api.Msg{Kind: kind, Ballot: 100, Slot: 3, N: 9, Votes: []api.Vote{vote(3, 8, "x")}})))
	}
	for _, value := range []string{"x", longest + "l"} {
		if slot, out, e := p.propose(value); slot != 0 || len(out) > 0 || e != api.ErrDown {
			t.Errorf("Propose: %d, %v, error %d", slot, out, int(e))
		}
	}
	for _, n := range append([]int{-1, 0, 1, 2, 3, 5, maxSlot + 1}, farOff...) {
		wantErr(t, "Trim", p.trim(n), api.ErrDown)
		wantErr(t, "Install", p.install(n), api.ErrDown)
		wantChosen(t, "Chosen", p.r.Chosen(n))
	}
	wantErr(t, "Crash", p.r.Crash(0, 0), api.ErrDown)
	wantErr(t, "Crash", p.r.Crash(-1, 0), api.ErrDown)
	if p.r.Prefix() != 0 || p.r.Base() != 0 || p.r.Role() != 0 || p.r.Ballot() != 0 || p.r.Leader() != -1 || !p.r.Down() {
		t.Errorf("prefix %d, base %d, role %d, ballot %d, leader %d, down %v", p.r.Prefix(), p.r.Base(), p.r.Role(), p.r.Ballot(), p.r.Leader(), p.r.Down())
	}
	p.check("down").restart()
	if p.r.Prefix() != 1 || p.r.Base() != 1 || p.r.Role() != 0 || p.r.Ballot() != 0 || p.r.Leader() != -1 || p.r.Down() {
		t.Errorf("restarted: prefix %d, base %d, role %d, ballot %d, leader %d, down %v", p.r.Prefix(), p.r.Base(), p.r.Role(), p.r.Ballot(), p.r.Leader(), p.r.Down())
	}
}

// P10.7: the errors of Crash and Restart; what is refused has changed nothing.
func TestCrashAndRestart(t *testing.T) {
	p := begin(t, of(0, 3)).lead().choose("a")
	wantErr(t, "Restart of one that is up", p.r.Restart(), api.ErrState)
	p.check("still up")
	for _, keep := range farOff {
		if keep < 0 {
			wantErr(t, "Crash", p.r.Crash(keep, 0), api.ErrArg)
			p.check("still up")
		}
	}
	wantErr(t, "Crash(-1, 0)", p.r.Crash(-1, 0), api.ErrArg)
	p.check("still up").choose("b")
	for _, keep := range []int{0, 1, 100, 1 << 62} {
		for _, flip := range append([]int{-1, 0, 1, 7}, farOff...) {
			p.crash(keep, flip)
			wantErr(t, "Crash of one that is down", p.r.Crash(keep, flip), api.ErrDown)
			p.restart()
			wantErr(t, "Restart of one that is up", p.r.Restart(), api.ErrState)
		}
	}
	if p.r.Store().Promised() != 8 || p.r.Store().Slots() != 2 {
		t.Errorf("promise %d, %d slots", p.r.Store().Promised(), p.r.Store().Slots())
	}
}

// P10.7: behind a restart it is as a new one over what its store has: what it was, waited and knew is gone.
func TestRestartIsAnew(t *testing.T) {
	for name, f := range map[string]func(p pair){
		"a follower":  func(p pair) { p.recv(p.from(2, acceptOf(10, 0, "x", 0))); p.tick(); p.tick() },
		"a candidate": func(p pair) { p.stood(); p.tick() },
		"a leader":    func(p pair) { p.lead().choose("a", "b", "c"); p.propose("d") },
		"trimmed":     func(p pair) { p.lead().choose("a", "b", "c"); p.trim(2) },
		"installed":   func(p pair) { p.install(7); p.learn(7, "x") },
		"one that learned": func(p pair) {
			p.learn(0, "a", "b")
			p.recv(p.from(2, beatOf(10, 2)))
		},
	} {
		t.Run(name, func(t *testing.T) {
			p := begin(t, api.PaxosConf{Id: 1, Nodes: 3, Timeout: 3, Per: 2})
			f(p)
			base, promise := p.r.Base(), p.r.Store().Promised()
			text := storeText(p.r.Store())
			p.crash(3, 5).restart()
			if p.r.Role() != 0 || p.r.Ballot() != 0 || p.r.Leader() != -1 || p.r.Prefix() != base || p.r.Base() != base {
				t.Errorf("role %d, ballot %d, leader %d, prefix %d, base %d", p.r.Role(), p.r.Ballot(), p.r.Leader(), p.r.Prefix(), p.r.Base())
			}
			if got := storeText(p.r.Store()); got != text {
				t.Errorf("the store has %s, not %s", got, text)
			}
			wantMessages(t, "a late Accepted", p.recv(p.from(0, acceptedOf(promise, base))))
			wantMessages(t, "a late Promise", p.recv(p.from(0, promiseOf(promise, base))))
			wantMessages(t, "it waits from 0 on", p.stood(), p.toOthers(prepareOf(promise/8*8+9, base))...)
		})
	}
}
