package paxos_test

import (
	"fmt"
	"math/rand/v2"
	"slices"
	"testing"

	"raceway/api"
	"raceway/paxos"
)

// pick gives one of some.
func pick[T any](rng *rand.Rand, l ...T) T { return l[rng.IntN(len(l))] }

// someSlot gives a slot at which something may change.
func (p pair) someSlot(rng *rand.Rand) int {
	base, prefix := p.s.st.Base(), p.s.prefix()
	return pick(rng, base, prefix, p.s.asked, p.s.next) + pick(rng, -1, 0, 0, 0, 1, 2, rng.IntN(6))
}

// someBallot gives a ballot at which something may change.
func (p pair) someBallot(rng *rand.Rand) int {
	return pick(rng, p.s.ballot, p.s.ballot, p.s.st.Promised(), 0) + pick(rng, -1, 0, 0, 0, 0, 1, rng.IntN(10))
}

func (p pair) someVotes(rng *rand.Rand) []api.Vote {
	var l []api.Vote
	for range rng.IntN(5) {
		l = append(l, vote(p.someSlot(rng), p.someBallot(rng), fmt.Sprint(rng.IntN(50))))
	}
	if rng.IntN(10) == 0 {
		l = append(l, vote(pick(rng, -1, max(p.s.asked, p.s.st.Base())+nearSlots, maxSlot), 3, "far"))
	}
	return l
}

// someMessage gives a message of which most are such as a replica may get, and some are not.
func (p pair) someMessage(rng *rand.Rand) api.Msg {
	m := api.Msg{
		Kind: 1 + rng.IntN(9), From: rng.IntN(p.s.nodes), To: p.s.id,
		Ballot: p.someBallot(rng), Slot: p.someSlot(rng), N: p.s.prefix() + pick(rng, -1, 0, 1, 3),
	}
	switch m.Kind {
	case api.MsPromise:
		m.Ballot, m.Slot = pick(rng, p.s.ballot, p.s.ballot, m.Ballot), pick(rng, p.s.asked, p.s.asked, m.Slot)
	case api.MsAccepted:
		m.Ballot = pick(rng, p.s.ballot, p.s.ballot, m.Ballot)
	case api.MsPrepare, api.MsAccept, api.MsBeat:
		if p.s.role != api.RoFollower && rng.IntN(3) > 0 {
			m.Ballot = max(0, p.s.ballot-rng.IntN(3))
		}
	case api.MsRefuse:
		if rng.IntN(3) > 0 {
			m.Ballot = p.s.ballot
		}
	}
	if m.Kind == api.MsAccept {
		m.Value = []byte(fmt.Sprint(rng.IntN(50)))
	}
	m.Votes = p.someVotes(rng)
	if rng.IntN(40) == 0 {
		m.To = rng.IntN(6) - 1
	}
	if rng.IntN(40) == 0 {
		m.From = rng.IntN(8) - 1
	}
	if rng.IntN(60) == 0 {
		m.Kind = pick(rng, 0, 10, -3)
	}
	return m
}

// someCall does something to both.
func (p pair) someCall(rng *rand.Rand) {
	switch n := rng.IntN(100); {
	case n < 25:
		p.tick()
	case n < 75:
		p.recv(p.someMessage(rng))
	case n < 88:
		p.propose(fmt.Sprint(rng.IntN(50)))
	case n < 93:
		p.trim(p.s.prefix() - rng.IntN(4) + rng.IntN(2))
	case n < 95:
		p.install(p.s.prefix() + rng.IntN(4) - 1)
	case n < 97 || p.s.st.Down():
		p.restartSome()
	default:
		p.crash(rng.IntN(30), rng.IntN(60)-5)
	}
}

func (p pair) restartSome() {
	p.t.Helper()
	wantErr(p.t, "Restart", p.r.Restart(), p.s.restart())
}

// P10.2 to P10.7: whatever is called, the replica does what the document says.
func TestSomeCalls(t *testing.T) {
	roles := map[int]int{}
	for seed := range 1500 {
		rng := rand.New(rand.NewPCG(uint64(seed), 10))
		nodes := 1 + rng.IntN(5)
		p := begin(t, api.PaxosConf{Id: rng.IntN(nodes), Nodes: nodes, Timeout: 1 + rng.IntN(3), Per: pick(rng, 1, 2, 7, 1024)})
		for range 50 + rng.IntN(350) {
			p.someCall(rng)
			roles[p.r.Role()]++
			if rng.IntN(20) == 0 {
				p.check("some call")
			}
			if t.Failed() {
				t.Fatalf("seed %d", seed)
			}
		}
		p.check("all calls")
	}
	for role := range 3 {
		if roles[role] < 1000 {
			t.Errorf("role %d was there %d times", role, roles[role])
		}
	}
}

// told is what a replica told others that it has.
type told struct {
	promise int
	votes   map[int]int // ballots by slots
}

// group is replicas, and messages between them that are under way.
type group struct {
	t        *testing.T
	rng      *rand.Rand
	rs       []*paxos.Replica
	bag      []api.Msg
	told     []told
	prefix   []int
	proposed map[string]bool
	asked    map[[2]int]string // what was proposed under a ballot in a slot
	chosen   map[int]string    // what anybody ever knew
}

func newGroup(t *testing.T, rng *rand.Rand, nodes, timeout, per int) *group {
	g := &group{t: t, rng: rng, proposed: map[string]bool{"": true}, asked: map[[2]int]string{}, chosen: map[int]string{}, prefix: make([]int, nodes)}
	for id := range nodes {
		r, e := paxos.New(api.PaxosConf{Id: id, Nodes: nodes, Timeout: timeout, Per: per})
		if e != api.OK {
			t.Fatalf("New: error %d", int(e))
		}
		g.rs = append(g.rs, r)
		g.told = append(g.told, told{votes: map[int]int{}})
	}
	return g
}

// send notes what messages told, and puts them into the bag.
func (g *group) send(id int, l []api.Msg) {
	g.t.Helper()
	for _, m := range l {
		if m.From != id {
			g.t.Errorf("replica %d tells: %s", id, message(m))
		}
		own := &g.told[id]
		switch m.Kind {
		case api.MsPrepare, api.MsPromise:
			own.promise = max(own.promise, m.Ballot)
		case api.MsAccept:
			g.noteAccept(m)
			fallthrough
		case api.MsAccepted:
			own.promise = max(own.promise, m.Ballot)
			own.votes[m.Slot] = max(own.votes[m.Slot], m.Ballot)
		}
	}
	g.bag = append(g.bag, l...)
	g.checkChosen(id)
}

// noteAccept checks that under one ballot a slot has one value.
func (g *group) noteAccept(m api.Msg) {
	g.t.Helper()
	key := [2]int{m.Ballot, m.Slot}
	if value, has := g.asked[key]; has && value != string(m.Value) {
		g.t.Errorf("ballot %d, slot %d: %q and %q", m.Ballot, m.Slot, value, m.Value)
	}
	g.asked[key] = string(m.Value)
}

// checkChosen holds what a replica knows against what anybody ever knew.
func (g *group) checkChosen(id int) {
	g.t.Helper()
	r := g.rs[id]
	if r.Down() {
		return
	}
	if r.Prefix() < g.prefix[id] {
		g.t.Errorf("replica %d: the prefix falls from %d to %d", id, g.prefix[id], r.Prefix())
	}
	g.prefix[id] = r.Prefix()
	l := r.Chosen(r.Base())
	if len(l) != r.Prefix()-r.Base() {
		g.t.Errorf("replica %d: base %d, prefix %d, %d values", id, r.Base(), r.Prefix(), len(l))
	}
	for i, value := range l {
		slot := r.Base() + i
		if old, has := g.chosen[slot]; has && old != string(value) {
			g.t.Errorf("slot %d: replica %d knows %.20q, and somebody knew %.20q", slot, id, value, old)
		}
		g.chosen[slot] = string(value)
		if !g.proposed[string(value)] {
			g.t.Errorf("slot %d: %.20q was never proposed", slot, value)
		}
	}
}

// checkTold checks that a replica that came back has what it told.
func (g *group) checkTold(id int) {
	g.t.Helper()
	st := g.rs[id].Store()
	if st.Promised() < g.told[id].promise {
		g.t.Errorf("replica %d promised %d, and has %d", id, g.told[id].promise, st.Promised())
	}
	for slot, b := range g.told[id].votes {
		if ballot, _, ok := st.Get(slot); slot >= st.Base() && (!ok || ballot < b) {
			g.t.Errorf("replica %d accepted slot %d under %d, and has %d, %v", id, slot, b, ballot, ok)
		}
	}
}

// deliver delivers the message at a place of the bag; it is doubled, if it stays there.
func (g *group) deliver(at int, stays bool) {
	g.t.Helper()
	m := g.bag[at]
	if !stays {
		g.bag = slices.Delete(g.bag, at, at+1)
	}
	r := g.rs[m.To]
	// As the layers above do: who is behind takes what another one has applied.
	if other := g.rs[m.From]; m.Kind == api.MsBehind && m.Slot > r.Prefix() && !r.Down() && !other.Down() {
		wantErr(g.t, "Install", r.Install(other.Prefix()-g.rng.IntN(other.Prefix()-other.Base()+1)), api.OK)
	}
	g.send(m.To, r.Recv(m))
}

func (g *group) propose(id int) api.Errno {
	g.t.Helper()
	value := fmt.Sprintf("value %d", len(g.proposed))
	g.proposed[value] = true
	slot, out, e := g.rs[id].Propose([]byte(value))
	if e == api.OK && g.rs[id].Role() != api.RoLeader {
		g.t.Errorf("slot %d of one that does not lead", slot)
	}
	g.send(id, out)
	return e
}

func (g *group) crash(id int) {
	g.t.Helper()
	wantErr(g.t, "Crash", g.rs[id].Crash(g.rng.IntN(40), g.rng.IntN(80)-2), api.OK)
}

func (g *group) restart(id int) {
	g.t.Helper()
	wantErr(g.t, "Restart", g.rs[id].Restart(), api.OK)
	g.prefix[id] = 0
	g.checkTold(id)
	g.send(id, nil)
}

// odds says how often what happens, in a thousand.
type odds struct{ lose, double, crash, trim, tick int }

// step lets something happen.
func (g *group) step(o odds) {
	g.t.Helper()
	id := g.rng.IntN(len(g.rs))
	r := g.rs[id]
	switch n := g.rng.IntN(1000); {
	case n < o.crash && !r.Down():
		g.crash(id)
	case n < 4*o.crash && r.Down():
		g.restart(id)
	case n < 4*o.crash+o.trim:
		r.Trim(r.Prefix() - g.rng.IntN(3))
		g.send(id, nil)
	case n < 4*o.crash+o.trim+o.tick:
		g.send(id, r.Tick())
	case n < 4*o.crash+o.trim+o.tick+100:
		g.propose(id)
	case len(g.bag) > 0:
		at := g.rng.IntN(len(g.bag))
		if g.rng.IntN(1000) < o.lose {
			g.bag = slices.Delete(g.bag, at, at+1)
			return
		}
		g.deliver(at, g.rng.IntN(1000) < o.double)
	}
}

// heal brings all back, and delivers all in order: whether something new is then known to all within so many rounds.
func (g *group) heal(rounds int) bool {
	g.t.Helper()
	for id, r := range g.rs {
		if r.Down() {
			g.restart(id)
		}
	}
	goal := len(g.chosen) + 1
	for range rounds {
		for id := range g.rs {
			g.send(id, g.rs[id].Tick())
			for n := 0; len(g.bag) > 0 && n < 5000; n++ {
				g.deliver(0, false)
			}
		}
		known := true
		for _, r := range g.rs {
			known = known && r.Prefix() >= goal
		}
		if known {
			return true
		}
		for id, r := range g.rs {
			// One whose base has passed what it asked from leads, and can propose nothing.
			if r.Role() == api.RoLeader && g.propose(id) == api.ErrFull {
				g.crash(id)
				g.restart(id)
			}
		}
	}
	return false
}

// P10.8: whatever is delivered, lost, doubled, delayed, and whoever crashes when.
func TestReplicasAgree(t *testing.T) {
	healed, slots, most := 0, 0, 0
	const runs = 700
	for seed := range runs {
		rng := rand.New(rand.NewPCG(uint64(seed), 8))
		o := odds{lose: rng.IntN(300), double: rng.IntN(300), crash: pick(rng, 0, 3, 15), trim: pick(rng, 0, 0, 20, 60), tick: 40 + rng.IntN(250)}
		nodes := pick(rng, 1, 2, 3, 3, 3, 4, 5, 5)
		g := newGroup(t, rng, nodes, 1+rng.IntN(8), pick(rng, 64, 1024))
		for range 200 + rng.IntN(1200) {
			g.step(o)
			if t.Failed() {
				t.Fatalf("seed %d", seed)
			}
		}
		slots += len(g.chosen)
		most = max(most, len(g.chosen))
		if g.heal(60) {
			healed++
		}
		if t.Failed() {
			t.Fatalf("seed %d, healing", seed)
		}
	}
	t.Logf("%d of %d runs went on behind all that happened; %d slots were chosen, %d at most in one run", healed, runs, slots, most)
	if healed < runs || slots < 10*runs {
		t.Errorf("%d of %d runs went on behind all that happened; %d slots were chosen", healed, runs, slots)
	}
}

// P10.8, P10.1: a log that becomes full, soon and at unlike times, stops replicas, but lets none of them differ.
func TestReplicasWithFullLogsAgree(t *testing.T) {
	for seed := range 60 {
		rng := rand.New(rand.NewPCG(uint64(seed), 9))
		g := newGroup(t, rng, 3, 1+rng.IntN(4), 1)
		for range 3000 {
			g.step(odds{lose: 50, double: 50, crash: 5, trim: 10, tick: 100})
			if t.Failed() {
				t.Fatalf("seed %d", seed)
			}
		}
	}
}

// play delivers messages, and what comes of them, in order, but to and from whoever is cut off.
func (g *group) play(cutOff int, id int, l []api.Msg) {
	g.t.Helper()
	g.send(id, l)
	for len(g.bag) > 0 {
		m := g.bag[0]
		g.bag = g.bag[1:]
		if m.To != cutOff && m.From != cutOff {
			g.send(m.To, g.rs[m.To].Recv(m))
		}
	}
}

// elect lets a replica tick until it leads.
func (g *group) elect(cutOff, id int) {
	g.t.Helper()
	for range 20 {
		if g.rs[id].Role() == api.RoLeader {
			return
		}
		g.play(cutOff, id, g.rs[id].Tick())
	}
	g.t.Fatalf("replica %d does not lead", id)
}

// proposeValue lets a replica propose, and plays what comes of it: its slot and error.
func (g *group) proposeValue(cutOff, id int, value string) (int, api.Errno) {
	g.t.Helper()
	g.proposed[value] = true
	slot, out, e := g.rs[id].Propose([]byte(value))
	g.play(cutOff, id, out)
	return slot, e
}

// Ordinary runs of three and five: a leader is elected, values are proposed, accepted and learned; who was cut off asks for them.
func TestElectProposeLearnAsk(t *testing.T) {
	for _, nodes := range []int{3, 5} {
		g := newGroup(t, nil, nodes, 2, 8)
		g.elect(nobody, 0)
		late := nodes - 1
		for i, value := range values(20) {
			if slot, e := g.proposeValue(late, 0, value); slot != i || e != api.OK {
				t.Fatalf("Propose: %d, error %d", slot, int(e))
			}
		}
		for id, r := range g.rs {
			if id == late {
				wantChosen(t, "cut off", r.Chosen(0))
			} else {
				wantChosen(t, "learned", r.Chosen(0), values(20)...)
			}
		}
		g.play(nobody, 0, g.rs[0].Tick())
		wantChosen(t, "asked once", g.rs[late].Chosen(0), values(16)...)
		g.play(nobody, 0, g.rs[0].Tick())
		wantChosen(t, "asked twice", g.rs[late].Chosen(0), values(20)...)
		for id, r := range g.rs {
			if r.Leader() != 0 || (r.Role() == api.RoLeader) != (id == 0) {
				t.Errorf("replica %d: role %d, leader %d", id, r.Role(), r.Leader())
			}
		}
	}
}

// A leader that another one follows: what it left unchosen is proposed again, with an empty value in a gap.
func TestAnotherLeaderFollows(t *testing.T) {
	g := newGroup(t, nil, 3, 1, 8)
	g.elect(nobody, 0)
	g.proposeValue(nobody, 0, "a")
	for _, value := range []string{"b", "c", "d"} {
		g.proposed[value] = true
		_, out, _ := g.rs[0].Propose([]byte(value))
		g.send(0, nil)
		if value == "d" {
			// Only the last one comes to replica 1, and its answer is lost.
			g.rs[1].Recv(out[0])
		}
	}
	wantErr(t, "Crash", g.rs[0].Crash(0, 0), api.OK)
	g.elect(0, 1)
	if g.rs[1].Prefix() != 4 {
		t.Errorf("prefix %d", g.rs[1].Prefix())
	}
	if slot, e := g.proposeValue(0, 1, "e"); slot != 4 || e != api.OK {
		t.Errorf("Propose: %d, error %d", slot, int(e))
	}
	g.restart(0)
	g.play(nobody, 1, g.rs[1].Tick())
	for id, r := range g.rs {
		wantChosen(t, fmt.Sprintf("replica %d", id), r.Chosen(0), "a", "", "", "d", "e")
	}
}

// P10.8: votes that are not near yet, as a replica that has forgotten more told them, bind who leads as soon as they are near.
func TestVotesThatComeNear(t *testing.T) {
	g := newGroup(t, nil, 3, 1, 1024)
	g.elect(nobody, 0)
	for _, value := range values(10) {
		g.proposeValue(nobody, 0, value)
	}
	g.play(nobody, 0, g.rs[0].Tick())
	for id := range 2 {
		wantErr(t, "Trim", g.rs[id].Trim(10), api.OK)
	}
	for i := range nearSlots {
		if slot, e := g.proposeValue(2, 0, fmt.Sprintf("old %d", 10+i)); slot != 10+i || e != api.OK {
			t.Fatalf("Propose: %d, error %d", slot, int(e))
		}
	}
	end := 10 + nearSlots
	if a, b, c := g.rs[0].Prefix(), g.rs[1].Prefix(), g.rs[2].Prefix(); a != end || b != end || c != 10 {
		t.Fatalf("prefixes %d, %d, %d", a, b, c)
	}
	g.elect(0, 2)
	if n := g.rs[2].Prefix(); n != nearSlots {
		t.Fatalf("the new leader knows %d slots", n)
	}
	if slot, e := g.proposeValue(0, 2, "new"); slot != 0 || e != api.ErrFull {
		t.Errorf("not near: %d, error %d", slot, int(e))
	}
	for _, r := range g.rs {
		wantErr(t, "Trim", r.Trim(nearSlots), api.OK)
	}
	slot, e := g.proposeValue(0, 2, "new")
	for n := 0; e != api.OK && n < 5; n++ {
		g.play(0, 2, g.rs[2].Tick())
		slot, e = g.proposeValue(0, 2, "new")
	}
	if slot != end || e != api.OK {
		t.Errorf("behind all votes: %d, error %d, not %d", slot, int(e), end)
	}
	g.play(nobody, 2, g.rs[2].Tick())
	for id, r := range g.rs {
		wantChosen(t, fmt.Sprintf("replica %d", id), r.Chosen(end-1), fmt.Sprintf("old %d", end-1), "new")
	}
}

// P10.8: a leader whose disk has no room for a long value that may be chosen proposes no short one in its place.
func TestLongVotesOfFullDisk(t *testing.T) {
	g := newGroup(t, nil, 3, 1, 1024)
	g.elect(nobody, 0)
	const slots = 100
	for i := range slots {
		value := fmt.Sprintf("%d%s", i, longest[:maxValue-8])
		g.proposed[value] = true
		_, out, _ := g.rs[0].Propose([]byte(value))
		for _, m := range out {
			if m.To == 1 {
				g.send(0, g.rs[0].Recv(g.rs[1].Recv(m)[0]))
			}
		}
	}
	g.bag = nil
	if a, b := g.rs[0].Prefix(), g.rs[1].Prefix(); a != slots || b != 0 {
		t.Fatalf("prefixes %d, %d", a, b)
	}
	g.elect(0, 1)
	refused := g.rs[1].Prefix()
	if refused == 0 || refused == slots {
		t.Fatalf("the new leader proposed %d slots anew", refused)
	}
	for range 3 {
		if slot, e := g.proposeValue(0, 1, "short"); slot != 0 || e != api.ErrFull {
			t.Errorf("Propose: %d, error %d", slot, int(e))
		}
		g.play(0, 1, g.rs[1].Tick())
	}
	g.play(nobody, 0, nil)
	if n := g.rs[1].Prefix(); n != refused {
		t.Errorf("prefix %d, not %d", n, refused)
	}
}
