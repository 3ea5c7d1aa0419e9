package front_test

import (
	"fmt"
	"testing"

	"raceway/api"
	"raceway/front"
)

// edge is a number, and whether it is taken.
type edge struct {
	n  int
	ok bool
}

// edges are those of a number from lo to hi, and some far beyond.
func edges(lo, hi int) []edge {
	return []edge{{minInt, false}, {-lo - 1, false}, {lo - 1, false}, {lo, true}, {(lo + hi) / 2, true}, {hi, true}, {hi + 1, false}, {1 << 62, false}, {maxInt, false}}
}

// P18.1: what NewAsker and New take, and what they make.
func TestNew(t *testing.T) {
	for _, id := range edges(1, maxTime) {
		for _, nodes := range edges(1, maxNodes) {
			for _, retry := range edges(1, maxRetry) {
				should := api.ErrArg
				if id.ok && nodes.ok && retry.ok {
					should = api.OK
				}
				name := fmt.Sprint("of ", id.n, ", ", nodes.n, ", ", retry.n)
				a, e := front.NewAsker(id.n, nodes.n, retry.n)
				wantError(t, "NewAsker "+name, e, should)
				c, e := front.New(id.n, nodes.n, retry.n)
				wantError(t, "New "+name, e, should)
				if (a != nil) != (should == api.OK) || (c != nil) != (should == api.OK) {
					t.Errorf("%s: an asker %v, a client %v", name, a != nil, c != nil)
				}
			}
		}
	}
}

// P18.1: at first it asks nothing, its number is 0, and it holds node 0 to lead each group.
func TestFirst(t *testing.T) {
	for nodes := 1; nodes <= maxNodes; nodes++ {
		x := newAsker(t, 7, nodes, 2)
		x.wantState("at first", false, 0)
		x.wantQuiet("at first", 5)
		for group := range maxShards + 1 {
			x.asks(group, fullCmd())
			x.wantSent("the first time", 0, group, 1+group, fullCmd())
			x.wantAnswer("it", group, 1+group, api.Reply{})
		}
	}
	for _, id := range []int{1, maxTime} {
		x := newAsker(t, id, 1, 1)
		x.asks(0, fullCmd())
		x.wantSent("by its id", 0, 0, 1, fullCmd())
		x.wantAnswer("by its id", 0, 1, fullReply(api.OK))
	}
}

// groupEdges: of a number from 0 to MaxShards.
var groupEdges = edges(0, maxShards)

// P18.2: which groups Ask takes; where it tells an error nothing has changed.
func TestAskGroup(t *testing.T) {
	x := newAsker(t, 3, 3, 2)
	num := 0
	for _, g := range groupEdges {
		name := fmt.Sprint("group ", g.n)
		if !g.ok {
			wantError(t, name, x.ask(g.n, fullCmd()), api.ErrArg)
			x.wantState(name, false, num)
			x.wantQuiet(name, 3)
			continue
		}
		num++
		x.asks(g.n, fullCmd())
		x.wantState(name, true, num)
		x.wantSent(name, 0, g.n, num, fullCmd())
		x.wantAnswer(name, g.n, num, fullReply(api.OK))
		x.wantState(name, false, num)
	}
}

// P18.2: while it asks something Ask is refused, ahead of what else is wrong, and what it asks stays.
func TestAskBusy(t *testing.T) {
	x := newAsker(t, 3, 3, 2)
	refuse := func(name string) {
		t.Helper()
		for _, g := range groupEdges {
			wantError(t, fmt.Sprint(name, ", group ", g.n), x.ask(g.n, api.Cmd{Kind: api.CmPurge}), api.ErrBusy)
		}
		x.wantState(name, true, 1)
	}
	x.asks(4, fullCmd())
	refuse("ahead of the first tick")
	x.wantSent("the first one", 0, 4, 1, fullCmd())
	refuse("behind it")
	x.wantQuiet("waiting", 2)
	refuse("waiting")
	x.wantSent("the second one", 1, 4, 1, fullCmd())
	x.wantNoAnswer("a hint", replyPacket(3, 4, 1, api.Reply{Err: api.ErrLeader}))
	refuse("behind a hint")
	x.wantSent("the third one", 2, 4, 1, fullCmd())
	x.wantAnswer("at last", 4, 1, fullReply(api.OK))
	x.asks(0, api.Cmd{Kind: api.CmPurge})
	x.wantSent("another one", 0, 0, 2, api.Cmd{Kind: api.CmPurge})
}

// P18.2: Client and Num of what comes in count for nothing; all else goes as it is, whatever it is.
func TestAskAnything(t *testing.T) {
	x := newAsker(t, 9, 1, 1)
	odd := fullCmd()
	odd.Kind, odd.Client, odd.Num, odd.Time, odd.Queue, odd.Max, odd.Secs, odd.To = minInt, minInt, maxInt, -1, maxInt, minInt, -3, 99
	odd.Range, odd.Receipt.Seq, odd.Group, odd.Body = from(9, -9), minInt, string(make([]byte, 5000)), "\xff\x00"
	for i, c := range []api.Cmd{{}, fullCmd(), {Client: 9, Num: 5}, {Client: 1, Num: 1}, odd, {Data: []string{""}}} {
		x.asks(1, c)
		x.wantState("anything", true, 1+i)
		x.wantSent("anything", 0, 1, 1+i, c)
		x.wantSentAgain("anything", 1, 0, 1, 1+i, c)
		x.wantAnswer("anything", 1, 1+i, api.Reply{})
	}
}

// wantSentAgain checks that it waits for so many ticks, and sends once more then.
func (x asking) wantSentAgain(name string, retry, to, group, num int, c api.Cmd) {
	x.t.Helper()
	x.wantQuiet(name, retry)
	x.wantSent(name, to, group, num, c)
}

// P18.2: Turn is refused while nothing is asked, ahead of what else is wrong, and of what is no group.
func TestTurnRefused(t *testing.T) {
	x := newAsker(t, 3, 3, 2)
	refuse := func(name string, num int) {
		t.Helper()
		for _, g := range groupEdges {
			wantError(t, fmt.Sprint(name, ", group ", g.n), x.a.Turn(g.n), api.ErrState)
		}
		x.wantState(name, false, num)
		x.wantQuiet(name, 3)
	}
	refuse("at first", 0)
	x.asks(2, fullCmd())
	x.wantSent("the first one", 0, 2, 1, fullCmd())
	x.wantQuiet("waiting", 1)
	for _, g := range groupEdges {
		if !g.ok {
			wantError(t, fmt.Sprint("group ", g.n), x.a.Turn(g.n), api.ErrArg)
		}
	}
	// It goes on waiting where it was.
	x.wantState("behind what is no group", true, 1)
	x.wantSentAgain("behind what is no group", 1, 1, 2, 1, fullCmd())
	x.wantAnswer("at last", 2, 1, api.Reply{})
	refuse("behind an answer", 1)
}

// P18.2, P18.3: behind a Turn the same is asked of another group, or of the same one, at once, of whom it holds to lead that.
func TestTurn(t *testing.T) {
	for _, g := range groupEdges {
		if !g.ok {
			continue
		}
		for ahead := range 6 {
			name := fmt.Sprint("group ", g.n, ", behind ticks: ", ahead)
			x := newAsker(t, 3, 3, 3)
			x.asks(1, fullCmd())
			for range ahead {
				x.a.Tick()
			}
			// The second one is sent at the fifth tick, to node 1.
			lead := 0
			if ahead == 5 && g.n == 1 {
				lead = 1
			}
			wantError(t, name, x.a.Turn(g.n), api.OK)
			x.wantState(name, true, 1)
			if g.n != 1 {
				x.wantNoAnswer(name, replyPacket(3, 1, 1, fullReply(api.OK)))
			}
			x.wantSent(name, lead, g.n, 1, fullCmd())
			x.wantSentAgain(name, 3, lead+1, g.n, 1, fullCmd())
			x.wantAnswer(name, g.n, 1, fullReply(api.OK))
			x.wantState(name, false, 1)
		}
	}
}

// P18.2: the last Turn counts, and an answer from there.
func TestTurnTwice(t *testing.T) {
	x := newAsker(t, 3, 2, 1)
	x.asks(1, fullCmd())
	wantError(t, "Turn", x.a.Turn(6), api.OK)
	wantError(t, "Turn", x.a.Turn(0), api.OK)
	wantError(t, "Turn", x.a.Turn(0), api.OK)
	x.wantSent("the last one", 0, 0, 1, fullCmd())
	for _, g := range []int{1, 6} {
		x.wantNoAnswer("a group ahead", replyPacket(3, g, 1, fullReply(api.OK)))
	}
	x.wantAnswer("the last one", 0, 1, fullReply(api.OK))
}

// P18.3: it is sent once, then behind retry ticks each, from node to node, and from the last one to the first.
func TestTick(t *testing.T) {
	for _, retry := range []int{1, 2, 3, 7, 999, maxRetry} {
		for nodes := 1; nodes <= maxNodes; nodes++ {
			x := newAsker(t, 5, nodes, retry)
			name := fmt.Sprint("retry ", retry, ", nodes ", nodes)
			x.asks(2, fullCmd())
			x.wantSent(name, 0, 2, 1, fullCmd())
			for i := range 2*nodes + 1 {
				x.wantSentAgain(name, retry, (1+i)%nodes, 2, 1, fullCmd())
			}
			x.wantState(name, true, 1)
		}
	}
}

// P18.3: what is told is not what it has, and what came in is not kept.
func TestAskerMemory(t *testing.T) {
	x := newAsker(t, 5, 1, 1)
	x.asks(2, fullCmd())
	for range 4 {
		// wantSent writes over what it was told.
		x.wantSent("its own", 0, 2, 1, fullCmd())
		x.wantQuiet("its own", 1)
	}
	r := copyOf(fullReply(api.OK))
	told, _ := x.a.Recv(replyPacket(5, 2, 1, r))
	spoil(r)
	want(t, "the reply", told, fullReply(api.OK))
	spoil(told)
}

// P18.3: each group has a node that is held to lead it, from ask to ask, whatever comes of the others.
func TestLeaders(t *testing.T) {
	x := newAsker(t, 5, maxNodes, 1)
	lead := [maxShards + 1]int{}
	num := 0
	for i := range 60 {
		group := i * 5 % 7
		num++
		x.asks(group, fullCmd())
		x.wantSent("what it holds", lead[group], group, num, fullCmd())
		for range i % 4 {
			lead[group] = (lead[group] + 1) % maxNodes
			x.wantSentAgain("the next one", 1, lead[group], group, num, fullCmd())
		}
		if i%3 == 0 {
			lead[group] = i % maxNodes
			x.wantNoAnswer("a hint", replyPacket(5, group, num, api.Reply{Err: api.ErrLeader, N: 1 + lead[group]}))
		}
		x.wantAnswer("it", group, num, api.Reply{})
	}
	// A Turn finds the other group's, and leaves this one's.
	x.asks(0, fullCmd())
	x.wantSent("ahead of a Turn", lead[0], 0, num+1, fullCmd())
	wantError(t, "Turn", x.a.Turn(3), api.OK)
	x.wantSent("behind a Turn", lead[3], 3, num+1, fullCmd())
	x.wantSentAgain("behind a Turn", 1, (lead[3]+1)%maxNodes, 3, num+1, fullCmd())
	wantError(t, "Turn", x.a.Turn(0), api.OK)
	x.wantSent("behind the second Turn", lead[0], 0, num+1, fullCmd())
}

// Ways: who leads is copied with it; neither of the two hears of what comes to the other.
func TestLeadersOfACopy(t *testing.T) {
	x := newAsker(t, 5, 3, 1)
	x.asks(1, fullCmd())
	x.wantNoAnswer("a hint", replyPacket(5, 1, 1, api.Reply{Err: api.ErrLeader, N: 3}))
	b := *x.a
	y := asking{t, &b, 5}
	x.wantNoAnswer("a hint", replyPacket(5, 1, 1, api.Reply{Err: api.ErrLeader, N: 2}))
	x.wantSent("the first one", 1, 1, 1, fullCmd())
	y.wantSent("the copy", 2, 1, 1, fullCmd())
	y.wantSentAgain("the copy", 1, 0, 1, 1, fullCmd())
	x.wantSentAgain("the first one", 1, 2, 1, 1, fullCmd())
}

// P18.4: what is no answer: nothing comes of it, at whatever time.
func TestNoAnswer(t *testing.T) {
	good := replyPacket(5, 2, 2, fullReply(api.OK))
	var odd []api.Packet
	add := func(change func(p *api.Packet)) {
		p := good
		change(&p)
		odd = append(odd, p)
		p.Reply = api.Reply{Err: api.ErrLeader, N: 2}
		odd = append(odd, p)
	}
	for _, kind := range []int{minInt, -1, 0, api.PkPaxos, api.PkAsk, api.PkMap, api.PkChart, api.PkPull, api.PkSnap, 8, maxInt} {
		add(func(p *api.Packet) { p.Kind = kind })
	}
	for _, to := range []int{minInt, -6, -4, -1, 0, 1, 5, maxInt} {
		add(func(p *api.Packet) { p.To = to })
	}
	for _, group := range []int{minInt, -1, 0, 1, 3, 6, 7, maxInt} {
		add(func(p *api.Packet) { p.Group = group })
	}
	for _, client := range []int{minInt, -5, 0, 1, 4, 6, maxInt} {
		add(func(p *api.Packet) { p.Cmd.Client = client })
	}
	for _, num := range []int{minInt, -2, 0, 1, 3, maxInt} {
		add(func(p *api.Packet) { p.Cmd.Num = num })
	}
	x := newAsker(t, 5, 3, 3)
	none := func(name string, l ...api.Packet) {
		t.Helper()
		for _, p := range l {
			x.wantNoAnswer(name, p)
		}
	}
	none("at first", append(odd, good)...)
	x.wantState("at first", false, 0)
	x.asks(2, fullCmd())
	x.wantAnswer("number 1", 2, 1, api.Reply{})
	none("behind an answer", append(odd, good)...)
	x.asks(2, fullCmd())
	none("ahead of the first tick", odd...)
	x.wantSent("the first one", 0, 2, 2, fullCmd())
	for range 3 {
		none("waiting", odd...)
		x.wantQuiet("waiting", 1)
	}
	none("waiting", odd...)
	x.wantSent("the second one", 1, 2, 2, fullCmd())
	x.wantState("behind all of that", true, 2)
	x.wantAnswer("at last", 2, 2, fullReply(api.OK))
	none("behind the answer", append(odd, good)...)
	x.wantState("behind the answer", false, 2)
}

// P18.4: who sent a reply, and what else it has, counts for nothing.
func TestAnswerOfAnybody(t *testing.T) {
	for _, sender := range []int{minInt, -5, -1, 0, 1, 4, 5, maxInt} {
		x := newAsker(t, 5, 3, 3)
		x.asks(2, fullCmd())
		p := replyPacket(5, 2, 1, fullReply(api.OK))
		p.From, p.Msg.Kind, p.Chart.Epoch, p.Data = sender, 3, 9, []string{"a"}
		p.Cmd = fullCmd()
		p.Cmd.Client, p.Cmd.Num = 5, 1
		if r, answered := x.recv(p); !answered || !same(r, fullReply(api.OK)) {
			t.Errorf("from %d: %s, %v", sender, brief(r), answered)
		}
	}
}

// P18.4: behind an ErrLeader the same is asked at once, of whom it names, else of the next one.
func TestHint(t *testing.T) {
	for nodes := 1; nodes <= maxNodes; nodes++ {
		for held := range nodes {
			for _, n := range []int{minInt, minInt + 1, -1, 0, 1, 2, nodes, nodes + 1, nodes + 2, maxInt} {
				x := newAsker(t, 5, nodes, 2)
				name := fmt.Sprint("nodes ", nodes, ", node ", held, ", a hint of ", n)
				x.asks(4, fullCmd())
				x.wantNoAnswer(name, replyPacket(5, 4, 1, api.Reply{Err: api.ErrLeader, N: 1 + held}))
				x.wantSent(name, held, 4, 1, fullCmd())
				x.wantQuiet(name, 1)
				full := fullReply(api.ErrLeader)
				full.N = n
				x.wantNoAnswer(name, replyPacket(5, 4, 1, full))
				x.wantState(name, true, 1)
				to := (held + 1) % nodes
				if n >= 1 && n <= nodes {
					to = n - 1
				}
				x.wantSent(name, to, 4, 1, fullCmd())
				x.wantSentAgain(name, 2, (to+1)%nodes, 4, 1, fullCmd())
				x.wantAnswer(name, 4, 1, api.Reply{})
			}
		}
	}
}

// P18.4: a hint ahead of the first tick counts, too; and one hint behind the other.
func TestHints(t *testing.T) {
	x := newAsker(t, 5, 3, 2)
	x.asks(4, fullCmd())
	for range 2 {
		x.wantNoAnswer("nobody", replyPacket(5, 4, 1, api.Reply{Err: api.ErrLeader}))
	}
	x.wantSent("behind two hints", 2, 4, 1, fullCmd())
	x.wantNoAnswer("nobody", replyPacket(5, 4, 1, api.Reply{Err: api.ErrLeader, N: 4}))
	x.wantSent("behind the last node", 0, 4, 1, fullCmd())
}

// P18.4: every other error is an answer, and each reply one once.
func TestAnswer(t *testing.T) {
	num := 0
	x := newAsker(t, 5, 3, 2)
	for _, e := range append(everyErrno(), minInt, -1, 19, 255, 256, maxInt) {
		if e == api.ErrLeader {
			continue
		}
		for ticks := range 5 {
			num++
			name := fmt.Sprint("error ", int(e), ", ticks: ", ticks)
			x.asks(3, fullCmd())
			for range ticks {
				x.a.Tick()
			}
			x.wantAnswer(name, 3, num, fullReply(e))
			x.wantState(name, false, num)
			x.wantNoAnswer(name, replyPacket(5, 3, num, fullReply(e)))
			x.wantNoAnswer(name, replyPacket(5, 3, num, api.Reply{Err: api.ErrLeader, N: 3}))
			x.wantState(name, false, num)
			x.wantQuiet(name, 4)
		}
	}
}

// everyErrno is all of the document's errors, rising.
func everyErrno() []api.Errno {
	var l []api.Errno
	for e := api.OK; e <= api.ErrRange; e++ {
		l = append(l, e)
	}
	return l
}

// Rule 1: of a nil asker, and of one that no call made.
func TestNoAsker(t *testing.T) {
	for name, a := range map[string]*front.Asker{"nil": nil, "plain": {}} {
		x := asking{t, a, 0}
		for range 2 {
			for _, g := range groupEdges {
				wantError(t, name+": Ask", x.ask(g.n, fullCmd()), api.ErrNil)
				wantError(t, name+": Turn", a.Turn(g.n), api.ErrNil)
			}
			x.wantState(name, false, 0)
			x.wantQuiet(name, 3)
			for _, num := range []int{0, 1} {
				x.wantNoAnswer(name, replyPacket(0, 0, num, fullReply(api.OK)))
				x.wantNoAnswer(name, replyPacket(0, 0, num, api.Reply{Err: api.ErrLeader, N: 1}))
			}
		}
	}
}
