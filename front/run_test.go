package front_test

import (
	"fmt"
	"math/rand/v2"
	"testing"

	"raceway/api"
)

// plainAsker is an asker in the document's words.
type plainAsker struct {
	id, nodes, retry int
	num, group       int
	cmd              api.Cmd
	leader           [maxShards + 1]int
	asks             bool
	since            int // ticks since it was sent
}

// notSent is since, while nothing was sent yet.
const notSent = -1

func (a *plainAsker) ask(group int, c api.Cmd) api.Errno {
	if a.asks {
		return api.ErrBusy
	}
	if group < 0 || group > maxShards {
		return api.ErrArg
	}
	a.num++
	a.asks, a.group, a.cmd, a.since = true, group, copyOf(c), notSent
	a.cmd.Client, a.cmd.Num = a.id, a.num
	return api.OK
}

func (a *plainAsker) turn(group int) api.Errno {
	if !a.asks {
		return api.ErrState
	}
	if group < 0 || group > maxShards {
		return api.ErrArg
	}
	a.group, a.since = group, notSent
	return api.OK
}

func (a *plainAsker) tick() []api.Packet {
	if !a.asks {
		return nil
	}
	switch a.since {
	case notSent:
	case a.retry:
		a.leader[a.group]++
		a.leader[a.group] %= a.nodes
	default:
		a.since++
		return nil
	}
	a.since = 0
	return []api.Packet{{Kind: api.PkAsk, From: -a.id, To: a.leader[a.group], Group: a.group, Cmd: a.cmd}}
}

func (a *plainAsker) recv(p api.Packet) (api.Reply, bool) {
	if !a.asks || p.Kind != api.PkReply || p.To != -a.id || p.Group != a.group || p.Cmd.Client != a.id || p.Cmd.Num != a.num {
		return api.Reply{}, false
	}
	if p.Reply.Err != api.ErrLeader {
		a.asks = false
		return copyOf(p.Reply), true
	}
	a.since = notSent
	for node := range a.nodes {
		if p.Reply.N-1 == node {
			a.leader[a.group] = node
			return api.Reply{}, false
		}
	}
	a.leader[a.group] = (a.leader[a.group] + 1) % a.nodes
	return api.Reply{}, false
}

// plainClient is a client in the document's words; its steps are a list that grows shorter.
type plainClient struct {
	asker   plainAsker
	call    api.Call
	phase   int
	todo    []api.Cmd // of which the first one is the step
	shards  []int     // of a receive or purge, whom the steps ask
	replies []api.Reply
	chart   api.Chart
	wants   bool
	maps    int
}

const (
	ahead = iota
	within
	begun
	ended
)

func (c *plainClient) busy() bool { return c.phase == within || c.phase == begun }

func (c *plainClient) start(call api.Call) api.Errno {
	entries, isGood := len(call.Entries), false
	switch call.Kind {
	case api.CmReceive, api.CmPurge:
		isGood = entries == 0
	case api.CmSend, api.CmDelete, api.CmChange, api.CmRedrive:
		isGood = entries > 0 && entries <= maxBatch
	}
	for _, n := range []int{call.Queue, call.Max, call.Secs} {
		isGood = isGood && n >= 0 && n <= maxTime
	}
	switch {
	case c.busy():
		return api.ErrBusy
	case !isGood:
		return api.ErrArg
	}
	c.call, c.phase, c.replies, c.todo = copyOf(call), within, nil, nil
	for i := range call.Entries {
		c.todo = append(c.todo, cmdOf(c.call, i))
	}
	if len(c.chart.Pieces) == 0 || isOfShards(call.Kind) {
		c.wants = true
	}
	return api.OK
}

func (c *plainClient) group() int {
	if isOfShards(c.call.Kind) {
		return c.shards[0]
	}
	name := c.todo[0].Group
	if c.call.Kind == api.CmDelete || c.call.Kind == api.CmChange {
		name = c.todo[0].Receipt.Group
	}
	return serverOf(c.chart, name)
}

func (c *plainClient) tick() []api.Packet {
	if !c.busy() {
		return nil
	}
	if c.wants {
		c.maps++
		return []api.Packet{{Kind: api.PkMap, From: -c.asker.id, To: (c.maps - 1) % c.asker.nodes}}
	}
	if c.phase == within {
		c.phase, c.shards = begun, shardsOf(c.chart)
		if isOfShards(c.call.Kind) {
			for range c.shards {
				c.todo = append(c.todo, cmdOf(c.call, 0))
			}
		}
	}
	if !c.asker.asks {
		c.asker.ask(c.group(), c.todo[0])
	}
	return c.asker.tick()
}

func (c *plainClient) recv(p api.Packet) {
	if p.Kind == api.PkChart {
		c.hear(p)
		return
	}
	r, answered := c.asker.recv(p)
	if !answered {
		return
	}
	if r.Err == api.ErrMoved && !isOfShards(c.call.Kind) {
		c.wants, c.asker.asks = true, true
		return
	}
	c.replies, c.todo = append(c.replies, r), c.todo[1:]
	if isOfShards(c.call.Kind) {
		c.shards = c.shards[1:]
	}
	if len(c.todo) == 0 || c.call.Kind == api.CmReceive && len(r.Got) > 0 {
		c.phase = ended
	}
}

func (c *plainClient) hear(p api.Packet) {
	if p.To != -c.asker.id || !c.wants || !mayBe(p.Chart) {
		return
	}
	c.wants = false
	if p.Chart.Epoch >= c.chart.Epoch {
		c.chart = copyOf(p.Chart)
	}
	if c.asker.asks && !isOfShards(c.call.Kind) {
		c.asker.turn(c.group())
	}
}

// mayBe tells in the document's words whether a chart may be.
func mayBe(c api.Chart) bool {
	at, last := 0, 0
	for _, p := range c.Pieces {
		if p.Range.Lo != at || p.Range.Hi <= at || p.Shard < 1 || p.Shard > maxShards || p.Shard == last {
			return false
		}
		at, last = p.Range.Hi, p.Shard
	}
	return at == span && c.Epoch >= 1 && c.Epoch <= maxTime
}

func pick[T any](rng *rand.Rand, l ...T) T { return l[rng.IntN(len(l))] }

// someReply may be any.
func someReply(rng *rand.Rand) api.Reply {
	r := api.Reply{Err: api.Errno(rng.IntN(19)), N: rng.IntN(8) - 1, Seq: rng.IntN(9)}
	switch rng.IntN(5) {
	case 0, 1:
		r.Err = api.OK
	case 2:
		r.Err = pick(rng, api.ErrLeader, api.ErrMoved)
	}
	if rng.IntN(3) == 0 {
		r.Got, r.About = fullReply(0).Got, fullReply(0).About
	}
	return r
}

// somePacket is a reply that fits, or one that fits but for a part or two.
func somePacket(rng *rand.Rand, id, group, num int) api.Packet {
	p := replyPacket(id, group, num, someReply(rng))
	p.From = rng.IntN(9) - 4
	for rng.IntN(4) == 0 {
		switch rng.IntN(5) {
		case 0:
			p.Kind = rng.IntN(9)
		case 1:
			p.To = pick(rng, id, -id-1, 1-id, 0, minInt)
		case 2:
			p.Group = rng.IntN(9) - 1
		case 3:
			p.Cmd.Client = pick(rng, id+1, id-1, -id, 0)
		case 4:
			p.Cmd.Num = num + rng.IntN(4) - 2
		}
	}
	return p
}

// P18.1 to P18.4: whatever happens to an asker, it does what the document's words say.
func TestAskerRuns(t *testing.T) {
	answers := 0
	for seed := range 300 {
		rng := rand.New(rand.NewPCG(uint64(seed), 181))
		id, nodes, retry := pick(rng, 1, 2, 9, maxTime), 1+rng.IntN(maxNodes), 1+rng.IntN(5)
		x, y := newAsker(t, id, nodes, retry), plainAsker{id: id, nodes: nodes, retry: retry}
		for i := range 400 {
			name := fmt.Sprint("seed ", seed, ", step ", i)
			group := rng.IntN(maxShards+3) - 1
			switch rng.IntN(8) {
			case 0, 1:
				c := fullCmd()
				c.Body = name
				wantError(t, name+": Ask", x.ask(group, c), y.ask(group, c))
			case 2:
				wantError(t, name+": Turn", x.a.Turn(group), y.turn(group))
			case 3, 4:
				p := somePacket(rng, id, y.group, y.num)
				r, answered := x.recv(p)
				should, is := y.recv(p)
				want(t, name+": Recv", r, should)
				if answered != is {
					t.Errorf("%s: %s: answered %v", name, brief(p), answered)
				}
				if is {
					answers++
				}
			default:
				want(t, name+": Tick", takeOver(x.a.Tick()), y.tick())
			}
			x.wantState(name, y.asks, y.num)
			if t.Failed() {
				return
			}
		}
	}
	if answers < 3000 {
		t.Errorf("%d answers", answers)
	}
}

// someCall is of any kind, and one that may be, for the most part.
func someCall(rng *rand.Rand) api.Call {
	call := callOf(pick(rng, append(entryKinds, shardKinds...)...), 1+rng.IntN(4))
	for i := range call.Entries {
		call.Entries[i].Group = fmt.Sprint(rng.IntN(1000))
		call.Entries[i].Receipt.Group = fmt.Sprint(rng.IntN(1000))
	}
	if isOfShards(call.Kind) {
		call.Entries = nil
	}
	switch rng.IntN(12) {
	case 0:
		call.Kind = rng.IntN(12)
	case 1:
		call.Entries = entriesOf(pick(rng, 0, 1, 10, 11))
	case 2:
		call.Max = pick(rng, -1, 0, maxTime, maxTime+1)
	}
	return call
}

// someChart is one that may be, for the most part.
func someChart(rng *rand.Rand) api.Chart {
	pieces, at := [][2]int{{0, 1 + rng.IntN(maxShards)}}, 0
	for range rng.IntN(6) {
		at += 1 + rng.IntN(9000)
		pieces = append(pieces, [2]int{at, 1 + (pieces[len(pieces)-1][1]+rng.IntN(maxShards-1))%maxShards})
	}
	c := chartOf(1+rng.IntN(30), pieces...)
	if rng.IntN(10) == 0 {
		i := rng.IntN(len(c.Pieces))
		switch rng.IntN(4) {
		case 0:
			c.Epoch = pick(rng, -1, 0, maxTime+1)
		case 1:
			c.Pieces[i].Shard = pick(rng, -1, 0, 7)
		case 2:
			c.Pieces[i].Range.Lo++
		case 3:
			c.Pieces = c.Pieces[:i]
		}
	}
	return c
}

// P18.5 to P18.8: whatever happens to a client, it does what the document's words say; a number stands for one command for ever.
func TestClientRuns(t *testing.T) {
	calls := [7]int{}
	for seed := range 300 {
		rng := rand.New(rand.NewPCG(uint64(seed), 185))
		id, nodes, retry := pick(rng, 1, 2, 9, maxTime), 1+rng.IntN(maxNodes), 1+rng.IntN(4)
		x, y := newClient(t, id, nodes, retry), plainClient{asker: plainAsker{id: id, nodes: nodes, retry: retry}}
		asked := map[int]api.Cmd{}
		for i := range 600 {
			name := fmt.Sprint("seed ", seed, ", step ", i)
			switch rng.IntN(9) {
			case 0:
				call := someCall(rng)
				e := y.start(call)
				wantError(t, name+": Start", x.start(call), e)
				if e == api.OK {
					calls[call.Kind]++
				}
			case 1:
				p := api.Packet{Kind: api.PkChart, From: rng.IntN(5), To: -id, Chart: someChart(rng)}
				if rng.IntN(9) == 0 {
					p.To = pick(rng, id, -id-1, 0)
				}
				x.recv(p)
				y.recv(p)
			case 2, 3, 4:
				p := somePacket(rng, id, y.asker.group, y.asker.num)
				x.recv(p)
				y.recv(p)
			default:
				l := x.tick()
				want(t, name+": Tick", l, y.tick())
				for _, p := range l {
					wantOwnNumber(t, name, asked, p)
				}
			}
			wantLike(t, name, x, &y)
			if t.Failed() {
				return
			}
		}
	}
	for _, kind := range append(entryKinds, shardKinds...) {
		if calls[kind] < 200 {
			t.Errorf("kind %d: %d calls", kind, calls[kind])
		}
	}
}

// wantOwnNumber checks that a command has the number that it had ahead, or the next one.
func wantOwnNumber(t *testing.T, name string, asked map[int]api.Cmd, p api.Packet) {
	t.Helper()
	if p.Kind != api.PkAsk {
		return
	}
	old, has := asked[p.Cmd.Num]
	if !has && p.Cmd.Num != len(asked)+1 || has && (!same(old, p.Cmd) || p.Cmd.Num != len(asked)) {
		t.Errorf("%s: behind %d commands number %d asks for\n%s, ahead for\n%s", name, len(asked), p.Cmd.Num, brief(p.Cmd), brief(old))
	}
	asked[p.Cmd.Num] = p.Cmd
}

func wantLike(t *testing.T, name string, x calling, y *plainClient) {
	t.Helper()
	l, e := x.c.Result()
	want(t, name+": Result", takeOver(l), y.replies)
	if e != (y.phase == ended) || x.c.Busy() != y.busy() || x.c.Num() != y.asker.num {
		t.Errorf("%s: ended %v, busy %v, number %d", name, e, x.c.Busy(), x.c.Num())
	}
	x.wantChart(name+": Chart", y.chart)
}
