package control_test

import (
	"fmt"
	"math/rand/v2"
	"testing"

	"raceway/api"
)

// plainAsker is an asker in the document's words.
type plainAsker struct {
	id, nodes, retry int
	num, group       int
	cmd              api.Cmd
	leader           [maxShards + 1]int
	asks             bool
	since            int // ticks since it was sent
}

// notSent is since, while nothing was sent yet.
const notSent = -1

func (a *plainAsker) ask(group int, c api.Cmd) api.Errno {
	if a.asks {
		return api.ErrBusy
	}
	if group < 0 || group > maxShards {
		return api.ErrArg
	}
	a.num++
	a.asks, a.group, a.cmd, a.since = true, group, copyOf(c), notSent
	a.cmd.Client, a.cmd.Num = a.id, a.num
	return api.OK
}

func (a *plainAsker) tick() []api.Packet {
	if !a.asks {
		return nil
	}
	switch a.since {
	case notSent:
	case a.retry:
		a.leader[a.group]++
		a.leader[a.group] %= a.nodes
	default:
		a.since++
		return nil
	}
	a.since = 0
	return []api.Packet{{Kind: api.PkAsk, From: -a.id, To: a.leader[a.group], Group: a.group, Cmd: a.cmd}}
}

func (a *plainAsker) recv(p api.Packet) (api.Reply, bool) {
	if !a.asks || p.Kind != api.PkReply || p.To != -a.id || p.Group != a.group || p.Cmd.Client != a.id || p.Cmd.Num != a.num {
		return api.Reply{}, false
	}
	if p.Reply.Err != api.ErrLeader {
		a.asks = false
		return copyOf(p.Reply), true
	}
	a.since = notSent
	for node := range a.nodes {
		if p.Reply.N-1 == node {
			a.leader[a.group] = node
			return api.Reply{}, false
		}
	}
	a.leader[a.group] = (a.leader[a.group] + 1) % a.nodes
	return api.Reply{}, false
}

// plainControl is a control in the document's words.
type plainControl struct {
	asker    plainAsker
	stage    int
	r        api.Range
	from, to int
	data     []string
	will     api.Errno
	last     api.Errno
	ended    bool
}

func (c *plainControl) start(r api.Range, from, to int) api.Errno {
	if c.stage != none {
		return api.ErrBusy
	}
	if !(0 <= r.Lo && r.Lo < r.Hi && r.Hi <= span) || from < 1 || from > maxShards || to < 1 || to > maxShards || from == to {
		return api.ErrArg
	}
	c.r, c.from, c.to, c.stage, c.ended = r, from, to, freeze, false
	c.asker.ask(from, freezeCmd(r))
	return api.OK
}

func (c *plainControl) recv(p api.Packet) {
	r, answered := c.asker.recv(p)
	if !answered {
		return
	}
	isGood := r.Err == api.OK
	switch {
	case c.stage == freeze && isGood:
		c.stage, c.data = bring, r.Data
		c.asker.ask(c.to, importCmd(c.r, c.data...))
	case c.stage == bring && isGood:
		c.stage = chartIt
		c.asker.ask(0, chartCmd(c.r, c.to))
	case c.stage == bring:
		c.stage, c.will = bringBack, r.Err
		c.asker.ask(c.from, importCmd(c.r, c.data...))
	case c.stage == bringBack:
		c.stage, c.last, c.ended = none, c.will, true
	default:
		c.stage, c.last, c.ended = none, r.Err, true
	}
}

// pick is one of some.
func pick[T any](rng *rand.Rand, l ...T) T { return l[rng.IntN(len(l))] }

func someRange(rng *rand.Rand) api.Range {
	if rng.IntN(8) == 0 {
		return from(rng.IntN(span+4)-2, rng.IntN(span+4)-2)
	}
	lo := rng.IntN(span)
	return from(lo, lo+1+rng.IntN(span-lo))
}

func someShard(rng *rand.Rand) int {
	if rng.IntN(12) == 0 {
		return pick(rng, minInt, -1, 0, 7, maxInt)
	}
	return 1 + rng.IntN(maxShards)
}

func someReply(rng *rand.Rand) api.Reply {
	r := api.Reply{Seq: rng.IntN(9), N: rng.IntN(8) - 1}
	if rng.IntN(4) == 0 {
		r.Err = api.Errno(rng.IntN(19))
	}
	if rng.IntN(4) == 0 {
		r.Err = api.ErrLeader
	}
	for range rng.IntN(4) {
		r.Data = append(r.Data, fmt.Sprint("data ", rng.IntN(100)))
	}
	return r
}

// somePacket is often a reply to what is asked.
func somePacket(rng *rand.Rand, a plainAsker) api.Packet {
	p := replyPacket(a.id, a.group, a.num, someReply(rng))
	p.From = rng.IntN(5)
	switch rng.IntN(8) {
	case 0:
		p.Group = rng.IntN(9) - 1
	case 1:
		p.Cmd.Num += rng.IntN(5) - 3
	case 2:
		p.Kind = rng.IntN(9)
	case 3:
		p.To, p.Cmd.Client = pick(rng, -a.id, a.id, -a.id-1, 0), pick(rng, a.id, -a.id, a.id+1)
	}
	return p
}

// P19.1 to P19.4: whatever happens to a control, it does what the document's words say.
func TestRuns(t *testing.T) {
	// By stages from which, and to which, how often.
	var ways [5][5]int
	for seed := range 400 {
		rng := rand.New(rand.NewPCG(uint64(seed), 19))
		id, nodes, retry := pick(rng, 1, 2, 9, maxTime), 1+rng.IntN(maxNodes), 1+rng.IntN(4)
		x, y := newControl(t, id, nodes, retry), plainControl{asker: plainAsker{id: id, nodes: nodes, retry: retry}}
		for i := range 400 {
			name, was := fmt.Sprint("seed ", seed, ", step ", i), y.stage
			switch rng.IntN(8) {
			case 0, 1:
				r, a, b := someRange(rng), someShard(rng), someShard(rng)
				wantError(t, name+": Start", x.c.Start(r, a, b), y.start(r, a, b))
			case 2, 3, 4:
				p := somePacket(rng, y.asker)
				x.recv(p)
				y.recv(p)
			default:
				want(t, name+": Tick", x.tick(), y.asker.tick())
			}
			x.wantAt(name, y.stage, y.last, y.ended)
			if x.c.Num() != y.asker.num || x.c.Busy() != y.asker.asks {
				t.Errorf("%s: number %d, not %d; it asks: %v", name, x.c.Num(), y.asker.num, x.c.Busy())
			}
			if t.Failed() {
				return
			}
			ways[was][y.stage]++
		}
	}
	for _, way := range [][2]int{{none, freeze}, {freeze, none}, {freeze, bring}, {bring, chartIt}, {bring, bringBack}, {chartIt, none}, {bringBack, none}} {
		if n := ways[way[0]][way[1]]; n < 300 {
			t.Errorf("from stage %d to %d: %d times", way[0], way[1], n)
		}
	}
}
