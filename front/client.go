package front

import (
	"slices"

	"raceway/api"
	"raceway/chart"
	"raceway/place"
)

// Client does calls.
type Client struct {
	Asker
	call    api.Call    // that it does, or did last
	busy    bool        // it does it
	shards  []int       // that a receive or purge goes through, once its first step began
	replies []api.Reply // of the steps that are done, so the next step's place
	known   api.Chart   // of epoch 0: none
	wants   bool        // a chart
	mapper  int         // the node that it asks for a chart next
}

// New makes one; Start starts a call; Tick and Recv are what happens to it.
func New(id, nodes, retry int) (*Client, api.Errno) {
	a, e := NewAsker(id, nodes, retry)
	if e != api.OK {
		return nil, e
	}
	return &Client{Asker: *a}, api.OK
}

func (c *Client) Start(call api.Call) api.Errno {
	switch {
	case !c.isMade():
		return api.ErrNil
	case c.busy:
		return api.ErrBusy
	case !mayBe(call):
		return api.ErrArg
	}
	call.Entries = slices.Clone(call.Entries)
	c.call, c.busy, c.shards, c.replies = call, true, nil, nil
	if c.known.Epoch == 0 || isOfShards(call.Kind) {
		c.wants = true
	}
	return api.OK
}

func (c *Client) Tick() []api.Packet {
	switch {
	case !c.Busy():
		return nil
	case c.wants:
		return []api.Packet{c.askForChart()}
	case !c.Asker.Busy():
		c.begin()
	}
	return c.Asker.Tick()
}

// Recv: what comes is answered by a later Tick.
func (c *Client) Recv(p api.Packet) []api.Packet {
	switch {
	case !c.isMade():
		return nil
	case p.Kind == api.PkChart:
		c.hearChart(p)
	default:
		c.hearReply(p)
	}
	return nil
}

// Busy, Result and Chart tell what it does, what came of it, and what it knows.
func (c *Client) Busy() bool {
	return c.isMade() && c.busy
}

func (c *Client) Result() ([]api.Reply, bool) {
	if !c.isMade() {
		return nil, false
	}
	var l []api.Reply
	for _, r := range c.replies {
		l = append(l, ownReply(r))
	}
	return l, !c.busy && c.call.Kind != api.CmNothing
}

func (c *Client) Chart() api.Chart {
	if !c.isMade() {
		return api.Chart{}
	}
	return ownChart(c.known)
}

func (c *Client) isMade() bool {
	return c != nil && c.Asker.isMade()
}

// mayBe tells whether a call is one that a client does.
func mayBe(call api.Call) bool {
	for _, n := range [...]int{call.Queue, call.Max, call.Secs} {
		if n < 0 || n > api.MaxTime {
			return false
		}
	}
	entries := len(call.Entries)
	switch call.Kind {
	case api.CmSend, api.CmDelete, api.CmChange, api.CmRedrive:
		return entries >= 1 && entries <= api.MaxBatch
	}
	return isOfShards(call.Kind) && entries == 0
}

// isOfShards tells whether a call goes from shard to shard; all others go from entry to entry.
func isOfShards(kind int) bool {
	return kind == api.CmReceive || kind == api.CmPurge
}

func (c *Client) askForChart() api.Packet {
	p := api.Packet{Kind: api.PkMap, From: -c.id, To: c.mapper}
	c.mapper = (c.mapper + 1) % c.nodes
	return p
}

// begin asks for the step. It has no error: the asker asks nothing, and whoever serves something is a group.
func (c *Client) begin() {
	cmd := api.Cmd{Kind: c.call.Kind, Queue: c.call.Queue, Max: c.call.Max, Secs: c.call.Secs, Attempt: c.call.Attempt}
	if isOfShards(c.call.Kind) {
		if len(c.replies) == 0 {
			c.shards = chart.Shards(c.known)
		}
		c.Ask(c.shards[len(c.replies)], cmd)
		return
	}
	entry := c.entry()
	cmd.Group, cmd.Body, cmd.Token, cmd.Receipt = entry.Group, entry.Body, entry.Token, entry.Receipt
	c.Ask(c.server(), cmd)
}

// entry is what the step of a call of entries is about.
func (c *Client) entry() api.Entry {
	return c.call.Entries[len(c.replies)]
}

// server is who serves the step's entry.
func (c *Client) server() int {
	name := c.entry().Group
	if c.call.Kind == api.CmDelete || c.call.Kind == api.CmChange {
		name = c.entry().Receipt.Group
	}
	return chart.Of(c.known, place.Of(name))
}

func (c *Client) hearChart(p api.Packet) {
	if !c.wants || p.To != -c.id || !chart.May(p.Chart) {
		return
	}
	if p.Chart.Epoch >= c.known.Epoch {
		c.known = ownChart(p.Chart)
	}
	c.wants = false
	if c.busy && c.Asker.Busy() && !isOfShards(c.call.Kind) {
		c.Turn(c.server())
	}
}

func (c *Client) hearReply(p api.Packet) {
	r, answered := c.Asker.Recv(p)
	if !answered || !c.busy {
		return
	}
	if r.Err == api.ErrMoved && !isOfShards(c.call.Kind) {
		// It asks still, but sends nothing until a chart came: Tick asks for that first.
		c.wants = true
		c.askAgain()
		return
	}
	c.replies = append(c.replies, r)
	c.busy = !c.isOver(r)
}

// isOver tells whether the call ends with the step that was answered last.
func (c *Client) isOver(last api.Reply) bool {
	switch {
	case !isOfShards(c.call.Kind):
		return len(c.replies) >= len(c.call.Entries)
	case c.call.Kind == api.CmReceive && len(last.Got) > 0:
		return true
	}
	return len(c.replies) >= len(c.shards)
}

func ownChart(c api.Chart) api.Chart {
	c.Pieces = slices.Clone(c.Pieces)
	return c
}
