package control_test

import (
	"fmt"
	"math/rand/v2"
	"slices"
	"testing"

	"raceway/api"
	"raceway/control"
	"raceway/front"
	"raceway/node"
	"raceway/place"
)

// town is nodes, clients, a control, and what is under way between them.
type town struct {
	t       *testing.T
	rng     *rand.Rand
	nodes   []*node.Node
	clients []*front.Client
	control *control.Control
	now     int
	bag     []api.Packet
	groups  int
	chart   api.Chart        // by the moves that ended well
	moving  api.Piece        // what moves, to whom
	source  int              // who has it
	acked   map[string][]int // by names, the numbers of the messages whose sends were answered
	ended   map[api.Errno]int
	crowded bool // there are more clients than two shards together can know
}

func newTown(t *testing.T, seed, nodes, shards, clients int) *town {
	t.Helper()
	w := &town{t: t, rng: rand.New(rand.NewPCG(uint64(seed), 191)), groups: shards + 2, acked: map[string][]int{}, ended: map[api.Errno]int{}}
	for id := range nodes {
		n, e := node.New(api.NodeConf{Id: id, Nodes: nodes, Shards: shards, Spare: 1, Timeout: 3, Per: 1024, Every: 20, Queues: []api.Queue{{Vis: 30, Keep: 100000, Dead: -1}}})
		wantError(t, "node.New", e, api.OK)
		w.nodes = append(w.nodes, n)
	}
	for id := 1; id <= clients; id++ {
		c, e := front.New(id, nodes, 4)
		wantError(t, "front.New", e, api.OK)
		w.clients = append(w.clients, c)
	}
	w.control = newControl(t, clients+1, nodes, 4).c
	w.chart = w.nodes[0].Chart()
	return w
}

func (w *town) deliver(p api.Packet) {
	w.t.Helper()
	switch {
	case p.To >= 0:
		w.bag = append(w.bag, w.nodes[p.To].Recv(p, w.now)...)
	case -p.To <= len(w.clients):
		w.tell(-p.To, p)
	default:
		was := w.control.Stage()
		wantError(w.t, "Recv", w.control.Recv(p), api.OK)
		if was != none && w.control.Stage() == none {
			w.end()
		}
	}
}

// tell lets a client be told something, and notes what it has sent.
func (w *town) tell(client int, p api.Packet) {
	w.t.Helper()
	c := w.clients[client-1]
	was := c.Busy()
	c.Recv(p)
	if l, ended := c.Result(); was && ended {
		name := fmt.Sprint("name ", client)
		if l[0].Err == api.OK {
			w.acked[name] = append(w.acked[name], l[0].Seq)
		} else if l[0].Err != api.ErrFull {
			w.t.Errorf("a send: error %d", int(l[0].Err))
		}
	}
}

// begin lets the control move something.
func (w *town) begin(r api.Range, a, b int) {
	w.t.Helper()
	wantError(w.t, "Start", w.control.Start(r, a, b), api.OK)
	w.moving, w.source = api.Piece{Range: r, Shard: b}, a
}

// end holds what a move ended with against who served what it was about.
func (w *town) end() {
	w.t.Helper()
	e, ended := w.control.Result()
	w.ended[e]++
	r, isServed := w.moving.Range, true
	for _, p := range w.chart.Pieces {
		if place.Meet(p.Range, r) != (api.Range{}) && p.Shard != w.source {
			isServed = false
		}
	}
	if !ended || (isServed && !w.crowded) != (e == api.OK) {
		w.t.Errorf("the move of %v from %d to %d ended %v, %d, with the chart %v", r, w.source, w.moving.Shard, ended, int(e), w.chart)
	}
	if e == api.OK {
		w.chart = w.moved()
	}
}

// moved is the chart behind a move, piece by piece, whether they touch or not.
func (w *town) moved() api.Chart {
	next := api.Chart{Epoch: w.chart.Epoch + 1}
	for _, p := range w.chart.Pieces {
		for _, r := range place.Cut([]api.Range{p.Range}, w.moving.Range) {
			next.Pieces = append(next.Pieces, api.Piece{Range: r, Shard: p.Shard})
		}
	}
	next.Pieces = append(next.Pieces, w.moving)
	return next
}

// send lets a client who does nothing send a message to its group.
func (w *town) send(client int) {
	w.t.Helper()
	c := w.clients[client-1]
	if c.Busy() {
		return
	}
	name := fmt.Sprint("name ", client)
	call := api.Call{Kind: api.CmSend, Entries: []api.Entry{{Group: name, Body: fmt.Sprint(c.Num())}}}
	wantError(w.t, "a send", c.Start(call), api.OK)
}

// round lets all tick, and delivers all.
func (w *town) round() {
	w.t.Helper()
	for _, n := range w.nodes {
		w.bag = append(w.bag, n.Tick()...)
	}
	for _, c := range w.clients {
		w.bag = append(w.bag, c.Tick()...)
	}
	w.bag = append(w.bag, w.control.Tick()...)
	for n := 0; len(w.bag) > 0; n++ {
		if n > 100000 {
			w.t.Fatal("it does not end")
		}
		p := w.bag[0]
		w.bag = w.bag[1:]
		w.deliver(p)
	}
}

// settle goes through rounds until nobody does anything, and all nodes know the same.
func (w *town) settle() {
	w.t.Helper()
	for range 300 {
		w.round()
		if w.control.Stage() == none && !slices.ContainsFunc(w.clients, (*front.Client).Busy) {
			for range 4 {
				w.round()
			}
			return
		}
	}
	w.t.Fatal("it does not settle")
}

// shardOf is who serves a place by the moves that ended well.
func (w *town) shardOf(at int) int {
	for _, p := range w.chart.Pieces {
		if place.In(p.Range, at) {
			return p.Shard
		}
	}
	return 0
}

// check holds each node's shards and chart against the moves that ended, and its messages against what was answered.
func (w *town) check() {
	w.t.Helper()
	for id, n := range w.nodes {
		var all []api.Range
		kept := map[string][]int{}
		for g := 1; g < w.groups; g++ {
			x := n.Shard(g).Engine()
			all = append(all, x.Served()...)
			for _, name := range x.Groups(0) {
				if w.shardOf(place.Of(name)) != g {
					w.t.Errorf("node %d: shard %d has %q", id, g, name)
				}
				group, _ := x.Group(0, name)
				for _, k := range group.Kept {
					kept[name] = append(kept[name], k.Seq)
				}
			}
			for _, r := range x.Served() {
				if w.shardOf(r.Lo) != g || w.shardOf(r.Hi-1) != g {
					w.t.Errorf("node %d: shard %d serves %v, with the chart %v", id, g, r, w.chart)
				}
			}
		}
		if !place.Covers(all) {
			w.t.Errorf("node %d: all shards serve %v", id, all)
		}
		for name, l := range w.acked {
			if !same(kept[name], l) {
				w.t.Errorf("node %d: of %q it keeps %d, not %d", id, name, kept[name], l)
			}
		}
		for _, p := range n.Chart().Pieces {
			if w.shardOf(p.Range.Lo) != p.Shard || w.shardOf(p.Range.Hi-1) != p.Shard {
				w.t.Errorf("node %d: the chart %v, not %v", id, n.Chart(), w.chart)
			}
		}
	}
}

// move lets a range be moved, with nothing lost.
func (w *town) move(r api.Range, a, b int, should api.Errno) {
	w.t.Helper()
	w.begin(r, a, b)
	w.settle()
	if e, ended := w.control.Result(); e != should || !ended {
		w.t.Errorf("the move of %v from %d to %d: %d, %v", r, a, b, int(e), ended)
	}
}

// P19.2: a range goes there and back, with its messages; what is not served there can't be moved.
func TestThereAndBack(t *testing.T) {
	for _, nodes := range []int{1, 3} {
		w := newTown(t, 1, nodes, 2, 6)
		for client := range w.clients {
			w.send(1 + client)
		}
		w.settle()
		all := from(0, span)
		low := from(0, span/2)
		w.move(all, 1, 2, api.ErrArg)
		w.check()
		w.move(low, 1, 3, api.OK)
		w.check()
		w.move(low, 1, 2, api.ErrArg)
		w.move(from(100, 20000), 3, 2, api.OK)
		w.check()
		w.move(from(100, 20000), 2, 3, api.OK)
		for client := range w.clients {
			w.send(1 + client)
		}
		w.settle()
		w.move(low, 3, 1, api.OK)
		w.check()
		if w.nodes[0].Chart().Epoch != 5 || len(w.nodes[0].Chart().Pieces) != 2 {
			t.Errorf("it ends with the chart %v", w.nodes[0].Chart())
		}
	}
}

// P19.2: a shard that can't take what moves, since both together know too many clients: it is brought back to whom it came from.
func TestBroughtBack(t *testing.T) {
	const clients = 90
	w := newTown(t, 2, 1, 2, clients)
	w.crowded = true
	for client := range w.clients {
		w.send(1 + client)
	}
	w.settle()
	r := from(0, span/2)
	w.begin(r, 1, 2)
	var stages []int
	for w.control.Stage() != none && len(stages) < 50 {
		stages = append(stages, w.control.Stage())
		w.bag = append(w.bag, w.control.Tick()...)
		for range 2 {
			w.deliverOne()
		}
	}
	if e, ended := w.control.Result(); e != api.ErrArg || !ended || !same(stages, []int{freeze, bring, bringBack}) {
		t.Errorf("it ends with %d, %v, by the stages %d", int(e), ended, stages)
	}
	w.settle()
	if l := w.nodes[0].Shard(1).Engine().Served(); !same(l, []api.Range{r}) {
		t.Errorf("shard 1 serves %v", l)
	}
	w.check()
	w.crowded = false
	w.move(r, 1, 3, api.OK)
	w.check()
}

// deliverOne delivers what was sent first.
func (w *town) deliverOne() {
	w.t.Helper()
	if len(w.bag) > 0 {
		p := w.bag[0]
		w.bag = w.bag[1:]
		w.deliver(p)
	}
}

// step lets anything happen.
func (w *town) step(lose int) {
	w.t.Helper()
	rng := w.rng
	switch n := rng.IntN(100); {
	case n < 8:
		w.bag = append(w.bag, w.nodes[rng.IntN(len(w.nodes))].Tick()...)
	case n < 16:
		w.bag = append(w.bag, w.clients[rng.IntN(len(w.clients))].Tick()...)
	case n < 20:
		w.bag = append(w.bag, w.control.Tick()...)
	case n < 22:
		w.now += rng.IntN(9)
	case n < 25:
		w.send(1 + rng.IntN(len(w.clients)))
	case n < 26:
		w.beginSome()
	case n < 27 && lose > 3:
		w.crashSome()
	case len(w.bag) > 0:
		// Of too many the oldest ones are lost.
		w.bag = w.bag[max(0, len(w.bag)-300):]
		at := rng.IntN(min(len(w.bag), 12))
		p := w.bag[at]
		if rng.IntN(20) < lose {
			w.bag = append(w.bag, p)
		}
		w.bag = slices.Delete(w.bag, at, at+1)
		if rng.IntN(20) >= lose {
			w.deliver(p)
		}
	}
}

// beginSome lets the control move something, if it does nothing: often what one shard serves, sometimes what may not be moved.
func (w *town) beginSome() {
	w.t.Helper()
	if w.control.Stage() != none {
		return
	}
	p := w.chart.Pieces[w.rng.IntN(len(w.chart.Pieces))]
	r, a, b := p.Range, p.Shard, 1+w.rng.IntN(w.groups-1)
	if w.rng.IntN(2) == 0 {
		r.Lo += w.rng.IntN(r.Hi - r.Lo)
	}
	if w.rng.IntN(5) == 0 {
		r, a = someRange(w.rng), 1+w.rng.IntN(w.groups-1)
	}
	if place.May(r) && a != b {
		w.begin(r, a, b)
	}
}

func (w *town) crashSome() {
	n := w.nodes[w.rng.IntN(len(w.nodes))]
	if n.Down() {
		n.Restart()
		return
	}
	n.Crash(w.rng.IntN(60)-1, w.rng.IntN(200)-20)
}

// P19.2, P19.4: whatever is lost and doubled, and whoever crashes: each move ends, at whatever stage it was; each place is served once, and no message is lost.
func TestTown(t *testing.T) {
	ended := map[api.Errno]int{}
	for seed := range 120 {
		w := newTown(t, seed, []int{1, 3, 3, 5}[seed%4], 1+seed%3, 4)
		for range 5000 {
			w.step(seed % 7)
			if t.Failed() {
				t.Fatal("seed ", seed)
			}
		}
		for _, n := range w.nodes {
			n.Restart()
		}
		w.settle()
		if w.check(); t.Failed() {
			t.Fatal("seed ", seed)
		}
		for e, n := range w.ended {
			ended[e] += n
		}
	}
	if ended[api.OK] < 500 || ended[api.ErrArg] < 100 {
		t.Errorf("moves by errors: %v", ended)
	}
	t.Log("moves by errors: ", ended)
}
