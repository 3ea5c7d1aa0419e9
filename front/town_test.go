package front_test

import (
	"fmt"
	"math/rand/v2"
	"slices"
	"testing"

	"raceway/api"
	"raceway/front"
	"raceway/node"
)

// town is nodes, clients, somebody who moves ranges, and what is under way between them.
type town struct {
	t       *testing.T
	rng     *rand.Rand
	nodes   []*node.Node
	clients []*front.Client
	mover   *front.Asker
	now     int
	bag     []api.Packet
	move    []api.Cmd // what is left of a move
	moved   int
	groups  int
	sent    int          // messages, each of which has a body of its own
	firsts  []int        // by clients, the first number of the call that it does
	done    [][]api.Done // by groups: what was done, slot by slot
	// By clients and numbers, what was told of it.
	told map[[2]int]api.Reply
}

const (
	moverId      = 50 // behind all clients
	mostUnderWay = 300
)

// townQueues are one whose messages die behind two deliveries, and the one that takes these.
func townQueues() []api.Queue {
	return []api.Queue{{Vis: 30, Keep: 100000, Max: 2, Dead: 1}, {Vis: 30, Keep: 100000, Dead: -1}}
}

func newTown(t *testing.T, seed, nodes, shards, clients int) *town {
	t.Helper()
	w := &town{t: t, rng: rand.New(rand.NewPCG(uint64(seed), 18)), groups: shards + 2, told: map[[2]int]api.Reply{}}
	for id := range nodes {
		n, e := node.New(api.NodeConf{Id: id, Nodes: nodes, Shards: shards, Spare: 1, Timeout: 3, Per: 1024, Every: 20, Queues: townQueues()})
		wantError(t, "node.New", e, api.OK)
		w.nodes = append(w.nodes, n)
	}
	for id := 1; id <= clients; id++ {
		w.clients = append(w.clients, newClient(t, id, nodes, 4).c)
	}
	w.mover = newAsker(t, moverId, nodes, 4).a
	w.firsts, w.done = make([]int, clients), make([][]api.Done, w.groups)
	return w
}

// look takes down what a node has done that nobody had done ahead.
func (w *town) look(id int) {
	w.t.Helper()
	for g := range w.done {
		for _, d := range w.nodes[id].Done(g, len(w.done[g])) {
			if d.Slot != len(w.done[g]) {
				w.t.Fatalf("group %d: slot %d behind %d", g, d.Slot, len(w.done[g])-1)
			}
			w.done[g] = append(w.done[g], copyOf(d))
		}
	}
}

func (w *town) tickNode(id int) {
	w.t.Helper()
	w.bag = append(w.bag, w.nodes[id].Tick()...)
	w.look(id)
}

func (w *town) deliver(p api.Packet) {
	w.t.Helper()
	switch {
	case p.To == -moverId:
		w.hearMove(p)
	case p.To < 0:
		c := w.clients[-p.To-1]
		wasBusy := c.Busy()
		if l := c.Recv(p); len(l) > 0 {
			w.t.Fatalf("a client answers %s at once", brief(l))
		}
		if wasBusy && !c.Busy() {
			w.takeDown(-p.To)
		}
	default:
		w.bag = append(w.bag, w.nodes[p.To].Recv(p, w.now)...)
		w.look(p.To)
	}
}

// takeDown keeps what came of a call that has ended.
func (w *town) takeDown(client int) {
	w.t.Helper()
	l, ended := w.clients[client-1].Result()
	if !ended || w.clients[client-1].Num() != w.firsts[client-1]+len(l)-1 {
		w.t.Fatalf("client %d, numbers from %d to %d: %d replies", client, w.firsts[client-1], w.clients[client-1].Num(), len(l))
	}
	for i, r := range l {
		w.told[[2]int{client, w.firsts[client-1] + i}] = copyOf(r)
	}
}

// begin lets the mover take a range from a shard to another one.
func (w *town) begin(r api.Range, from, to int) {
	w.t.Helper()
	w.move = []api.Cmd{{Kind: api.CmImport, Range: r, To: to}, {Kind: api.CmChart, Range: r, To: to}}
	wantError(w.t, "a move", w.mover.Ask(from, api.Cmd{Kind: api.CmFreeze, Range: r}), api.OK)
}

func (w *town) hearMove(p api.Packet) {
	w.t.Helper()
	r, answered := w.mover.Recv(p)
	if !answered {
		return
	}
	// What is not served there can't be frozen.
	if r.Err != api.OK || len(w.move) == 0 {
		if r.Err != api.OK && len(w.move) < 2 {
			w.t.Errorf("a move: error %d", int(r.Err))
		}
		w.move = nil
		return
	}
	cmd := w.move[0]
	w.move = w.move[1:]
	group := 0
	if cmd.Kind == api.CmImport {
		cmd.Data, group = r.Data, cmd.To
		w.moved++
	}
	wantError(w.t, "a move", w.mover.Ask(group, cmd), api.OK)
}

// round lets all tick, and delivers all.
func (w *town) round() {
	w.t.Helper()
	for id := range w.nodes {
		w.tickNode(id)
	}
	for _, c := range w.clients {
		w.bag = append(w.bag, c.Tick()...)
	}
	w.bag = append(w.bag, w.mover.Tick()...)
	for n := 0; len(w.bag) > 0; n++ {
		if n > 100000 {
			w.t.Fatal("it does not end")
		}
		p := w.bag[0]
		w.bag = w.bag[1:]
		w.deliver(p)
	}
}

// settle goes through rounds until nobody does anything.
func (w *town) settle() {
	w.t.Helper()
	for range 300 {
		w.round()
		if !w.mover.Busy() && !slices.ContainsFunc(w.clients, (*front.Client).Busy) {
			return
		}
	}
	w.t.Fatal("a call does not end")
}

// start lets a client start a call.
func (w *town) start(client int, call api.Call) {
	w.t.Helper()
	c := w.clients[client-1]
	w.firsts[client-1] = 1 + c.Num()
	wantError(w.t, "Start", c.Start(call), api.OK)
}

// do lets the first client do a call.
func (w *town) do(call api.Call) []api.Reply {
	w.t.Helper()
	w.start(1, call)
	w.settle()
	l, _ := w.clients[0].Result()
	return l
}

// wantDone lets the first client do a call, whose replies' errors, numbers and counts are told.
func (w *town) wantDone(name string, call api.Call, should ...api.Reply) []api.Reply {
	w.t.Helper()
	got := w.do(call)
	plain := copyOf(got)
	for i := range plain {
		plain[i].Got, plain[i].About, plain[i].Data = nil, nil, nil
	}
	want(w.t, name, plain, should)
	return got
}

// receive lets the first client receive, until a receive has nothing: what was delivered, rising by groups.
func (w *town) receive(queue, secs int) []api.Got {
	w.t.Helper()
	var got []api.Got
	for {
		l := w.do(api.Call{Kind: api.CmReceive, Queue: queue, Max: 10, Secs: secs})
		last := l[len(l)-1]
		if len(last.Got) == 0 {
			break
		}
		got = append(got, last.Got...)
	}
	// Which shard is asked first hangs on the chart; a group's order does not.
	slices.SortStableFunc(got, func(a, b api.Got) int { return placeOf(a.Receipt.Group) - placeOf(b.Receipt.Group) })
	return got
}

func bodiesOf(l []api.Got) string {
	s := ""
	for _, g := range l {
		s += fmt.Sprint(g.Receipt.Count, " ", g.Body, ";")
	}
	return s
}

func wantBodies(t *testing.T, name string, l []api.Got, should string) {
	t.Helper()
	if s := bodiesOf(l); s != should {
		t.Errorf("%s: %s, not %s", name, s, should)
	}
}

// ofReceipts is a call about deliveries.
func ofReceipts(kind, secs int, l ...api.Got) api.Call {
	c := api.Call{Kind: kind, Secs: secs}
	for _, g := range l {
		c.Entries = append(c.Entries, api.Entry{Receipt: g.Receipt})
	}
	return c
}

// letters is a call that sends to groups; bodies tell the how manieth message it is.
func (w *town) letters(names ...string) api.Call {
	c := send(names...)
	for i := range c.Entries {
		w.sent++
		c.Entries[i].Body = fmt.Sprint("m", w.sent)
	}
	return c
}

// P18.5 to P18.7: all kinds of calls, with one node and three, shards from one to three, and a range that has moved.
func TestCalls(t *testing.T) {
	for _, nodes := range []int{1, 3} {
		for shards := 1; shards <= 3; shards++ {
			callAll(newTown(t, 1, nodes, shards, 1), shards)
		}
	}
}

func callAll(w *town, shards int) {
	t := w.t
	w.wantDone("a send", w.letters(lowName), api.Reply{Seq: 1})
	w.wantDone("a send of several", w.letters(lowName, midName, highName, lowName, ""), api.Reply{Seq: 2}, api.Reply{Seq: 1}, api.Reply{Seq: 1}, api.Reply{Seq: 3}, api.Reply{Err: api.ErrArg})
	first := w.receive(0, 30)
	wantBodies(t, "the first receive", first, "1 m1;1 m2;1 m5;1 m3;1 m4;")
	w.wantDone("a delete", ofReceipts(api.CmDelete, 0, first[0]), api.Reply{})
	w.wantDone("a delete of several", ofReceipts(api.CmDelete, 0, first[4], first[1]), api.Reply{}, api.Reply{})
	w.wantDone("a change", ofReceipts(api.CmChange, 0, first[3]), api.Reply{})
	second := w.receive(0, 30)
	wantBodies(t, "the second receive", second, "2 m3;")
	w.begin(from(0, 2000), 1, shards+1)
	w.settle()
	w.wantDone("a change of several", ofReceipts(api.CmChange, 0, first[2], second[0]), api.Reply{}, api.Reply{})
	wantBodies(t, "the third receive", w.receive(0, 0), "2 m5;")
	redrive := api.Call{Kind: api.CmRedrive, Queue: 1, Max: 10, Entries: []api.Entry{{Group: lowName}, {Group: midName}, {Group: highName}}}
	w.wantDone("a redrive of several", redrive, api.Reply{N: 1}, api.Reply{N: 1}, api.Reply{})
	wantBodies(t, "the fourth receive", w.receive(0, 30), "1 m5;1 m3;")
	redrive.Entries = redrive.Entries[:1]
	w.wantDone("a redrive", redrive, api.Reply{})
	purged, n := w.do(api.Call{Kind: api.CmPurge}), 0
	for _, r := range purged {
		n += r.N
	}
	// Who was served last has come to the shards.
	all := shardsOf(w.clients[0].Chart())
	if n != 2 || len(purged) != shards+1 || len(all) != shards+1 || w.clients[0].Chart().Epoch != 2 {
		t.Errorf("%d shards: %d were purged by %s, and it knows shards %d", shards, n, brief(purged), all)
	}
	w.check()
}

// step lets anything happen.
func (w *town) step(lose, crash int) {
	w.t.Helper()
	rng := w.rng
	switch n := rng.IntN(100); {
	case n < 5:
		w.tickNode(rng.IntN(len(w.nodes)))
	case n < 15:
		c := w.clients[rng.IntN(len(w.clients))]
		w.bag = append(w.bag, c.Tick()...)
	case n < 18:
		w.bag = append(w.bag, w.mover.Tick()...)
	case n < 20:
		w.now += rng.IntN(20)
	case n < 20+crash:
		id := rng.IntN(len(w.nodes))
		if w.nodes[id].Down() {
			w.nodes[id].Restart()
		} else {
			w.nodes[id].Crash(rng.IntN(60)-1, rng.IntN(200)-20)
		}
	case n < 28:
		w.startSome()
	case len(w.bag) > 0:
		// Of too many the oldest ones are lost.
		w.bag = w.bag[max(0, len(w.bag)-mostUnderWay):]
		at := rng.IntN(min(len(w.bag), 12))
		p := w.bag[at]
		switch rng.IntN(100 / lose) {
		case 0:
			w.bag = slices.Delete(w.bag, at, at+1)
		case 1:
			w.bag = append(w.bag, p)
		default:
			w.bag = slices.Delete(w.bag, at, at+1)
			w.deliver(p)
		}
	}
}

// startSome lets somebody who does nothing begin something.
func (w *town) startSome() {
	w.t.Helper()
	rng := w.rng
	if rng.IntN(4) == 0 && !w.mover.Busy() {
		lo := rng.IntN(span - 1)
		from1, to := 1+rng.IntN(w.groups-1), 1+rng.IntN(w.groups-1)
		if from1 != to {
			w.begin(from(lo, lo+1+rng.IntN(min(span-lo, 20000))), from1, to)
		}
		return
	}
	id := 1 + rng.IntN(len(w.clients))
	c := w.clients[id-1]
	if c.Busy() {
		return
	}
	l, _ := c.Result()
	var got []api.Got
	for _, r := range l {
		got = append(got, r.Got...)
	}
	switch {
	case len(got) > 0:
		w.start(id, ofReceipts(pick(rng, api.CmDelete, api.CmDelete, api.CmChange), 0, got...))
	case rng.IntN(2) == 0:
		w.start(id, api.Call{Kind: api.CmReceive, Queue: rng.IntN(2), Max: 1 + rng.IntN(4), Secs: 5})
	case rng.IntN(12) == 0:
		w.start(id, api.Call{Kind: api.CmPurge, Queue: rng.IntN(2)})
	case rng.IntN(6) == 0:
		w.start(id, api.Call{Kind: api.CmRedrive, Queue: 1, Max: 3, Entries: []api.Entry{{Group: someName(rng)}, {Group: someName(rng)}}})
	default:
		var names []string
		for range 1 + rng.IntN(4) {
			names = append(names, someName(rng))
		}
		w.start(id, w.letters(names...))
	}
}

func someName(rng *rand.Rand) string { return fmt.Sprint("name ", rng.IntN(9)) }

// check holds what clients were told against what was done: each number once, and just so.
func (w *town) check() {
	w.t.Helper()
	once := map[[2]int]api.Reply{}
	cmds := map[[2]int]api.Cmd{}
	for g := 1; g < len(w.done); g++ {
		for _, d := range w.done[g] {
			key := [2]int{d.Cmd.Client, d.Cmd.Num}
			if key[0] < 1 || key[0] > len(w.clients) {
				continue
			}
			// When it is the leader says.
			cmd := copyOf(d.Cmd)
			cmd.Time = 0
			if old, has := cmds[key]; has && !same(old, cmd) {
				w.t.Errorf("client %d, number %d: %s, and\n%s", key[0], key[1], brief(old), brief(cmd))
			}
			cmds[key] = cmd
			if !d.Fresh || d.Reply.Err == api.ErrMoved {
				continue
			}
			if _, has := once[key]; has {
				w.t.Errorf("group %d: client %d, number %d is done once more", g, key[0], key[1])
			}
			once[key] = d.Reply
		}
	}
	for key, r := range w.told {
		if d, has := once[key]; has != (r.Err != api.ErrMoved) || has && !same(d, r) {
			w.t.Errorf("client %d, number %d was told %s; done was %s", key[0], key[1], brief(r), brief(d))
		}
	}
}

// P18.6 to P18.8: whatever is delivered, lost and doubled, whoever crashes, and whatever moves: each call ends, and tells what was done, once.
func TestTown(t *testing.T) {
	calls, moves := 0, 0
	const runs = 60
	for seed := range runs {
		w := newTown(t, seed, []int{1, 3, 3, 5}[seed%4], 1+seed%3, 3)
		crash := []int{0, 0, 1}[seed%3]
		for range 6000 {
			w.step(1+seed%10, crash)
			if t.Failed() {
				t.Fatal("seed ", seed)
			}
		}
		for _, n := range w.nodes {
			n.Restart()
		}
		w.settle()
		if w.check(); t.Failed() {
			t.Fatal("seed ", seed)
		}
		calls += len(w.told)
		moves += w.moved
	}
	if calls < 40*runs || moves < 2*runs {
		t.Errorf("%d answers, %d moves", calls, moves)
	}
	t.Log(calls, " answers, ", moves, " moves")
}
