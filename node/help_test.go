package node_test

import (
	"fmt"
	"reflect"
	"strconv"
	"testing"

	"raceway/api"
	"raceway/node"
	"raceway/place"
	"raceway/wire"
)

// The document's limits, apart from the packages that are tested.
const (
	span      = 65536
	maxTime   = 1 << 40
	maxSlot   = 1 << 30
	maxShards = 6
	nobody    = -1
	minInt    = -1 << 63
	maxInt    = 1<<63 - 1
)

func from(lo, hi int) api.Range { return api.Range{Lo: lo, Hi: hi} }

// queues are one whose messages die behind three deliveries, and the one that takes these.
func queues() []api.Queue {
	return []api.Queue{{Vis: 30, Keep: 100000, Max: 3, Dead: 1}, {Vis: 10, Keep: 100000, Dead: -1}}
}

// confOf is a node of two shards and a spare one that writes nothing down.
func confOf(id, nodes int) api.NodeConf {
	return api.NodeConf{Id: id, Nodes: nodes, Shards: 2, Spare: 1, Timeout: 1, Per: 64, Queues: queues()}
}

// groupsOf is how many groups such a node has.
func groupsOf(c api.NodeConf) int { return 1 + c.Shards + c.Spare }

// nameIn is a group's name whose place lies in a range.
func nameIn(r api.Range) string {
	for i := 0; ; i++ {
		if name := fmt.Sprint(i, "-g"); place.In(r, place.Of(name)) {
			return name
		}
	}
}

// Names that the two shards of confOf serve.
var lowName, highName = nameIn(from(0, span/2)), nameIn(from(span/2, span))

// send is a command whose body tells who sent it.
func send(client, num int, name string) api.Cmd {
	return api.Cmd{Kind: api.CmSend, Client: client, Num: num, Group: name, Body: fmt.Sprint(client, "-", num)}
}

func valueOf(c api.Cmd) []byte {
	b, e := wire.Cmd(c)
	if e != api.OK {
		panic(fmt.Sprint("no such command: ", int(e)))
	}
	return b
}

// same tells whether two values are the same, part by part; a list without an element is the same, nil or empty.
func same[T any](a, b T) bool {
	return sameValue(reflect.ValueOf(&a).Elem(), reflect.ValueOf(&b).Elem())
}

func sameValue(a, b reflect.Value) bool {
	switch a.Kind() {
	case reflect.Slice:
		if a.Len() != b.Len() {
			return false
		}
		for i := range a.Len() {
			if !sameValue(a.Index(i), b.Index(i)) {
				return false
			}
		}
		return true
	case reflect.Struct:
		for i := range a.NumField() {
			if !sameValue(a.Field(i), b.Field(i)) {
				return false
			}
		}
		return true
	}
	return a.Equal(b)
}

// behind is how much memory, all zero, lies behind each list of a copy.
const behind = 2

// copyOf has all lists anew.
func copyOf[T any](x T) T {
	copyLists(reflect.ValueOf(&x).Elem())
	return x
}

func copyLists(v reflect.Value) {
	switch v.Kind() {
	case reflect.Slice:
		l := reflect.MakeSlice(v.Type(), v.Len(), v.Len()+behind)
		reflect.Copy(l, v)
		v.Set(l)
		for i := range v.Len() {
			copyLists(v.Index(i))
		}
	case reflect.Struct:
		for i := range v.NumField() {
			copyLists(v.Field(i))
		}
	}
}

// isClean tells whether the memory behind each list of a copy is as copyOf made it.
func isClean(v reflect.Value) bool {
	switch v.Kind() {
	case reflect.Slice:
		for i, all := v.Len(), v.Slice(0, v.Cap()); i < v.Cap(); i++ {
			if !all.Index(i).IsZero() {
				return false
			}
		}
		for i := range v.Len() {
			if !isClean(v.Index(i)) {
				return false
			}
		}
	case reflect.Struct:
		for i := range v.NumField() {
			if !isClean(v.Field(i)) {
				return false
			}
		}
	}
	return true
}

// spoil writes over all the memory that a value's lists have.
func spoil[T any](x T) { spoilLists(reflect.ValueOf(&x).Elem()) }

func spoilLists(v reflect.Value) {
	switch v.Kind() {
	case reflect.Slice:
		all := v.Slice(0, v.Cap())
		for i := range all.Len() {
			spoilLists(all.Index(i))
			spoilThing(all.Index(i))
		}
	case reflect.Struct:
		for i := range v.NumField() {
			spoilLists(v.Field(i))
		}
	}
}

func spoilThing(v reflect.Value) {
	switch v.Kind() {
	case reflect.Uint8:
		v.SetUint(0xee)
	case reflect.String:
		v.SetString("spoiled")
	default:
		v.SetZero()
	}
}

// brief tells something in one line, whatever it has in it.
func brief(x any) string {
	s := strconv.QuoteToASCII(fmt.Sprintf("%+v", x))
	return s[:min(len(s), 1500)]
}

func wantError(t *testing.T, name string, got, want api.Errno) {
	t.Helper()
	if got != want {
		t.Errorf("%s: error %d, not %d", name, int(got), int(want))
	}
}

// want holds what is told against what should be.
func want[T any](t *testing.T, name string, got, should T) {
	t.Helper()
	if !same(got, should) {
		t.Errorf("%s: it tells\n%s, not\n%s", name, brief(got), brief(should))
	}
}

func wantPackets(t *testing.T, name string, got []api.Packet, should ...api.Packet) {
	t.Helper()
	want(t, name, got, should)
}

// newNode makes a node, and writes over what it was made of then.
func newNode(t *testing.T, c api.NodeConf) *node.Node {
	t.Helper()
	handed := copyOf(c)
	n, e := node.New(handed)
	if e != api.OK || n == nil {
		t.Fatalf("New(%+v): error %d", c, int(e))
	}
	if !same(handed, c) || !isClean(reflect.ValueOf(handed)) {
		t.Fatalf("New(%+v) has changed what was handed in", c)
	}
	spoil(handed)
	return n
}

// recv hands a packet in, and writes over it then: what is told is nobody else's memory.
func recv(t *testing.T, n *node.Node, p api.Packet, now int) []api.Packet {
	t.Helper()
	handed := copyOf(p)
	told := n.Recv(handed, now)
	if !same(handed, p) || !isClean(reflect.ValueOf(handed)) {
		t.Fatalf("Recv has changed what was handed in: %s", brief(p))
	}
	spoil(handed)
	return takeOver(told)
}

func tick(n *node.Node) []api.Packet { return takeOver(n.Tick()) }

// takeOver gives what was told in memory of its own, and writes over all that the node handed out.
func takeOver(told []api.Packet) []api.Packet {
	own := copyOf(told)
	spoil(told)
	return own
}

// ofGroup is all that a node tells of a group.
type ofGroup struct {
	leads                              bool
	done                               []api.Done
	dump                               []string
	role, ballot, leader, prefix, base int
	chosen                             [][]byte
	promised, slots, records           int
	disk                               []byte
	diskDown                           bool
}

// picture is all that a node tells of itself; who waits is not told.
type picture struct {
	down   bool
	chart  api.Chart
	groups []ofGroup
}

func pictureOf(n *node.Node) picture {
	p := picture{down: n.Down(), chart: n.Chart()}
	for g := 0; n.Replica(g) != nil; g++ {
		r, d := n.Replica(g), n.Disk(g)
		one := ofGroup{
			leads: n.Leads(g), done: n.Done(g, 0), dump: dumpOf(n, g),
			role: r.Role(), ballot: r.Ballot(), leader: r.Leader(), prefix: r.Prefix(), base: r.Base(), chosen: r.Chosen(r.Base()),
			promised: r.Store().Promised(), slots: r.Store().Slots(), records: r.Store().Log().Len(),
			disk: d.Kept(), diskDown: d.Down(),
		}
		p.groups = append(p.groups, one)
	}
	return p
}

// dumpOf is what a node tells who pulls: nothing, if its machine has applied nothing.
func dumpOf(n *node.Node, g int) []string {
	for id := range 5 {
		for _, p := range n.Recv(api.Packet{Kind: api.PkPull, From: 1, To: id, Group: g}, 0) {
			return p.Data
		}
	}
	return nil
}

// cluster is nodes, and what goes between them and clients.
type cluster struct {
	t     *testing.T
	nodes []*node.Node
	now   int
	off   int // a node that is cut off
	told  []api.Packet
}

// clusterOf is nodes of confOf, each of which may be made otherwise.
func clusterOf(t *testing.T, nodes int, change func(*api.NodeConf)) *cluster {
	t.Helper()
	c := &cluster{t: t, off: nobody}
	for id := range nodes {
		conf := confOf(id, nodes)
		change(&conf)
		c.nodes = append(c.nodes, newNode(t, conf))
	}
	return c
}

func asItIs(*api.NodeConf) {}

// run delivers packets, and what comes of them, one behind the other; it tells what came to clients.
func (c *cluster) run(l ...api.Packet) []api.Packet {
	c.t.Helper()
	c.told = nil
	for n := 0; len(l) > 0; n++ {
		if n > 100000 {
			c.t.Fatal("it does not end")
		}
		p := l[0]
		l = l[1:]
		switch {
		case p.To < 0:
			c.told = append(c.told, p)
		case p.To != c.off && (p.From < 0 || p.From != c.off):
			l = append(l, recv(c.t, c.nodes[p.To], p, c.now)...)
		}
	}
	return c.told
}

// tick lets a node tick, and delivers what comes of it.
func (c *cluster) tick(id int) []api.Packet {
	c.t.Helper()
	return c.run(tick(c.nodes[id])...)
}

// elect lets a node tick until it leads all groups, and all others know.
func (c *cluster) elect(id int) {
	c.t.Helper()
	for range 20 {
		c.tick(id)
		leads := true
		for g := 0; c.nodes[id].Replica(g) != nil; g++ {
			leads = leads && c.nodes[id].Leads(g)
		}
		if leads {
			c.tick(id)
			return
		}
	}
	c.t.Fatalf("node %d does not lead", id)
}

// elected is nodes of which the first one leads all groups.
func elected(t *testing.T, nodes int, change func(*api.NodeConf)) *cluster {
	t.Helper()
	c := clusterOf(t, nodes, change)
	c.elect(0)
	return c
}

func askOf(to, group int, cmd api.Cmd) api.Packet {
	return api.Packet{Kind: api.PkAsk, From: -cmd.Client, To: to, Group: group, Cmd: cmd}
}

// answer is the packet by which a client is answered.
func answer(node, group, client, num int, r api.Reply) api.Packet {
	return api.Packet{Kind: api.PkReply, From: node, To: -client, Group: group, Cmd: api.Cmd{Client: client, Num: num}, Reply: r}
}

// ask lets a client ask the first node, which answers it once: the reply.
func (c *cluster) ask(group int, cmd api.Cmd) api.Reply {
	c.t.Helper()
	told := c.run(askOf(0, group, cmd))
	if len(told) != 1 {
		c.t.Fatalf("%s: it is answered %d times: %s", brief(cmd), len(told), brief(told))
	}
	wantPackets(c.t, brief(cmd), told, answer(0, group, cmd.Client, cmd.Num, told[0].Reply))
	return told[0].Reply
}

// sendSome lets client 9 send so many messages, by numbers from 1 on, to groups that shard 1 serves.
func (c *cluster) sendSome(first, n int) {
	c.t.Helper()
	for i := range n {
		cmd := send(9, first+i, lowName)
		// A group keeps no more than twelve, and remembers forty tokens.
		cmd.Queue, cmd.Token = 1, "t"
		if r := c.ask(1, cmd); r.Err != api.OK {
			c.t.Fatalf("send %d: error %d", first+i, int(r.Err))
		}
	}
}
