package front_test

import (
	"fmt"
	"reflect"
	"strconv"
	"testing"

	"raceway/api"
	"raceway/front"
	"raceway/place"
)

// The document's limits, apart from the packages that are tested.
const (
	maxTime   = 1 << 40
	maxNodes  = 5
	maxShards = 6
	maxBatch  = 10
	maxRetry  = 1000
	span      = 65536
	minInt    = -1 << 63
	maxInt    = 1<<63 - 1
)

// same tells whether two values are the same, part by part; a list without an element is the same, nil or empty.
func same[T any](a, b T) bool {
	return sameValue(reflect.ValueOf(&a).Elem(), reflect.ValueOf(&b).Elem())
}

func sameValue(a, b reflect.Value) bool {
	switch a.Kind() {
	case reflect.Slice:
		if a.Len() != b.Len() {
			return false
		}
		for i := range a.Len() {
			if !sameValue(a.Index(i), b.Index(i)) {
				return false
			}
		}
		return true
	case reflect.Struct:
		for i := range a.NumField() {
			if !sameValue(a.Field(i), b.Field(i)) {
				return false
			}
		}
		return true
	}
	return a.Equal(b)
}

// behind is how much memory, all zero, lies behind each list of a copy.
const behind = 2

// copyOf has all lists anew.
func copyOf[T any](x T) T {
	copyLists(reflect.ValueOf(&x).Elem())
	return x
}

func copyLists(v reflect.Value) {
	switch v.Kind() {
	case reflect.Slice:
		l := reflect.MakeSlice(v.Type(), v.Len(), v.Len()+behind)
		reflect.Copy(l, v)
		v.Set(l)
		for i := range v.Len() {
			copyLists(v.Index(i))
		}
	case reflect.Struct:
		for i := range v.NumField() {
			copyLists(v.Field(i))
		}
	}
}

// isClean tells whether the memory behind each list of a copy is as copyOf made it.
func isClean(v reflect.Value) bool {
	switch v.Kind() {
	case reflect.Slice:
		for i, all := v.Len(), v.Slice(0, v.Cap()); i < v.Cap(); i++ {
			if !all.Index(i).IsZero() {
				return false
			}
		}
		for i := range v.Len() {
			if !isClean(v.Index(i)) {
				return false
			}
		}
	case reflect.Struct:
		for i := range v.NumField() {
			if !isClean(v.Field(i)) {
				return false
			}
		}
	}
	return true
}

// spoil writes over all the memory that a value's lists have.
func spoil[T any](x T) { spoilLists(reflect.ValueOf(&x).Elem()) }

func spoilLists(v reflect.Value) {
	switch v.Kind() {
	case reflect.Slice:
		all := v.Slice(0, v.Cap())
		for i := range all.Len() {
			spoilLists(all.Index(i))
			spoilThing(all.Index(i))
		}
	case reflect.Struct:
		for i := range v.NumField() {
			spoilLists(v.Field(i))
		}
	}
}

func spoilThing(v reflect.Value) {
	switch v.Kind() {
	case reflect.String:
		v.SetString("spoiled")
	default:
		v.SetZero()
	}
}

// handIn hands a copy of something to a call, checks that the call left it alone, and writes over it then: nobody may have kept it.
func handIn[T, R any](t *testing.T, x T, call func(T) R) R {
	t.Helper()
	handed := copyOf(x)
	told := call(handed)
	if !same(handed, x) || !isClean(reflect.ValueOf(handed)) {
		t.Fatalf("it has changed what was handed in: %s", brief(x))
	}
	spoil(handed)
	return told
}

// takeOver gives what was told in memory of its own, and writes over what was handed out.
func takeOver[T any](told T) T {
	own := copyOf(told)
	spoil(told)
	return own
}

// brief tells something in one line, whatever it has in it.
func brief(x any) string {
	s := strconv.QuoteToASCII(fmt.Sprintf("%+v", x))
	return s[:min(len(s), 1500)]
}

func wantError(t *testing.T, name string, got, want api.Errno) {
	t.Helper()
	if got != want {
		t.Errorf("%s: error %d, not %d", name, int(got), int(want))
	}
}

// want holds what is told against what should be.
func want[T any](t *testing.T, name string, got, should T) {
	t.Helper()
	if !same(got, should) {
		t.Errorf("%s: it tells\n%s, not\n%s", name, brief(got), brief(should))
	}
}

func from(lo, hi int) api.Range { return api.Range{Lo: lo, Hi: hi} }

// chartOf is a chart whose pieces are told by where they begin, and by their shards.
func chartOf(epoch int, pieces ...[2]int) api.Chart {
	c := api.Chart{Epoch: epoch}
	for i, p := range pieces {
		hi := span
		if i+1 < len(pieces) {
			hi = pieces[i+1][0]
		}
		c.Pieces = append(c.Pieces, api.Piece{Range: from(p[0], hi), Shard: p[1]})
	}
	return c
}

// nameIn is a group's name whose place lies in a range.
func nameIn(r api.Range) string {
	for i := 0; ; i++ {
		if name := fmt.Sprint(i, "-g"); place.In(r, place.Of(name)) {
			return name
		}
	}
}

// Names at both ends of the places, and in their midst.
var (
	lowName  = nameIn(from(0, 1000))
	midName  = nameIn(from(30000, 31000))
	highName = nameIn(from(span-1000, span))
)

// askPacket is how client id asks; cmd's Client and Num are told apart.
func askPacket(id, to, group, num int, cmd api.Cmd) api.Packet {
	cmd.Client, cmd.Num = id, num
	return api.Packet{Kind: api.PkAsk, From: -id, To: to, Group: group, Cmd: cmd}
}

// replyPacket is how a node answers.
func replyPacket(id, group, num int, r api.Reply) api.Packet {
	return api.Packet{Kind: api.PkReply, From: 2, To: -id, Group: group, Cmd: api.Cmd{Client: id, Num: num}, Reply: r}
}

// fullCmd has something in each of its parts.
func fullCmd() api.Cmd {
	return api.Cmd{
		Kind: api.CmImport, Client: 771, Num: 772, Time: 773, Queue: 774, Group: "group", Body: "body", Token: "token", Attempt: "attempt",
		Max: 775, Secs: 776, Receipt: api.Receipt{Queue: 777, Group: "other", Seq: 778, Count: 779}, Range: from(780, 781), To: 782, Data: []string{"some", "", "data"},
	}
}

// fullReply too.
func fullReply(e api.Errno) api.Reply {
	return api.Reply{
		Err: e, Seq: 791, N: 792, Got: []api.Got{{Receipt: api.Receipt{Queue: 1, Group: "g", Seq: 2, Count: 3}, Body: "b", Sent: 4}, {Body: "c"}},
		Data: []string{"more", "data"}, About: []api.Range{from(1, 2), from(3, 4)},
	}
}

// asking is an asker that is tested, and who it is.
type asking struct {
	t  *testing.T
	a  *front.Asker
	id int
}

func newAsker(t *testing.T, id, nodes, retry int) asking {
	t.Helper()
	a, e := front.NewAsker(id, nodes, retry)
	if e != api.OK || a == nil {
		t.Fatalf("NewAsker(%d, %d, %d): error %d", id, nodes, retry, int(e))
	}
	return asking{t, a, id}
}

func (x asking) ask(group int, c api.Cmd) api.Errno {
	x.t.Helper()
	return handIn(x.t, c, func(c api.Cmd) api.Errno { return x.a.Ask(group, c) })
}

// asks lets it ask something that it takes.
func (x asking) asks(group int, c api.Cmd) {
	x.t.Helper()
	wantError(x.t, "Ask", x.ask(group, c), api.OK)
}

// wantSent checks that a tick sends what is asked.
func (x asking) wantSent(name string, to, group, num int, c api.Cmd) {
	x.t.Helper()
	want(x.t, name, takeOver(x.a.Tick()), []api.Packet{askPacket(x.id, to, group, num, c)})
}

// wantQuiet checks that so many ticks send nothing.
func (x asking) wantQuiet(name string, ticks int) {
	x.t.Helper()
	for i := range ticks {
		if l := x.a.Tick(); len(l) > 0 {
			x.t.Errorf("%s: tick %d of %d tells %s", name, i+1, ticks, brief(l))
		}
	}
}

func (x asking) recv(p api.Packet) (r api.Reply, answered bool) {
	x.t.Helper()
	r = handIn(x.t, p, func(p api.Packet) api.Reply {
		r, answered = x.a.Recv(p)
		return r
	})
	return takeOver(r), answered
}

// wantNoAnswer checks that a packet is none.
func (x asking) wantNoAnswer(name string, p api.Packet) {
	x.t.Helper()
	if r, answered := x.recv(p); answered || !same(r, api.Reply{}) {
		x.t.Errorf("%s: %s answers it: %s, %v", name, brief(p), brief(r), answered)
	}
}

// wantAnswer checks that a reply to what it asks is one.
func (x asking) wantAnswer(name string, group, num int, reply api.Reply) {
	x.t.Helper()
	r, answered := x.recv(replyPacket(x.id, group, num, reply))
	if !answered {
		x.t.Errorf("%s: it is not answered", name)
	}
	want(x.t, name, r, reply)
}

// wantState checks what Busy and Num tell.
func (x asking) wantState(name string, busy bool, num int) {
	x.t.Helper()
	if x.a.Busy() != busy || x.a.Num() != num {
		x.t.Errorf("%s: busy %v, number %d; not %v, %d", name, x.a.Busy(), x.a.Num(), busy, num)
	}
}

// calling is a client that is tested, and who it is.
type calling struct {
	t  *testing.T
	c  *front.Client
	id int
}

func newClient(t *testing.T, id, nodes, retry int) calling {
	t.Helper()
	c, e := front.New(id, nodes, retry)
	if e != api.OK || c == nil {
		t.Fatalf("New(%d, %d, %d): error %d", id, nodes, retry, int(e))
	}
	return calling{t, c, id}
}

func (x calling) start(call api.Call) api.Errno {
	x.t.Helper()
	return handIn(x.t, call, x.c.Start)
}

// starts lets it start a call that it takes.
func (x calling) starts(call api.Call) {
	x.t.Helper()
	wantError(x.t, "Start of "+brief(call), x.start(call), api.OK)
}

func (x calling) tick() []api.Packet { return takeOver(x.c.Tick()) }

func (x calling) recv(p api.Packet) {
	x.t.Helper()
	if l := handIn(x.t, p, x.c.Recv); len(l) > 0 {
		x.t.Errorf("%s: it answers %s at once", brief(p), brief(l))
	}
}

// learns lets it be told a chart.
func (x calling) learns(c api.Chart) {
	x.t.Helper()
	x.recv(api.Packet{Kind: api.PkChart, From: 1, To: -x.id, Chart: c})
}

// answered lets it be answered.
func (x calling) answered(group, num int, r api.Reply) {
	x.t.Helper()
	x.recv(replyPacket(x.id, group, num, r))
}

func (x calling) wantMap(name string, to int) {
	x.t.Helper()
	want(x.t, name, x.tick(), []api.Packet{{Kind: api.PkMap, From: -x.id, To: to}})
}

func (x calling) wantSent(name string, to, group, num int, c api.Cmd) {
	x.t.Helper()
	want(x.t, name, x.tick(), []api.Packet{askPacket(x.id, to, group, num, c)})
}

func (x calling) wantQuiet(name string, ticks int) {
	x.t.Helper()
	for range ticks {
		want(x.t, name, x.tick(), nil)
	}
}

// wantAt checks what Busy and Result tell of a call that was started.
func (x calling) wantAt(name string, ended bool, replies ...api.Reply) {
	x.t.Helper()
	l, e := x.c.Result()
	want(x.t, name, takeOver(l), replies)
	if e != ended || x.c.Busy() == ended {
		x.t.Errorf("%s: ended %v, busy %v; not %v, %v", name, e, x.c.Busy(), ended, !ended)
	}
}

func (x calling) wantChart(name string, c api.Chart) {
	x.t.Helper()
	want(x.t, name, takeOver(x.c.Chart()), c)
}

// knowing is a client of three nodes that knows a chart, and does nothing; it has done one call, by number 1, and asked node 0 for the chart.
func knowing(t *testing.T, id, retry int, c api.Chart) calling {
	t.Helper()
	x := newClient(t, id, 3, retry)
	x.starts(send(lowName))
	x.wantMap("for the first chart", 0)
	x.learns(c)
	p := x.tick()
	if len(p) != 1 {
		t.Fatalf("it tells %s", brief(p))
	}
	x.answered(p[0].Group, 1, api.Reply{Seq: 1})
	x.wantAt("the first call", true, api.Reply{Seq: 1})
	x.wantChart("the first chart", c)
	return x
}

// send is a call that sends to groups.
func send(names ...string) api.Call {
	c := api.Call{Kind: api.CmSend}
	for _, name := range names {
		c.Entries = append(c.Entries, api.Entry{Group: name, Body: "to " + name})
	}
	return c
}

// sendCmd is what such a call asks for.
func sendCmd(name string) api.Cmd {
	return api.Cmd{Kind: api.CmSend, Group: name, Body: "to " + name}
}
