package control_test

import (
	"fmt"
	"reflect"
	"strconv"
	"testing"

	"raceway/api"
	"raceway/control"
)

// The document's limits, apart from the packages that are tested.
const (
	maxTime   = 1 << 40
	maxNodes  = 5
	maxShards = 6
	maxRetry  = 1000
	span      = 65536
	minInt    = -1 << 63
	maxInt    = 1<<63 - 1
)

// The document's stages.
const (
	none = iota
	freeze
	bring
	chartIt
	bringBack
)

// same tells whether two values are the same, part by part; a list without an element is the same, nil or empty.
func same[T any](a, b T) bool {
	return sameValue(reflect.ValueOf(&a).Elem(), reflect.ValueOf(&b).Elem())
}

func sameValue(a, b reflect.Value) bool {
	switch a.Kind() {
	case reflect.Slice:
		if a.Len() != b.Len() {
			return false
		}
		for i := range a.Len() {
			if !sameValue(a.Index(i), b.Index(i)) {
				return false
			}
		}
		return true
	case reflect.Struct:
		for i := range a.NumField() {
			if !sameValue(a.Field(i), b.Field(i)) {
				return false
			}
		}
		return true
	}
	return a.Equal(b)
}

// behind is how much memory, all zero, lies behind each list of a copy.
const behind = 2

// copyOf has all lists anew.
func copyOf[T any](x T) T {
	copyLists(reflect.ValueOf(&x).Elem())
	return x
}

func copyLists(v reflect.Value) {
	switch v.Kind() {
	case reflect.Slice:
		l := reflect.MakeSlice(v.Type(), v.Len(), v.Len()+behind)
		reflect.Copy(l, v)
		v.Set(l)
		for i := range v.Len() {
			copyLists(v.Index(i))
		}
	case reflect.Struct:
		for i := range v.NumField() {
			copyLists(v.Field(i))
		}
	}
}

// isClean tells whether the memory behind each list of a copy is as copyOf made it.
func isClean(v reflect.Value) bool {
	switch v.Kind() {
	case reflect.Slice:
		for i, all := v.Len(), v.Slice(0, v.Cap()); i < v.Cap(); i++ {
			if !all.Index(i).IsZero() {
				return false
			}
		}
		for i := range v.Len() {
			if !isClean(v.Index(i)) {
				return false
			}
		}
	case reflect.Struct:
		for i := range v.NumField() {
			if !isClean(v.Field(i)) {
				return false
			}
		}
	}
	return true
}

// spoil writes over all the memory that a value's lists have.
func spoil[T any](x T) { spoilLists(reflect.ValueOf(&x).Elem()) }

func spoilLists(v reflect.Value) {
	switch v.Kind() {
	case reflect.Slice:
		all := v.Slice(0, v.Cap())
		for i := range all.Len() {
			spoilLists(all.Index(i))
			spoilThing(all.Index(i))
		}
	case reflect.Struct:
		for i := range v.NumField() {
			spoilLists(v.Field(i))
		}
	}
}

func spoilThing(v reflect.Value) {
	switch v.Kind() {
	case reflect.String:
		v.SetString("spoiled")
	default:
		v.SetZero()
	}
}

// handIn hands a copy of something to a call, checks that the call left it alone, and writes over it then: nobody may have kept it.
func handIn[T, R any](t *testing.T, x T, call func(T) R) R {
	t.Helper()
	handed := copyOf(x)
	told := call(handed)
	if !same(handed, x) || !isClean(reflect.ValueOf(handed)) {
		t.Fatalf("it has changed what was handed in: %s", brief(x))
	}
	spoil(handed)
	return told
}

// takeOver gives what was told in memory of its own, and writes over what was handed out.
func takeOver[T any](told T) T {
	own := copyOf(told)
	spoil(told)
	return own
}

// brief tells something in one line, whatever it has in it.
func brief(x any) string {
	s := strconv.QuoteToASCII(fmt.Sprintf("%+v", x))
	return s[:min(len(s), 1500)]
}

func wantError(t *testing.T, name string, got, want api.Errno) {
	t.Helper()
	if got != want {
		t.Errorf("%s: error %d, not %d", name, int(got), int(want))
	}
}

// want holds what is told against what should be.
func want[T any](t *testing.T, name string, got, should T) {
	t.Helper()
	if !same(got, should) {
		t.Errorf("%s: it tells\n%s, not\n%s", name, brief(got), brief(should))
	}
}

func from(lo, hi int) api.Range { return api.Range{Lo: lo, Hi: hi} }

// some is a range that may be.
var some = from(7, 9000)

// The commands of a move.
func freezeCmd(r api.Range) api.Cmd { return api.Cmd{Kind: api.CmFreeze, Range: r} }

func importCmd(r api.Range, data ...string) api.Cmd {
	return api.Cmd{Kind: api.CmImport, Range: r, Data: data}
}

func chartCmd(r api.Range, to int) api.Cmd {
	return api.Cmd{Kind: api.CmChart, Range: r, To: to}
}

// askPacket is how a control asks; cmd's Client and Num are told apart.
func askPacket(id, to, group, num int, cmd api.Cmd) api.Packet {
	cmd.Client, cmd.Num = id, num
	return api.Packet{Kind: api.PkAsk, From: -id, To: to, Group: group, Cmd: cmd}
}

// replyPacket is how a node answers.
func replyPacket(id, group, num int, r api.Reply) api.Packet {
	return api.Packet{Kind: api.PkReply, From: 2, To: -id, Group: group, Cmd: api.Cmd{Client: id, Num: num}, Reply: r}
}

// fullReply has something in each of its parts.
func fullReply(e api.Errno, data ...string) api.Reply {
	return api.Reply{
		Err: e, Seq: 791, N: 792, Got: []api.Got{{Receipt: api.Receipt{Queue: 1, Group: "g", Seq: 2, Count: 3}, Body: "b", Sent: 4}, {Body: "c"}},
		Data: data, About: []api.Range{from(1, 2), from(3, 4)},
	}
}

// everyErrno is all of the document's errors, rising.
func everyErrno() []api.Errno {
	var l []api.Errno
	for e := api.OK; e <= api.ErrRange; e++ {
		l = append(l, e)
	}
	return l
}

// endings are errors that end what is asked: all but a hint at the leader.
func endings() []api.Errno {
	var l []api.Errno
	for _, e := range append(everyErrno(), minInt, -1, 19, 255, 256, maxInt) {
		if e != api.OK && e != api.ErrLeader {
			l = append(l, e)
		}
	}
	return l
}

// moving is a control that is tested, who it is, and the number that it asks by.
type moving struct {
	t       *testing.T
	c       *control.Control
	id, num int
}

func newControl(t *testing.T, id, nodes, retry int) *moving {
	t.Helper()
	c, e := control.New(id, nodes, retry)
	if e != api.OK || c == nil {
		t.Fatalf("New(%d, %d, %d): error %d", id, nodes, retry, int(e))
	}
	return &moving{t, c, id, 0}
}

// starts lets it start a move that it takes.
func (x *moving) starts(r api.Range, from, to int) {
	x.t.Helper()
	wantError(x.t, fmt.Sprint("Start of ", r, " from ", from, " to ", to), x.c.Start(r, from, to), api.OK)
	x.num++
}

func (x *moving) tick() []api.Packet { return takeOver(x.c.Tick()) }

func (x *moving) recv(p api.Packet) {
	x.t.Helper()
	wantError(x.t, "Recv of "+brief(p), handIn(x.t, p, x.c.Recv), api.OK)
}

// answered lets it be answered.
func (x *moving) answered(group int, r api.Reply) {
	x.t.Helper()
	x.recv(replyPacket(x.id, group, x.num, r))
}

// goesOn is answered so that it asks for something more.
func (x *moving) goesOn(group int, r api.Reply) {
	x.t.Helper()
	x.answered(group, r)
	x.num++
}

// wantSent checks that a tick sends what is asked.
func (x *moving) wantSent(name string, to, group int, c api.Cmd) {
	x.t.Helper()
	want(x.t, name, x.tick(), []api.Packet{askPacket(x.id, to, group, x.num, c)})
}

// wantQuiet checks that so many ticks send nothing.
func (x *moving) wantQuiet(name string, ticks int) {
	x.t.Helper()
	for range ticks {
		want(x.t, name, x.tick(), nil)
	}
}

// wantAt checks what Stage and Result tell.
func (x *moving) wantAt(name string, stage int, should api.Errno, ended bool) {
	x.t.Helper()
	if n := x.c.Stage(); n != stage {
		x.t.Errorf("%s: stage %d, not %d", name, n, stage)
	}
	if e, is := x.c.Result(); e != should || is != ended {
		x.t.Errorf("%s: it ended with %d, %v, not %d, %v", name, int(e), is, int(should), ended)
	}
}
