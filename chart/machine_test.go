package chart_test

import (
	"fmt"
	"slices"
	"testing"

	"raceway/api"
	"raceway/chart"
)

// about is a CmChart.
func about(client, num int, r api.Range, to int) api.Cmd {
	return api.Cmd{Kind: api.CmChart, Client: client, Num: num, Range: r, To: to}
}

// telling is a reply that tells a chart.
func telling(c api.Chart) api.Reply {
	return api.Reply{N: c.Epoch, Data: []string{chartText(c)}}
}

func made(t *testing.T, shards int) *chart.Machine {
	t.Helper()
	m, e := chart.New(shards)
	if e != api.OK || m == nil {
		t.Fatalf("New(%d): error %d", shards, int(e))
	}
	return m
}

// textsOf dumps a machine twice, and writes over what it is told first.
func textsOf(t *testing.T, m *chart.Machine) []string {
	t.Helper()
	first, e := m.Dump()
	wantError(t, "Dump", e, api.OK)
	spoil(first, "spoiled")
	l, e := m.Dump()
	wantError(t, "Dump", e, api.OK)
	if len(l) != 3 || l[0] != num(m.Slots()) || l[1] != chartText(m.Chart()) {
		t.Fatalf("Dump at %d slots, of %s: %s", m.Slots(), brief(m.Chart()), brief(l))
	}
	return l
}

// apply applies a value: it takes one slot, what is handed in stays, and what is told is nobody else's memory.
func apply(t *testing.T, m *chart.Machine, v []byte) api.Done {
	t.Helper()
	slots := m.Slots()
	handed := spare(v, 0xee)
	d := m.Apply(handed)
	if !isSpare(handed, v, 0xee) {
		t.Fatalf("% x: what was handed in is changed", v)
	}
	spoil(handed, 0xee)
	if d.Slot != slots || m.Slots() != slots+1 {
		t.Fatalf("% x: slot %d at %d slots, %d behind it", v, d.Slot, slots, m.Slots())
	}
	was := textsOf(t, m)
	kept := d
	kept.Cmd.Data, kept.Reply.Data = slices.Clone(d.Cmd.Data), slices.Clone(d.Reply.Data)
	spoil(d.Cmd.Data, "spoiled")
	spoil(d.Reply.Data, "spoiled")
	spoil(m.Chart().Pieces, strayPiece)
	wantTexts(t, "what was told is written over", textsOf(t, m), was...)
	return kept
}

// step checks what a command tells; then, if it is no error, who serves what is as it tells.
func step(t *testing.T, m *chart.Machine, c api.Cmd, reply api.Reply, isFresh bool) {
	t.Helper()
	slots := m.Slots()
	wantDone(t, brief(c), apply(t, m, value(c)), api.Done{Slot: slots, Cmd: c, Reply: reply, Fresh: isFresh})
	if reply.Err == api.OK && (m.Chart().Epoch != reply.N || chartText(m.Chart()) != reply.Data[0]) {
		t.Errorf("%s: behind it the chart is %s", brief(c), brief(m.Chart()))
	}
}

// wantClients checks what a machine remembers: clients and their numbers.
func wantClients(t *testing.T, m *chart.Machine, l ...int) {
	t.Helper()
	if got := textsOf(t, m)[2]; got != nums(l...) {
		t.Errorf("it remembers % x, not % x", got, nums(l...))
	}
}

// P15.5
func TestNew(t *testing.T) {
	for shards := 1; shards <= maxShards; shards++ {
		m := made(t, shards)
		want, _ := chart.First(shards)
		wantChart(t, "New", m.Chart(), want)
		spoil(m.Chart().Pieces, strayPiece)
		wantChart(t, "what Chart told is written over", m.Chart(), want)
		if m.Slots() != 0 {
			t.Errorf("New(%d): %d slots", shards, m.Slots())
		}
		wantTexts(t, "Dump", textsOf(t, m), "\x00", chartText(want), "")
	}
}

// P15.5: values that are no command take a slot, and that is all.
func TestValuesThatAreNoCommand(t *testing.T) {
	right := value(about(7, 3, from(0, 5), 2))
	values := [][]byte{
		nil, {}, {0}, {10}, {255}, []byte("no command"), append(slices.Clone(right), 0), append([]byte{0}, right...),
		value(api.Cmd{Kind: lastKind + 1}), value(about(maxTime+1, 3, from(0, 5), 2)), value(about(7, maxTime+1, from(0, 5), 2)), value(about(7, 3, from(0, 5), maxTime+1)),
		value(about(7, 3, from(5, 5), 2)), value(about(7, 3, from(6, 5), 2)), value(about(7, 3, from(0, span+1), 2)),
		value(api.Cmd{Kind: api.CmNothing, Client: maxTime + 1}), value(api.Cmd{Group: string(make([]byte, 33))}),
	}
	for i := range right {
		values = append(values, right[:i])
	}
	m := made(t, 2)
	want, _ := chart.First(2)
	for i, v := range values {
		wantDone(t, fmt.Sprintf("% x", v), apply(t, m, v), api.Done{Slot: i})
		wantChart(t, fmt.Sprintf("% x", v), m.Chart(), want)
	}
	wantClients(t, m)
	step(t, m, about(7, 3, from(0, 5), 2), telling(charted(2, 0, 2, 5, 1, 32768, 2, span)), true)
}

// P15.5: each kind, by clients and by none. The command is told as it came, with all that it has.
func TestKinds(t *testing.T) {
	m := made(t, 1)
	first := charted(1, 0, 1, span)
	for kind := range lastKind {
		for _, client := range []int{0, 1, maxTime} {
			for _, n := range []int{0, 1, 5, maxTime} {
				c := api.Cmd{
					Kind: kind, Client: client, Num: n, Time: 9, Queue: 1, Group: "g", Body: "b", Token: "t", Attempt: "a", Max: 2, Secs: 3,
					Receipt: api.Receipt{Queue: 1, Group: "r", Seq: 4, Count: 5}, Range: from(3, 9), To: 2, Data: []string{"d", ""},
				}
				want := api.Reply{Err: api.ErrArg}
				if kind == api.CmNothing {
					want = telling(first)
				}
				for range 2 {
					step(t, m, c, want, true)
				}
			}
		}
	}
	wantChart(t, "behind all that", m.Chart(), first)
	wantClients(t, m)
	c := api.Cmd{Kind: api.CmChart, Client: 1, Num: 1, Time: 9, Queue: 1, Group: "g", Range: from(3, 9), To: 2, Data: []string{"d", ""}}
	step(t, m, c, telling(charted(2, 0, 1, 3, 2, 9, 1, span)), true)
}

// P15.5: Move's errors, which change nothing; what is refused is not remembered, and is done as soon as it may be.
func TestMovesThatAreRefused(t *testing.T) {
	m := made(t, 2)
	first := m.Chart()
	for _, c := range []api.Cmd{
		about(3, 1, from(0, 0), 1), about(3, 1, from(0, 5), 0), about(3, 1, from(0, 5), 7), about(3, 1, from(0, 5), maxTime),
		about(0, 0, from(0, 0), 2), about(3, 0, from(0, 5), 0), about(3, 9, from(0, 0), 0),
	} {
		for range 2 {
			step(t, m, c, api.Reply{Err: api.ErrArg}, true)
			wantChart(t, "a move that was refused", m.Chart(), first)
		}
	}
	wantClients(t, m)
	next := charted(2, 0, 2, 5, 1, 32768, 2, span)
	step(t, m, about(3, 1, from(0, 5), 2), telling(next), true)
	wantClients(t, m, 3, 1)
	// What is remembered goes ahead of what is wrong: that move moves nothing in any case.
	step(t, m, about(3, 1, from(0, 0), 0), telling(next), false)
	step(t, m, about(3, 2, from(0, 0), 0), api.Reply{Err: api.ErrArg}, true)
	wantClients(t, m, 3, 1)
}

// P15.5: at the epoch 2^40 a move is refused, and comes again once it moves nothing.
func TestMovesAtTheLastEpoch(t *testing.T) {
	last := charted(maxTime-1, 0, 1, 100, 2, span)
	m := revived(t, []string{num(50), chartText(last), nums(4, 8)})
	last = charted(maxTime, 0, 1, 50, 2, span)
	step(t, m, about(4, 9, from(50, 100), 2), telling(last), true)
	for range 2 {
		step(t, m, about(4, 10, from(0, 50), 2), api.Reply{Err: api.ErrFull}, true)
		wantChart(t, "a move that was refused", m.Chart(), last)
		wantClients(t, m, 4, 9)
	}
	step(t, m, about(4, 10, from(0, 50), 1), telling(last), true)
	wantClients(t, m, 4, 10)
	step(t, m, about(4, 10, from(0, 50), 2), telling(last), false)
}

// P15.5: a number is done once; so is each lesser one, done or not; a greater one is new.
func TestWhatWasDoneIsNotDoneAgain(t *testing.T) {
	m := made(t, 2)
	one := charted(2, 0, 2, 5, 1, 32768, 2, span)
	step(t, m, about(7, 5, from(0, 5), 2), telling(one), true)
	two := charted(3, 0, 1, 32768, 2, span)
	step(t, m, about(8, 2, from(0, 5), 1), telling(two), true)
	wantClients(t, m, 7, 5, 8, 2)
	for _, n := range []int{5, 4, 1, 5} {
		step(t, m, about(7, n, from(0, 5), 2), telling(two), false)
		step(t, m, about(7, n, from(0, span), 6), telling(two), false)
	}
	// Another client's number is another one.
	for _, n := range []int{2, 1} {
		step(t, m, about(8, n, from(9, 10), 3), telling(two), false)
	}
	three := charted(4, 0, 1, 9, 3, 10, 1, 32768, 2, span)
	step(t, m, about(8, 3, from(9, 10), 3), telling(three), true)
	step(t, m, about(7, 6, from(0, 9), 1), telling(three), true) // what is so already is done, too
	step(t, m, about(7, 6, from(0, 9), 2), telling(three), false)
	wantClients(t, m, 7, 6, 8, 3)
	four := charted(5, 0, 1, span)
	step(t, m, about(7, maxTime, from(0, span), 1), telling(four), true)
	step(t, m, about(7, maxTime, from(0, span), 2), telling(four), false)
	step(t, m, about(7, maxTime-1, from(0, span), 2), telling(four), false)
	// Whoever asks by CmNothing, with whatever number, is told the same, and remembered by none.
	step(t, m, api.Cmd{Client: 7, Num: 1}, telling(four), true)
	step(t, m, api.Cmd{Client: 9, Num: 90}, telling(four), true)
	wantClients(t, m, 7, maxTime, 8, 3)
	step(t, m, about(9, 1, from(0, 1), 2), telling(charted(6, 0, 2, 1, 1, span)), true)
	wantClients(t, m, 7, maxTime, 8, 3, 9, 1)
}

// P15.5: who has no number, or is no client, is not remembered: what it asks is done each time.
func TestWhoIsNotRemembered(t *testing.T) {
	for _, who := range [][2]int{{0, 0}, {0, 1}, {0, maxTime}, {1, 0}, {7, 0}, {maxTime, 0}} {
		m := made(t, 1)
		step(t, m, about(7, 5, from(0, 1), 1), telling(charted(1, 0, 1, span)), true)
		for i := range 3 {
			step(t, m, about(who[0], who[1], from(0, 9), 2), telling(charted(2+2*i, 0, 2, 9, 1, span)), true)
			step(t, m, about(who[0], who[1], from(0, 9), 1), telling(charted(3+2*i, 0, 1, span)), true)
		}
		wantClients(t, m, 7, 5)
	}
}

// P15.5: of more than 64 clients the first 64 are remembered, in whatever order they come.
func TestClientsBeyond64(t *testing.T) {
	m := made(t, 1)
	one, two := charted(2, 0, 1, span), charted(1, 0, 2, span)
	flip := func(client, n int) {
		t.Helper()
		epoch := m.Chart().Epoch + 1
		next := one
		if chart.Of(m.Chart(), 0) == 1 {
			next = two
		}
		next.Epoch = epoch
		step(t, m, about(client, n, from(0, span), next.Pieces[0].Shard), telling(next), true)
	}
	// Whose moves are refused, and who asks something else, takes nobody's place.
	for client := 5000; client < 5070; client++ {
		step(t, m, about(client, 1, from(0, 0), 1), api.Reply{Err: api.ErrArg}, true)
		step(t, m, api.Cmd{Client: client, Num: 1}, telling(m.Chart()), true)
		flip(client, 0)
	}
	wantClients(t, m)
	var want []int
	for i := range maxClients {
		flip(1000-i*7, 3)
		want = append(want, 1000-(maxClients-1-i)*7, 3)
	}
	wantClients(t, m, want...)
	for _, client := range []int{1, 2000, maxTime} {
		for range 3 {
			flip(client, 3)
			wantClients(t, m, want...)
		}
	}
	now := m.Chart()
	for i := range maxClients {
		for _, n := range []int{3, 2, 1} {
			step(t, m, about(1000-i*7, n, from(0, 9), 5), telling(now), false)
		}
		flip(1000-i*7, 4)
		now = m.Chart()
		want[2*(maxClients-1-i)+1] = 4
	}
	wantClients(t, m, want...)
}

// P15.1, P15.5, P15.6: of nil, and of what no call made.
func TestNoMachine(t *testing.T) {
	for i, m := range []*chart.Machine{nil, {}, new(chart.Machine)} {
		name := fmt.Sprint("no machine ", i)
		for _, v := range [][]byte{nil, {}, {1}, value(api.Cmd{}), value(about(1, 1, from(0, 5), 2)), value(about(0, 0, from(0, 5), 2)), value(api.Cmd{Kind: api.CmSend})} {
			for range 2 {
				wantDone(t, name, m.Apply(v), api.Done{})
			}
		}
		wantChart(t, name, m.Chart(), api.Chart{})
		if l, e := m.Dump(); len(l) > 0 || e != api.ErrNil || m.Slots() != 0 {
			t.Errorf("%s: Dump tells %q, error %d; %d slots", name, l, int(e), m.Slots())
		}
	}
}
