package control_test

import (
	"fmt"
	"testing"

	"raceway/api"
	"raceway/control"
)

// edge is a number, and whether it is taken.
type edge struct {
	n  int
	ok bool
}

// edges are those of a number from lo to hi, and some far beyond.
func edges(lo, hi int) []edge {
	return []edge{{minInt, false}, {-lo - 1, false}, {lo - 1, false}, {lo, true}, {(lo + hi) / 2, true}, {hi, true}, {hi + 1, false}, {1 << 62, false}, {maxInt, false}}
}

// rangeEdges are ranges, and whether they may be.
var rangeEdges = []struct {
	r  api.Range
	ok bool
}{
	{api.Range{}, false}, {from(-1, 0), false}, {from(-1, 10), false}, {from(minInt, maxInt), false}, {from(0, 1), true},
	{from(5, 5), false}, {from(6, 5), false}, {from(5, 6), true}, {from(0, span), true}, {from(0, span+1), false},
	{from(span-1, span), true}, {from(span, span), false}, {from(span, span+1), false}, {from(span, 0), false}, {from(0, maxInt), false},
}

// P19.1: what New takes, and what it makes.
func TestNew(t *testing.T) {
	for _, id := range edges(1, maxTime) {
		for _, nodes := range edges(1, maxNodes) {
			for _, retry := range edges(1, maxRetry) {
				should := api.ErrArg
				if id.ok && nodes.ok && retry.ok {
					should = api.OK
				}
				name := fmt.Sprint("New of ", id.n, ", ", nodes.n, ", ", retry.n)
				c, e := control.New(id.n, nodes.n, retry.n)
				wantError(t, name, e, should)
				if (c != nil) != (should == api.OK) {
					t.Errorf("%s: a control %v", name, c != nil)
				}
			}
		}
	}
	x := newControl(t, 5, 3, 2)
	x.wantAt("at first", none, api.OK, false)
	x.wantQuiet("at first", 5)
	x.wantAt("behind ticks", none, api.OK, false)
}

// P19.1: which moves Start takes; what it refuses changes nothing.
func TestStart(t *testing.T) {
	for _, r := range rangeEdges {
		for _, a := range edges(1, maxShards) {
			for _, b := range edges(1, maxShards) {
				x := newControl(t, 5, 3, 2)
				name := fmt.Sprint("of ", r.r, " from ", a.n, " to ", b.n)
				if r.ok && a.ok && b.ok && a.n != b.n {
					x.starts(r.r, a.n, b.n)
					x.wantAt(name, freeze, api.OK, false)
					x.wantSent(name, 0, a.n, freezeCmd(r.r))
					continue
				}
				wantError(t, name, x.c.Start(r.r, a.n, b.n), api.ErrArg)
				x.wantAt(name, none, api.OK, false)
				x.wantQuiet(name, 3)
				x.starts(some, 1, 2)
				x.wantSent("behind "+name, 0, 1, freezeCmd(some))
			}
		}
	}
}

// P19.1: from each shard to each other one.
func TestShards(t *testing.T) {
	x := newControl(t, 5, 1, 2)
	for a := 1; a <= maxShards; a++ {
		for b := 1; b <= maxShards; b++ {
			r := from(a*1000+b, a*1000+500+b)
			name := fmt.Sprint("from ", a, " to ", b)
			if a == b {
				wantError(t, name, x.c.Start(r, a, b), api.ErrArg)
				continue
			}
			x.starts(r, a, b)
			x.wantSent(name, 0, a, freezeCmd(r))
			x.goesOn(a, fullReply(api.OK, "data of", name))
			x.wantSent(name, 0, b, importCmd(r, "data of", name))
			x.goesOn(b, fullReply(api.OK))
			x.wantSent(name, 0, 0, chartCmd(r, b))
			x.answered(0, fullReply(api.OK))
			x.wantAt(name, none, api.OK, true)
		}
	}
}

// P19.1: while it does something it takes nothing else, whatever that is; and it goes on with what it does.
func TestBusy(t *testing.T) {
	x := newControl(t, 5, 3, 2)
	busy := func(stage, group int, c api.Cmd) {
		t.Helper()
		name := fmt.Sprint("stage ", stage)
		for range 2 {
			for _, r := range rangeEdges {
				for _, n := range edges(1, maxShards) {
					wantError(t, name, x.c.Start(r.r, n.n, 3), api.ErrBusy)
					wantError(t, name, x.c.Start(r.r, 3, n.n), api.ErrBusy)
				}
			}
			x.wantAt(name, stage, api.OK, false)
			x.wantSent(name, 0, group, c)
			x.wantQuiet(name, 1)
			x.recv(replyPacket(5, group, x.num, api.Reply{Err: api.ErrLeader, N: 1}))
		}
	}
	x.starts(some, 1, 2)
	busy(freeze, 1, freezeCmd(some))
	x.goesOn(1, api.Reply{Data: []string{"a"}})
	busy(bring, 2, importCmd(some, "a"))
	x.goesOn(2, api.Reply{Err: api.ErrFull})
	busy(bringBack, 1, importCmd(some, "a"))
	x.answered(1, api.Reply{})
	x.wantAt("the end", none, api.ErrFull, true)
	x = newControl(t, 5, 3, 2)
	x.starts(some, 4, 6)
	x.goesOn(4, api.Reply{Data: []string{"a"}})
	x.goesOn(6, api.Reply{})
	busy(chartIt, 0, chartCmd(some, 6))
}

// Example 1: a move from its beginning to its end.
func TestMove(t *testing.T) {
	x := newControl(t, 9, 2, 1)
	r := from(0, 100)
	x.starts(r, 1, 2)
	x.wantAt("started", freeze, api.OK, false)
	x.wantSent("a freeze", 0, 1, freezeCmd(r))
	x.goesOn(1, api.Reply{Data: []string{"a", "", "b"}, About: []api.Range{r}})
	x.wantAt("frozen", bring, api.OK, false)
	x.wantSent("an import", 0, 2, importCmd(r, "a", "", "b"))
	x.goesOn(2, api.Reply{About: []api.Range{r}})
	x.wantAt("imported", chartIt, api.OK, false)
	x.wantSent("a chart", 0, 0, chartCmd(r, 2))
	x.answered(0, api.Reply{N: 2, Data: []string{"chart"}})
	x.wantAt("at the end", none, api.OK, true)
	x.wantQuiet("at the end", 5)
	if x.num != 3 {
		t.Errorf("it has asked by number %d", x.num)
	}
}

// P19.2: an error of the freeze ends it; nothing is imported, and no chart is asked for.
func TestFreezeFails(t *testing.T) {
	for _, e := range endings() {
		for _, sent := range []bool{false, true} {
			x := newControl(t, 5, 3, 2)
			name := fmt.Sprint("error ", int(e), ", sent ", sent)
			x.starts(some, 3, 4)
			if sent {
				x.wantSent(name, 0, 3, freezeCmd(some))
			}
			x.answered(3, fullReply(e, "no", "data"))
			x.wantAt(name, none, e, true)
			x.wantQuiet(name, 5)
			x.starts(some, 4, 5)
			x.wantAt("behind "+name, freeze, e, false)
			x.wantSent("behind "+name, 0, 4, freezeCmd(some))
			x.goesOn(4, fullReply(api.OK, "data"))
			x.wantSent("behind "+name, 0, 5, importCmd(some, "data"))
		}
	}
}

// P19.2: behind an error of the import what was frozen is brought back, and that error is what it ends with, whatever comes of that.
func TestImportFails(t *testing.T) {
	for _, e := range endings() {
		for _, second := range append(endings(), api.OK) {
			x := newControl(t, 5, 3, 2)
			name := fmt.Sprint("error ", int(e), ", then ", int(second))
			x.starts(some, 3, 4)
			x.goesOn(3, fullReply(api.OK, "the", "data"))
			x.goesOn(4, fullReply(e, "other data"))
			x.wantAt(name, bringBack, api.OK, false)
			x.wantSent(name, 0, 3, importCmd(some, "the", "data"))
			x.wantAt(name, bringBack, api.OK, false)
			x.answered(3, fullReply(second, "more data"))
			x.wantAt(name, none, e, true)
			x.wantQuiet(name, 5)
		}
	}
}

// P19.2: what the chart's group answers is what it ends with.
func TestChartFails(t *testing.T) {
	for _, e := range append(endings(), api.OK) {
		x := newControl(t, 5, 3, 2)
		name := fmt.Sprint("error ", int(e))
		x.starts(some, 3, 4)
		x.goesOn(3, fullReply(api.OK, "the", "data"))
		x.goesOn(4, fullReply(api.OK, "other data"))
		x.wantAt(name, chartIt, api.OK, false)
		x.wantSent(name, 0, 0, chartCmd(some, 4))
		x.answered(0, fullReply(e, "more data"))
		x.wantAt(name, none, e, true)
		x.wantQuiet(name, 5)
	}
}

// P19.2: data of all lengths goes on as it is.
func TestData(t *testing.T) {
	for _, data := range [][]string{nil, {}, {""}, {"", ""}, {"one"}, {"\x00\xff", "", "three"}, make([]string, 3000)} {
		x := newControl(t, 5, 3, 2)
		name := fmt.Sprint(len(data), " texts")
		x.starts(some, 3, 4)
		x.goesOn(3, fullReply(api.OK, data...))
		x.wantSent(name, 0, 4, importCmd(some, data...))
		x.goesOn(4, fullReply(api.ErrArg))
		x.wantSent(name, 0, 3, importCmd(some, data...))
		x.answered(3, api.Reply{})
		x.wantAt(name, none, api.ErrArg, true)
	}
}

// P19.2: Tick is the asker's: at each stage it sends at once, and again behind retry ticks each, from node to node.
func TestTick(t *testing.T) {
	for _, retry := range []int{1, 2, 7, maxRetry} {
		for nodes := 1; nodes <= maxNodes; nodes++ {
			x := newControl(t, 5, nodes, retry)
			lead := [maxShards + 1]int{}
			stage := func(stage, group int, c api.Cmd) {
				t.Helper()
				name := fmt.Sprint("retry ", retry, ", nodes ", nodes, ", stage ", stage)
				x.wantAt(name, stage, api.OK, false)
				x.wantSent(name, lead[group], group, c)
				for range nodes + 1 {
					x.wantQuiet(name, retry)
					lead[group] = (lead[group] + 1) % nodes
					x.wantSent(name, lead[group], group, c)
				}
				x.wantAt(name, stage, api.OK, false)
			}
			x.starts(some, 3, 4)
			stage(freeze, 3, freezeCmd(some))
			x.goesOn(3, fullReply(api.OK, "data"))
			stage(bring, 4, importCmd(some, "data"))
			x.goesOn(4, fullReply(api.OK))
			stage(chartIt, 0, chartCmd(some, 4))
			x.answered(0, fullReply(api.OK))
			x.starts(some, 4, 3)
			x.num++
			x.recv(replyPacket(5, 4, x.num-1, fullReply(api.OK, "data")))
			x.goesOn(3, fullReply(api.ErrLong))
			stage(bringBack, 4, importCmd(some, "data"))
		}
	}
}

// P19.2: a hint at the leader is no answer; it is asked at once of whom it names.
func TestHint(t *testing.T) {
	x := newControl(t, 5, 3, 2)
	x.starts(some, 3, 4)
	hint := func(stage, group int, c api.Cmd) {
		t.Helper()
		for _, n := range []int{3, 2, 1, 2} {
			name := fmt.Sprint("stage ", stage, ", hint ", n)
			x.recv(replyPacket(5, group, x.num, fullReply(api.ErrLeader)))
			x.recv(replyPacket(5, group, x.num, api.Reply{Err: api.ErrLeader, N: n}))
			x.wantAt(name, stage, api.OK, false)
			x.wantSent(name, n-1, group, c)
			x.wantQuiet(name, 1)
		}
	}
	hint(freeze, 3, freezeCmd(some))
	x.goesOn(3, fullReply(api.OK, "data"))
	hint(bring, 4, importCmd(some, "data"))
	x.goesOn(4, fullReply(api.OK))
	hint(chartIt, 0, chartCmd(some, 4))
	x.answered(0, fullReply(api.OK))
	x.starts(some, 3, 4)
	x.wantSent("the leader is known", 1, 3, freezeCmd(some))
	x.goesOn(3, fullReply(api.OK, "data"))
	x.wantSent("the leader is known", 1, 4, importCmd(some, "data"))
	x.goesOn(4, fullReply(api.ErrFull))
	hint(bringBack, 3, importCmd(some, "data"))
}

// oddPackets are none that answer number num of control 5, which asks a group.
func oddPackets(group, num int) []api.Packet {
	var odd []api.Packet
	add := func(change func(p *api.Packet)) {
		for _, e := range []api.Errno{api.OK, api.ErrArg, api.ErrLeader} {
			p := replyPacket(5, group, num, fullReply(e, "odd"))
			change(&p)
			odd = append(odd, p)
		}
	}
	for _, kind := range []int{minInt, -1, 0, api.PkPaxos, api.PkAsk, api.PkMap, api.PkChart, api.PkPull, api.PkSnap, 8, maxInt} {
		add(func(p *api.Packet) { p.Kind = kind })
	}
	for _, to := range []int{minInt, -6, -4, -1, 0, 1, 5, maxInt} {
		add(func(p *api.Packet) { p.To = to })
	}
	for _, by := range []int{-8, -3, -2, -1, 1, 2, 3, 8, maxInt} {
		add(func(p *api.Packet) { p.Group += by })
		add(func(p *api.Packet) { p.Cmd.Client += by })
		add(func(p *api.Packet) { p.Cmd.Num += by })
	}
	return odd
}

// P19.2: what is no answer changes nothing at any stage, of late answers too; Recv tells no error.
func TestNoAnswer(t *testing.T) {
	x := newControl(t, 5, 1, 1)
	odd := func(stage, group int, e api.Errno, ended bool) {
		t.Helper()
		for _, p := range oddPackets(group, x.num) {
			x.recv(p)
			x.wantAt(fmt.Sprint("stage ", stage, ", behind ", brief(p)), stage, e, ended)
		}
	}
	late := func(group int) {
		t.Helper()
		x.recv(replyPacket(5, group, x.num-1, fullReply(api.OK, "late")))
		x.recv(replyPacket(5, group, x.num-1, fullReply(api.ErrLapsed, "late")))
	}
	odd(none, 0, api.OK, false)
	x.recv(replyPacket(5, 0, 0, fullReply(api.OK)))
	x.wantAt("at first", none, api.OK, false)
	x.starts(some, 3, 4)
	odd(freeze, 3, api.OK, false)
	x.wantSent("a freeze", 0, 3, freezeCmd(some))
	odd(freeze, 3, api.OK, false)
	x.goesOn(3, fullReply(api.OK, "data"))
	late(3)
	odd(bring, 4, api.OK, false)
	x.wantSent("an import", 0, 4, importCmd(some, "data"))
	odd(bring, 4, api.OK, false)
	x.goesOn(4, fullReply(api.OK))
	late(4)
	odd(chartIt, 0, api.OK, false)
	x.wantSent("a chart", 0, 0, chartCmd(some, 4))
	odd(chartIt, 0, api.OK, false)
	x.answered(0, fullReply(api.ErrFull))
	x.answered(0, fullReply(api.OK))
	odd(none, 0, api.ErrFull, true)
	x.wantQuiet("at the end", 3)
	x.starts(some, 3, 4)
	x.goesOn(3, fullReply(api.OK, "data"))
	x.goesOn(4, fullReply(api.ErrLong))
	late(4)
	odd(bringBack, 3, api.ErrFull, false)
	x.wantSent("an import", 0, 3, importCmd(some, "data"))
	odd(bringBack, 3, api.ErrFull, false)
	x.answered(3, fullReply(api.ErrArg))
	x.answered(3, fullReply(api.OK))
	odd(none, 3, api.ErrLong, true)
}

// P19.3: what it ended with last is told until it ends the next time; whether it has ended is told of what was started last.
func TestResult(t *testing.T) {
	x := newControl(t, 5, 3, 2)
	ends := []struct{ freeze, bring, chart, should api.Errno }{
		{api.ErrArg, 0, 0, api.ErrArg}, {0, 0, 0, api.OK}, {0, api.ErrLong, 0, api.ErrLong}, {0, 0, api.ErrFull, api.ErrFull},
		{api.ErrMoved, 0, 0, api.ErrMoved}, {0, api.ErrRange, 0, api.ErrRange}, {0, 0, 0, api.OK}, {0, 0, api.ErrForm, api.ErrForm}, {0, 0, 0, api.OK},
	}
	last := api.OK
	for i, m := range ends {
		name := fmt.Sprint("move ", i)
		x.starts(some, 1, 2)
		x.wantAt(name, freeze, last, false)
		if m.freeze != api.OK {
			x.answered(1, fullReply(m.freeze, "data"))
		} else {
			x.goesOn(1, fullReply(api.OK, "data"))
			x.wantAt(name, bring, last, false)
			x.goesOn(2, fullReply(m.bring))
			group, stage := 0, chartIt
			if m.bring != api.OK {
				group, stage = 1, bringBack
			}
			x.wantAt(name, stage, last, false)
			x.answered(group, fullReply(m.chart))
		}
		last = m.should
		for range 2 {
			x.wantAt(name, none, last, true)
			wantError(t, name, x.c.Start(some, 0, 1), api.ErrArg)
			x.wantQuiet(name, 2)
		}
	}
}

// P19.4: each thing that it asks for has a number of its own, one more than the one ahead.
func TestNumbers(t *testing.T) {
	x := newControl(t, 5, 1, 1)
	for range 50 {
		x.starts(some, 1, 2)
		x.wantSent("a freeze", 0, 1, freezeCmd(some))
		x.goesOn(1, fullReply(api.OK, "data"))
		x.goesOn(2, fullReply(api.ErrFull))
		x.wantSent("an import", 0, 1, importCmd(some, "data"))
		x.answered(1, fullReply(api.OK))
	}
	if x.num != 150 || x.c.Num() != 150 {
		t.Errorf("numbers %d, %d", x.num, x.c.Num())
	}
}

// P19.2: what is told is not what it has, and what came in is not kept: moving writes over both.
func TestMemory(t *testing.T) {
	x := newControl(t, 5, 1, 1)
	x.starts(some, 3, 4)
	x.goesOn(3, fullReply(api.OK, "the", "data"))
	for range 4 {
		x.wantSent("its own", 0, 4, importCmd(some, "the", "data"))
		x.wantQuiet("its own", 1)
	}
	x.goesOn(4, fullReply(api.ErrFull, "other", "data"))
	for range 4 {
		x.wantSent("its own", 0, 3, importCmd(some, "the", "data"))
		x.wantQuiet("its own", 1)
	}
}

// Ways: an asker is embedded, so that a copy of a control goes on by itself.
func TestCopy(t *testing.T) {
	x := newControl(t, 5, 3, 1)
	x.starts(some, 3, 4)
	x.goesOn(3, fullReply(api.OK, "the", "data"))
	c := *x.c
	y := &moving{t, &c, 5, x.num}
	x.recv(replyPacket(5, 4, x.num, api.Reply{Err: api.ErrLeader, N: 3}))
	x.goesOn(4, fullReply(api.ErrFull))
	y.wantSent("the copy", 0, 4, importCmd(some, "the", "data"))
	y.goesOn(4, fullReply(api.OK))
	x.wantSent("the first one", 0, 3, importCmd(some, "the", "data"))
	y.wantSent("the copy", 0, 0, chartCmd(some, 4))
	x.answered(3, fullReply(api.OK))
	x.wantAt("the first one", none, api.ErrFull, true)
	y.wantAt("the copy", chartIt, api.OK, false)
	y.answered(0, fullReply(api.OK))
	y.wantAt("the copy", none, api.OK, true)
}

// Rule 1: of a nil control, and of one that New did not make.
func TestNoControl(t *testing.T) {
	for name, c := range map[string]*control.Control{"nil": nil, "plain": {}} {
		x := &moving{t, c, 0, 0}
		for range 2 {
			x.wantAt(name, none, api.OK, false)
			x.wantQuiet(name, 3)
			for _, r := range rangeEdges {
				for _, n := range edges(1, maxShards) {
					wantError(t, name, c.Start(r.r, n.n, 2), api.ErrNil)
				}
			}
			for _, p := range append(oddPackets(0, 0), replyPacket(0, 0, 0, fullReply(api.OK)), replyPacket(0, 0, 1, fullReply(api.ErrLeader))) {
				wantError(t, name, handIn(t, p, c.Recv), api.ErrNil)
			}
		}
	}
}
