package front_test

import (
	"fmt"
	"testing"

	"raceway/api"
	"raceway/chart"
	"raceway/front"
)

// Kinds of calls: of entries, and from shard to shard.
var (
	entryKinds = []int{api.CmSend, api.CmDelete, api.CmChange, api.CmRedrive}
	shardKinds = []int{api.CmReceive, api.CmPurge}
	otherKinds = []int{minInt, -1, api.CmNothing, api.CmFreeze, api.CmImport, api.CmRelease, api.CmChart, 11, maxInt}
)

// entriesOf is so many entries, each of a group of its own, whose receipts are of other ones.
func entriesOf(n int) []api.Entry {
	var l []api.Entry
	for i := range n {
		l = append(l, api.Entry{
			Group: fmt.Sprint("group ", i), Body: fmt.Sprint("body ", i), Token: fmt.Sprint("token ", i),
			Receipt: api.Receipt{Queue: i, Group: fmt.Sprint("other ", i), Seq: 10 + i, Count: 20 + i},
		})
	}
	return l
}

// callOf has something in each of its parts.
func callOf(kind, entries int) api.Call {
	return api.Call{Kind: kind, Queue: 3, Max: 4, Secs: 5, Attempt: "attempt", Entries: entriesOf(entries)}
}

// cmdOf is what a step of a call asks for; entries are counted from 0.
func cmdOf(call api.Call, step int) api.Cmd {
	c := api.Cmd{Kind: call.Kind, Queue: call.Queue, Max: call.Max, Secs: call.Secs, Attempt: call.Attempt}
	if len(call.Entries) > 0 {
		e := call.Entries[step]
		c.Group, c.Body, c.Token, c.Receipt = e.Group, e.Body, e.Token, e.Receipt
	}
	return c
}

// groupOf is whom a chart lets serve an entry of a call.
func groupOf(c api.Chart, call api.Call, step int) int {
	name := call.Entries[step].Group
	if call.Kind == api.CmDelete || call.Kind == api.CmChange {
		name = call.Entries[step].Receipt.Group
	}
	return serverOf(c, name)
}

// serverOf goes through a chart's pieces itself.
func serverOf(c api.Chart, name string) int {
	at := placeOf(name)
	for _, p := range c.Pieces {
		if p.Range.Lo <= at && at < p.Range.Hi {
			return p.Shard
		}
	}
	return 0
}

func placeOf(name string) int {
	h := uint32(2166136261)
	for _, b := range []byte(name) {
		h = (h ^ uint32(b)) * 16777619
	}
	return int(h>>16) ^ int(h%65536)
}

// stripes is a chart whose pieces go to six shards by turns.
func stripes() api.Chart {
	var l [][2]int
	for i := range 24 {
		l = append(l, [2]int{i * span / 24, 1 + i*5%6})
	}
	return chartOf(7, l...)
}

// P18.5: which calls Start takes, and that a call that it refuses changes nothing.
func TestStartKinds(t *testing.T) {
	try := func(kind, entries int, should api.Errno) {
		t.Helper()
		name := fmt.Sprint("kind ", kind, ", entries ", entries)
		x := newClient(t, 3, 2, 1)
		wantError(t, name, x.start(callOf(kind, entries)), should)
		if should == api.OK {
			x.wantAt(name, false)
			x.wantMap(name, 0)
			return
		}
		wantIdle(x, name)
	}
	for _, n := range []int{0, 1, 2, 9, maxBatch, maxBatch + 1, 1024} {
		for _, kind := range entryKinds {
			should := api.ErrArg
			if n >= 1 && n <= maxBatch {
				should = api.OK
			}
			try(kind, n, should)
		}
		for _, kind := range shardKinds {
			should := api.ErrArg
			if n == 0 {
				should = api.OK
			}
			try(kind, n, should)
		}
		for _, kind := range otherKinds {
			try(kind, n, api.ErrArg)
		}
	}
}

// wantIdle checks a client that never started a call.
func wantIdle(x calling, name string) {
	x.t.Helper()
	if l, ended := x.c.Result(); len(l) > 0 || ended || x.c.Busy() || x.c.Num() != 0 {
		x.t.Errorf("%s: %s, ended %v, busy %v, number %d", name, brief(l), ended, x.c.Busy(), x.c.Num())
	}
	x.wantQuiet(name, 2)
	x.wantChart(name, api.Chart{})
}

// P18.5: what numbers a call may have.
func TestStartNumbers(t *testing.T) {
	change := []func(c *api.Call, n int){
		func(c *api.Call, n int) { c.Queue = n },
		func(c *api.Call, n int) { c.Max = n },
		func(c *api.Call, n int) { c.Secs = n },
	}
	for _, kind := range append(entryKinds, shardKinds...) {
		for i, set := range change {
			for _, n := range edges(0, maxTime) {
				call := callOf(kind, 1)
				if isOfShards(kind) {
					call.Entries = nil
				}
				set(&call, n.n)
				name := fmt.Sprint("kind ", kind, ", number ", i, ": ", n.n)
				x := newClient(t, 3, 2, 1)
				should := api.ErrArg
				if n.ok {
					should = api.OK
				}
				wantError(t, name, x.start(call), should)
				if !n.ok {
					wantIdle(x, name)
				}
			}
		}
	}
}

func isOfShards(kind int) bool { return kind == api.CmReceive || kind == api.CmPurge }

// P18.5: entries' texts may be anything, as may the attempt.
func TestStartTexts(t *testing.T) {
	long := string(make([]byte, 100000))
	call := api.Call{Kind: api.CmSend, Attempt: long, Entries: []api.Entry{{Group: long, Body: long, Token: long, Receipt: api.Receipt{Queue: minInt, Group: long, Seq: maxInt, Count: -1}}, {}}}
	x := newClient(t, 3, 1, 1)
	x.starts(call)
	x.wantMap("texts", 0)
	x.learns(stripes())
	for i := range 2 {
		x.wantSent("texts", 0, groupOf(stripes(), call, i), 1+i, cmdOf(call, i))
		x.answered(groupOf(stripes(), call, i), 1+i, api.Reply{Err: api.ErrLong})
	}
	x.wantAt("texts", true, api.Reply{Err: api.ErrLong}, api.Reply{Err: api.ErrLong})
}

// P18.5: while it does a call no other one is started, whatever that is, and its own goes on.
func TestStartBusy(t *testing.T) {
	x := newClient(t, 3, 3, 2)
	call := callOf(api.CmSend, 2)
	x.starts(call)
	refuse := func(name string, replies ...api.Reply) {
		t.Helper()
		for _, c := range []api.Call{callOf(api.CmSend, 1), callOf(api.CmReceive, 0), callOf(api.CmReceive, 1), callOf(99, 0), {}} {
			wantError(t, name, x.start(c), api.ErrBusy)
		}
		x.wantAt(name, false, replies...)
	}
	c := stripes()
	refuse("wanting a chart")
	x.wantMap("wanting a chart", 0)
	x.learns(c)
	refuse("knowing it")
	x.wantSent("the first step", 0, groupOf(c, call, 0), 1, cmdOf(call, 0))
	refuse("asking")
	x.answered(groupOf(c, call, 0), 1, fullReply(api.OK))
	refuse("answered once", fullReply(api.OK))
	x.wantSent("the second step", 0, groupOf(c, call, 1), 2, cmdOf(call, 1))
	x.answered(groupOf(c, call, 1), 2, fullReply(api.ErrFull))
	x.wantAt("at last", true, fullReply(api.OK), fullReply(api.ErrFull))
	x.starts(callOf(api.CmReceive, 0))
	x.wantAt("the next call's result is empty", false)
}

// P18.5: a call wants a chart if none is known, or if it goes from shard to shard.
func TestWantsChart(t *testing.T) {
	for _, kind := range append(entryKinds, shardKinds...) {
		call := callOf(kind, 0)
		if !isOfShards(kind) {
			call = callOf(kind, 1)
		}
		name := fmt.Sprint("kind ", kind)
		x := newClient(t, 3, 3, 2)
		x.starts(call)
		x.wantMap(name+", without a chart", 0)
		x = knowing(t, 3, 2, stripes())
		x.starts(call)
		if isOfShards(kind) {
			x.wantMap(name, 1)
			x.learns(stripes())
			x.wantSent(name, 0, 1, 2, cmdOf(call, 0))
			continue
		}
		group := groupOf(stripes(), call, 0)
		x.learns(chartOf(9, [2]int{0, 1})) // which it does not want
		x.wantChart(name, stripes())
		x.wantSent(name, 0, group, 2, cmdOf(call, 0))
	}
}

// P18.6: it asks for a chart each time, from node to node, and goes on there when it wants one again.
func TestMaps(t *testing.T) {
	for nodes := 1; nodes <= maxNodes; nodes++ {
		x := newClient(t, maxTime, nodes, 2)
		at := 0
		for round := range 4 {
			name := fmt.Sprint("nodes ", nodes, ", round ", round)
			x.starts(callOf(api.CmPurge, 0))
			for range 2*nodes + 1 + round {
				x.wantMap(name, at%nodes)
				at++
			}
			x.learns(chartOf(1, [2]int{0, 2}))
			x.wantSent(name, 0, 2, 1+round, cmdOf(callOf(api.CmPurge, 0), 0))
			x.answered(2, 1+round, api.Reply{N: round})
			x.wantAt(name, true, api.Reply{N: round})
			x.wantQuiet(name, 3)
		}
	}
}

// charts of one shard and of several.
func manyCharts() []api.Chart {
	l := []api.Chart{stripes(), chartOf(maxTime, [2]int{0, 6}), chartOf(2, [2]int{0, 5}, [2]int{span - 1, 1}), chartOf(3, [2]int{0, 1}, [2]int{1, 2}, [2]int{2, 1})}
	for shards := 1; shards <= maxShards; shards++ {
		c, _ := chart.First(shards)
		l = append(l, c)
	}
	return l
}

// P18.6, P18.8: a call of entries asks for one behind the other, each of who serves it, by a number of its own.
func TestEntries(t *testing.T) {
	for _, c := range manyCharts() {
		for _, kind := range entryKinds {
			for _, n := range []int{1, 2, 3, maxBatch} {
				name := fmt.Sprint("epoch ", c.Epoch, ", kind ", kind, ", entries ", n)
				call := callOf(kind, n)
				x := newClient(t, 8, 2, 3)
				x.starts(call)
				x.wantMap(name, 0)
				x.learns(c)
				var replies []api.Reply
				for i := range n {
					x.wantAt(name, false, replies...)
					x.wantSent(name, 0, groupOf(c, call, i), 1+i, cmdOf(call, i))
					x.wantQuiet(name, 3)
					// An error of one entry is not the next one's, and deliveries end nothing.
					r := fullReply(everyErrno()[i%int(api.ErrMoved)])
					x.answered(groupOf(c, call, i), 1+i, r)
					replies = append(replies, r)
				}
				x.wantAt(name, true, replies...)
				x.wantQuiet(name, 6)
				x.wantAt(name, true, replies...)
				if x.c.Num() != n {
					t.Errorf("%s: number %d", name, x.c.Num())
				}
			}
		}
	}
}

// P18.6: a delete and a change go by the receipt's group, the others by the entry's.
func TestEntryGroups(t *testing.T) {
	c := chartOf(4, [2]int{0, 3}, [2]int{span / 2, 5})
	lowAndHigh := api.Entry{Group: lowName, Receipt: api.Receipt{Group: highName}}
	highAndLow := api.Entry{Group: highName, Receipt: api.Receipt{Group: lowName}}
	ofNothing := serverOf(c, "")
	for _, x := range []struct {
		kind  int
		entry api.Entry
		group int
	}{
		{api.CmSend, lowAndHigh, 3}, {api.CmSend, highAndLow, 5}, {api.CmSend, api.Entry{}, ofNothing},
		{api.CmDelete, lowAndHigh, 5}, {api.CmDelete, highAndLow, 3}, {api.CmDelete, api.Entry{Group: lowName}, ofNothing}, {api.CmDelete, api.Entry{Group: highName}, ofNothing},
		{api.CmChange, lowAndHigh, 5}, {api.CmChange, highAndLow, 3}, {api.CmChange, api.Entry{}, ofNothing},
		{api.CmRedrive, lowAndHigh, 3}, {api.CmRedrive, highAndLow, 5}, {api.CmRedrive, api.Entry{}, ofNothing},
	} {
		y := newClient(t, 8, 2, 3)
		call := api.Call{Kind: x.kind, Entries: []api.Entry{x.entry}}
		y.starts(call)
		y.learns(c)
		y.wantSent(fmt.Sprintf("%+v", x), 0, x.group, 1, cmdOf(call, 0))
	}
}

// P18.6: a step is asked for until it is answered, from node to node; what an ask learned of leaders the next ones use.
func TestStepsAreRetried(t *testing.T) {
	c := chartOf(4, [2]int{0, 3}, [2]int{span / 2, 5})
	x := knowing(t, 8, 2, c)
	x.starts(send(lowName, highName, lowName, highName))
	x.wantSent("low", 0, 3, 2, sendCmd(lowName))
	x.wantQuiet("low", 2)
	x.wantSent("low", 1, 3, 2, sendCmd(lowName))
	x.answered(3, 2, api.Reply{Err: api.ErrLeader, N: 3})
	x.wantAt("a hint", false)
	x.wantSent("low, behind a hint", 2, 3, 2, sendCmd(lowName))
	x.answered(3, 2, api.Reply{Seq: 1})
	x.answered(3, 2, api.Reply{Seq: 1}) // the same once more
	x.wantAt("one", false, api.Reply{Seq: 1})
	x.wantSent("high", 0, 5, 3, sendCmd(highName))
	x.answered(5, 3, api.Reply{Err: api.ErrLeader, N: 0})
	x.wantSent("high, behind a hint", 1, 5, 3, sendCmd(highName))
	x.answered(3, 2, api.Reply{Seq: 1}) // the first one's, late
	x.answered(5, 3, api.Reply{Seq: 2})
	x.wantSent("low again", 2, 3, 4, sendCmd(lowName))
	x.answered(3, 4, api.Reply{Seq: 3})
	x.wantSent("high again", 1, 5, 5, sendCmd(highName))
	x.answered(5, 5, api.Reply{Seq: 4})
	x.answered(5, 5, api.Reply{Seq: 4})
	x.wantAt("all", true, api.Reply{Seq: 1}, api.Reply{Seq: 2}, api.Reply{Seq: 3}, api.Reply{Seq: 4})
}

// P18.6: what the asker takes for no answer is none of the client's.
func TestClientNoAnswer(t *testing.T) {
	c := chartOf(4, [2]int{0, 3})
	x := knowing(t, 8, 2, c)
	x.starts(send(lowName, midName))
	x.wantSent("it", 0, 3, 2, sendCmd(lowName))
	good := replyPacket(8, 3, 2, api.Reply{Seq: 9})
	for _, change := range []func(p *api.Packet){
		func(p *api.Packet) { p.Kind = api.PkAsk },
		func(p *api.Packet) { p.Kind = api.PkSnap },
		func(p *api.Packet) { p.Kind = api.PkChart },
		func(p *api.Packet) { p.To = -7 },
		func(p *api.Packet) { p.To = 8 },
		func(p *api.Packet) { p.Group = 2 },
		func(p *api.Packet) { p.Cmd.Client = 7 },
		func(p *api.Packet) { p.Cmd.Num = 1 },
		func(p *api.Packet) { p.Cmd.Num = 3 },
	} {
		for _, e := range []api.Errno{api.OK, api.ErrMoved, api.ErrLeader} {
			p := good
			p.Reply.Err = e
			change(&p)
			x.recv(p)
			x.wantAt("no answer", false)
		}
	}
	x.wantQuiet("no answer", 2)
	x.wantSent("no answer", 1, 3, 2, sendCmd(lowName))
	x.recv(good)
	x.wantAt("an answer", false, api.Reply{Seq: 9})
}

// P18.6: which charts it takes while it wants one.
func TestRecvChart(t *testing.T) {
	known := chartOf(5, [2]int{0, 1}, [2]int{span / 2, 2})
	lesser, equal, greater := chartOf(4, [2]int{0, 3}), chartOf(5, [2]int{0, 4}), chartOf(6, [2]int{0, 5})
	may := func(name string, told, should api.Chart) {
		t.Helper()
		x := knowing(t, 8, 2, known)
		x.starts(callOf(api.CmReceive, 0))
		x.wantMap(name, 1)
		x.learns(told)
		x.wantChart(name, should)
		x.wantSent(name, 0, should.Pieces[0].Shard, 2, cmdOf(callOf(api.CmReceive, 0), 0))
		// It wants none any more.
		x.learns(chartOf(maxTime, [2]int{0, 6}))
		x.wantChart(name, should)
		x.wantQuiet(name, 2)
	}
	may("lesser", lesser, known)
	may("the same epoch", equal, equal)
	may("the same", known, known)
	may("greater", greater, greater)
	for name, bad := range badCharts() {
		x := newClient(t, 8, 2, 2)
		x.starts(send(lowName))
		x.learns(bad)
		x.wantChart(name, api.Chart{})
		x.wantMap(name, 0)
		x.learns(lesser)
		x.wantStays(name, lesser, bad)
	}
}

// wantStays lets a client that was told its first chart go on, and checks that one that may not be does not take that one's place.
func (x calling) wantStays(name string, known, bad api.Chart) {
	x.t.Helper()
	x.wantChart(name, known)
	x.wantSent(name, 0, 3, 1, sendCmd(lowName))
	x.answered(3, 1, api.Reply{Err: api.ErrMoved})
	x.learns(bad)
	x.wantChart(name, known)
	x.wantMap(name, 1)
	x.learns(bad)
	x.wantMap(name, 0)
	x.learns(known)
	x.wantSent(name, 0, 3, 1, sendCmd(lowName))
}

// badCharts are some that may not be: with one without places that somebody serves, or with places that nobody does.
func badCharts() map[string]api.Chart {
	gap := chartOf(9, [2]int{0, 1}, [2]int{span / 2, 2})
	gap.Pieces[1].Range.Lo++
	twice := chartOf(9, [2]int{0, 1}, [2]int{span / 2, 2})
	twice.Pieces[1].Range.Lo--
	falling := chartOf(9, [2]int{0, 1}, [2]int{span / 2, 2})
	falling.Pieces[0], falling.Pieces[1] = falling.Pieces[1], falling.Pieces[0]
	short := chartOf(9, [2]int{0, 1})
	short.Pieces[0].Range.Hi--
	return map[string]api.Chart{
		"none": {}, "without pieces": {Epoch: 9}, "epoch 0": chartOf(0, [2]int{0, 1}), "epoch -1": chartOf(-1, [2]int{0, 1}),
		"a great epoch": chartOf(maxTime+1, [2]int{0, 1}), "shard 0": chartOf(9, [2]int{0, 0}), "shard 0 of some": chartOf(9, [2]int{0, 1}, [2]int{span / 2, 0}),
		"shard 7": chartOf(9, [2]int{0, 7}), "shard -1": chartOf(9, [2]int{0, -1}), "one shard twice": chartOf(9, [2]int{0, 1}, [2]int{span / 2, 1}),
		"a gap": gap, "a place twice": twice, "falling": falling, "short": short,
	}
}

// P18.6: a chart counts only if it is told to this client, by a PkChart; by whom counts for nothing.
func TestRecvChartOf(t *testing.T) {
	c := chartOf(4, [2]int{0, 3})
	x := newClient(t, 8, 2, 2)
	x.learns(c) // it does nothing, and wants none
	x.wantChart("at first", api.Chart{})
	x.starts(send(lowName))
	for _, to := range []int{minInt, -9, -7, -1, 0, 1, 8, maxInt} {
		x.recv(api.Packet{Kind: api.PkChart, From: 1, To: to, Chart: c})
	}
	for _, kind := range []int{minInt, -1, 0, api.PkPaxos, api.PkAsk, api.PkReply, api.PkMap, api.PkPull, api.PkSnap, 8, maxInt} {
		x.recv(api.Packet{Kind: kind, From: 1, To: -8, Chart: c})
	}
	x.wantChart("to others", api.Chart{})
	x.wantMap("to others", 0)
	x.recv(api.Packet{Kind: api.PkChart, From: maxInt, To: -8, Group: 5, Chart: c, Cmd: fullCmd(), Reply: fullReply(3), Data: []string{"a"}})
	x.wantChart("to it", c)
	x.wantSent("to it", 0, 3, 1, sendCmd(lowName))
	x.learns(chartOf(5, [2]int{0, 4}))
	x.wantChart("asking", c)
	x.answered(3, 1, api.Reply{})
	x.learns(chartOf(5, [2]int{0, 4}))
	x.wantChart("behind the call", c)
}

// P18.6, P18.8: an entry that has moved is asked for by its number, of who serves it by the next chart.
func TestMoved(t *testing.T) {
	for _, kind := range entryKinds {
		call := callOf(kind, 3)
		name := fmt.Sprint("kind ", kind)
		before, after, last := chartOf(5, [2]int{0, 1}), chartOf(6, [2]int{0, 2}), chartOf(7, [2]int{0, 6}, [2]int{1, 4})
		x := knowing(t, 8, 2, before)
		x.starts(call)
		x.wantSent(name, 0, 1, 2, cmdOf(call, 0))
		x.answered(1, 2, api.Reply{Seq: 1})
		x.wantSent(name, 0, 1, 3, cmdOf(call, 1))
		x.answered(1, 3, fullReply(api.ErrMoved))
		for i := range 4 {
			x.wantAt(name, false, api.Reply{Seq: 1})
			x.wantMap(name, (1+i)%3)
		}
		x.answered(1, 3, fullReply(api.ErrMoved)) // the same once more
		x.learns(after)
		x.wantSent(name, 0, 2, 3, cmdOf(call, 1))
		x.answered(1, 3, api.Reply{Seq: 77}) // of whom it asks no more
		x.wantQuiet(name, 2)
		x.wantSent(name, 1, 2, 3, cmdOf(call, 1))
		x.answered(2, 3, fullReply(api.ErrMoved))
		x.wantMap(name, 2)
		x.learns(before) // what it knows is greater, and stays
		x.wantChart(name, after)
		x.wantSent(name, 1, 2, 3, cmdOf(call, 1))
		x.answered(2, 3, api.Reply{Err: api.ErrMoved})
		x.learns(last)
		x.wantSent(name, 0, 4, 3, cmdOf(call, 1))
		x.wantAt(name, false, api.Reply{Seq: 1})
		x.answered(4, 3, api.Reply{Seq: 2})
		x.wantSent(name, 0, 4, 4, cmdOf(call, 2))
		x.answered(4, 4, api.Reply{Err: api.ErrQueue})
		x.wantAt(name, true, api.Reply{Seq: 1}, api.Reply{Seq: 2}, api.Reply{Err: api.ErrQueue})
		x.wantQuiet(name, 3)
	}
}

// P18.6: only its entry's place tells of whom it is asked again.
func TestMovedApart(t *testing.T) {
	before, after := chartOf(1, [2]int{0, 1}, [2]int{span / 2, 2}), chartOf(2, [2]int{0, 3}, [2]int{2000, 1}, [2]int{span / 2, 2}, [2]int{span - 2000, 4})
	x := knowing(t, 8, 1, before)
	x.starts(api.Call{Kind: api.CmDelete, Entries: []api.Entry{{Group: lowName, Receipt: api.Receipt{Group: highName}}, {Group: highName, Receipt: api.Receipt{Group: midName}}}})
	first := api.Cmd{Kind: api.CmDelete, Group: lowName, Receipt: api.Receipt{Group: highName}}
	x.wantSent("by the receipt", 0, 2, 2, first)
	x.answered(2, 2, api.Reply{Err: api.ErrMoved})
	x.wantMap("moved", 1)
	x.learns(after)
	x.wantSent("by the receipt again", 0, 4, 2, first)
	x.answered(4, 2, api.Reply{})
	x.wantSent("the next one", 0, 1, 3, api.Cmd{Kind: api.CmDelete, Group: highName, Receipt: api.Receipt{Group: midName}})
}

// P18.6: what it held to lead a group stays, while the entry moves there and back.
func TestMovedBack(t *testing.T) {
	x := knowing(t, 8, 1, chartOf(1, [2]int{0, 1}))
	x.starts(send(lowName))
	x.wantSent("there", 0, 1, 2, sendCmd(lowName))
	x.answered(1, 2, api.Reply{Err: api.ErrLeader, N: 3})
	x.wantSent("there", 2, 1, 2, sendCmd(lowName))
	x.answered(1, 2, api.Reply{Err: api.ErrMoved})
	x.learns(chartOf(2, [2]int{0, 2}))
	x.wantSent("elsewhere", 0, 2, 2, sendCmd(lowName))
	x.wantQuiet("elsewhere", 1)
	x.wantSent("elsewhere", 1, 2, 2, sendCmd(lowName))
	x.answered(2, 2, api.Reply{Err: api.ErrMoved})
	x.learns(chartOf(3, [2]int{0, 1}))
	x.wantSent("back", 2, 1, 2, sendCmd(lowName))
	x.answered(1, 2, api.Reply{Err: api.ErrMoved})
	x.learns(chartOf(4, [2]int{0, 2}))
	x.wantSent("elsewhere again", 1, 2, 2, sendCmd(lowName))
}

// P18.6: while it wants a chart, it asks for what has moved still: it takes an answer to that number, and goes on wanting.
func TestMovedAndAnswered(t *testing.T) {
	x := knowing(t, 8, 1, chartOf(1, [2]int{0, 1}))
	x.starts(send(lowName, highName))
	x.wantSent("it", 0, 1, 2, sendCmd(lowName))
	x.answered(1, 2, api.Reply{Err: api.ErrMoved})
	x.answered(1, 2, api.Reply{Seq: 5})
	x.wantAt("answered", false, api.Reply{Seq: 5})
	x.wantMap("answered", 1)
	x.learns(chartOf(2, [2]int{0, 2}))
	x.wantSent("the next one", 0, 2, 3, sendCmd(highName))
	x.answered(2, 3, api.Reply{Err: api.ErrMoved})
	x.answered(2, 3, api.Reply{Seq: 6})
	x.wantAt("the last one", true, api.Reply{Seq: 5}, api.Reply{Seq: 6})
	x.wantQuiet("the last one", 2)
	x.starts(send(midName))
	x.wantMap("the next call", 2)
	x.learns(chartOf(3, [2]int{0, 3}))
	x.wantSent("the next call", 0, 3, 4, sendCmd(midName))
}

// P18.6: a receive goes from shard to shard, until one delivers; errors, ErrMoved too, are replies.
func TestReceive(t *testing.T) {
	call := callOf(api.CmReceive, 0)
	full, empty := fullReply(api.OK), api.Reply{About: []api.Range{from(3, 4)}}
	for _, c := range manyCharts() {
		shards := shardsOf(c)
		for got := range len(shards) + 1 {
			for _, e := range []api.Errno{api.OK, api.ErrQueue, api.ErrMoved, api.ErrArg} {
				name := fmt.Sprint("epoch ", c.Epoch, ", shards ", shards, ", delivered by ", got, ", error ", int(e))
				x := newClient(t, 8, 3, 1)
				x.starts(call)
				x.wantMap(name, 0)
				x.learns(c)
				var replies []api.Reply
				for i, shard := range shards {
					x.wantAt(name, false, replies...)
					x.wantSent(name, 0, shard, 1+i, cmdOf(call, 0))
					r := empty
					if i == got {
						r = full
					}
					r.Err = e
					x.answered(shard, 1+i, r)
					replies = append(replies, r)
					if i == got {
						break
					}
				}
				x.wantAt(name, true, replies...)
				x.wantQuiet(name, 4)
			}
		}
	}
}

// shardsOf goes through a chart's pieces itself.
func shardsOf(c api.Chart) []int {
	var l []int
	for shard := 1; shard <= maxShards; shard++ {
		for _, p := range c.Pieces {
			if p.Shard == shard {
				l = append(l, shard)
				break
			}
		}
	}
	return l
}

// P18.6: a purge goes through all shards, whatever they answer.
func TestPurge(t *testing.T) {
	call := callOf(api.CmPurge, 0)
	for _, c := range manyCharts() {
		shards := shardsOf(c)
		name := fmt.Sprint("epoch ", c.Epoch, ", shards ", shards)
		x := newClient(t, 8, 3, 1)
		x.starts(call)
		x.learns(c)
		var replies []api.Reply
		for i, shard := range shards {
			x.wantAt(name, false, replies...)
			x.wantSent(name, 0, shard, 1+i, cmdOf(call, 0))
			r := fullReply([]api.Errno{api.OK, api.ErrMoved, api.ErrQueue}[i%3])
			x.answered(shard, 1+i, r)
			replies = append(replies, r)
		}
		x.wantAt(name, true, replies...)
		x.wantQuiet(name, 4)
	}
}

// P18.6: it goes through the shards as they were when its first step began, and the next call through those of a new chart.
func TestShardsAsTheyWere(t *testing.T) {
	for _, kind := range shardKinds {
		call := callOf(kind, 0)
		name := fmt.Sprint("kind ", kind)
		x := newClient(t, 8, 3, 1)
		x.starts(call)
		x.wantMap(name, 0)
		x.learns(chartOf(1, [2]int{0, 2}, [2]int{9, 4}))
		x.learns(chartOf(2, [2]int{0, 1})) // which comes too late
		x.wantSent(name, 0, 2, 1, cmdOf(call, 0))
		x.learns(chartOf(3, [2]int{0, 5}))
		x.answered(2, 1, api.Reply{Err: api.ErrMoved})
		x.learns(chartOf(4, [2]int{0, 6}, [2]int{9, 5}))
		x.wantSent(name, 0, 4, 2, cmdOf(call, 0))
		x.answered(4, 2, api.Reply{Err: api.ErrMoved})
		x.wantAt(name, true, api.Reply{Err: api.ErrMoved}, api.Reply{Err: api.ErrMoved})
		x.wantChart(name, chartOf(1, [2]int{0, 2}, [2]int{9, 4}))
		x.starts(call)
		x.wantMap(name, 1)
		x.learns(chartOf(4, [2]int{0, 6}, [2]int{9, 5}))
		for i, shard := range []int{5, 6} {
			x.wantSent(name, 0, shard, 3+i, cmdOf(call, 0))
			x.answered(shard, 3+i, api.Reply{})
		}
		x.wantAt(name, true, api.Reply{}, api.Reply{})
	}
}

// P18.7: Result and Busy ahead of a call, within it, behind it, and in the next one; Chart through all of it.
func TestResult(t *testing.T) {
	x := newClient(t, 8, 3, 1)
	wantIdle(x, "ahead of all")
	c := chartOf(1, [2]int{0, 1})
	x.starts(send(lowName, highName))
	x.wantAt("started", false)
	x.wantChart("started", api.Chart{})
	x.wantMap("started", 0)
	x.learns(c)
	x.wantAt("told a chart", false)
	x.wantSent("asking", 0, 1, 1, sendCmd(lowName))
	x.wantAt("asking", false)
	x.answered(1, 1, fullReply(api.OK))
	x.wantAt("within", false, fullReply(api.OK))
	x.wantSent("asking", 0, 1, 2, sendCmd(highName))
	x.answered(1, 2, fullReply(api.ErrFull))
	for range 3 {
		// wantAt and wantChart write over what they were told.
		x.wantAt("behind", true, fullReply(api.OK), fullReply(api.ErrFull))
		x.wantChart("behind", c)
		x.wantQuiet("behind", 1)
	}
	wantError(t, "a call that may not be", x.start(api.Call{Kind: api.CmSend}), api.ErrArg)
	x.wantAt("behind a call that may not be", true, fullReply(api.OK), fullReply(api.ErrFull))
	x.starts(send(midName))
	x.wantAt("the next one", false)
	x.wantChart("the next one", c)
}

// P18.8, rule 5: what is told and asked is its own: a call, its entries, a chart and a reply are not kept as they were handed in.
func TestClientMemory(t *testing.T) {
	call := callOf(api.CmSend, 3)
	c := stripes()
	x := newClient(t, 8, 1, 1)
	x.starts(call)
	x.learns(c)
	for i := range 3 {
		for range 3 {
			x.wantSent("the step", 0, groupOf(c, call, i), 1+i, cmdOf(call, i))
			x.wantQuiet("the step", 1)
			x.wantChart("the step", c)
		}
		x.answered(groupOf(c, call, i), 1+i, fullReply(api.OK))
		for range 2 {
			l, _ := x.c.Result()
			want(t, "what was answered", takeOver(l[i]), fullReply(api.OK))
		}
	}
}

// The chapter's example.
func TestExample(t *testing.T) {
	x := newClient(t, 1, 1, 1)
	x.starts(send("g"))
	x.wantMap("Tick", 0)
	c, _ := chart.First(1)
	x.learns(c)
	x.wantSent("Tick", 0, 1, 1, sendCmd("g"))
	x.answered(1, 1, api.Reply{Seq: 1})
	x.wantAt("the result", true, api.Reply{Seq: 1})
}

// Ways: a client is an asker, too, so that it tells its number: of each step one more, as soon as that is asked for.
func TestClientNum(t *testing.T) {
	x := knowing(t, 8, 1, chartOf(1, [2]int{0, 1}))
	wantNum := func(n int) {
		t.Helper()
		if x.c.Num() != n {
			t.Errorf("its number is %d, not %d", x.c.Num(), n)
		}
	}
	for i := range 5 {
		num := 1 + 2*i
		wantNum(num)
		x.starts(send(lowName, highName))
		for range 2 {
			wantNum(num)
			num++
			for range 3 {
				x.tick()
				wantNum(num)
			}
			x.answered(1, num, api.Reply{Err: api.ErrMoved})
			wantNum(num)
			x.tick()
			x.learns(chartOf(1, [2]int{0, 1}))
			wantNum(num)
			x.answered(1, num, api.Reply{})
		}
		x.wantAt("it", true, api.Reply{}, api.Reply{})
	}
}

// Rule 1: of a nil client, and of one that no call made.
func TestNoClient(t *testing.T) {
	for name, c := range map[string]*front.Client{"nil": nil, "plain": {}} {
		x := calling{t, c, 0}
		for range 2 {
			for _, kind := range append(append(entryKinds, shardKinds...), otherKinds...) {
				wantError(t, name, x.start(callOf(kind, 0)), api.ErrNil)
				wantError(t, name, x.start(callOf(kind, 1)), api.ErrNil)
			}
			x.wantQuiet(name, 2)
			x.learns(chartOf(1, [2]int{0, 1}))
			x.answered(0, 0, fullReply(api.OK))
			x.recv(api.Packet{})
			if l, ended := c.Result(); len(l) > 0 || ended || c.Busy() {
				t.Errorf("%s: %s, ended %v, busy %v", name, brief(l), ended, c.Busy())
			}
			x.wantChart(name, api.Chart{})
		}
	}
	x := asking{t, &(&front.Client{}).Asker, 0}
	x.wantState("the asker of a plain client", false, 0)
	wantError(t, "the asker of a plain client", x.ask(0, api.Cmd{}), api.ErrNil)
}

// Rule 1: whoever lets a client's asker ask for something else: nothing panics, and it ends.
func TestAskBeside(t *testing.T) {
	for _, kind := range append(entryKinds, shardKinds...) {
		call := callOf(kind, 0)
		if !isOfShards(kind) {
			call = callOf(kind, 2)
		}
		x := newClient(t, 8, 3, 1)
		beside := func() {
			x.c.Ask(3, fullCmd())
			x.c.Turn(2)
		}
		beside()
		x.tick()
		x.answered(2, 1, api.Reply{})
		wantNoCall(x)
		beside()
		x.starts(call)
		for i := 0; i < 40 && x.c.Busy(); i++ {
			x.learns(chartOf(1, [2]int{0, 2}))
			x.tick()
			x.answered(2, x.c.Num(), api.Reply{Err: []api.Errno{api.ErrMoved, api.OK}[i%2]})
			beside()
			x.learns(chartOf(1, [2]int{0, 2}))
		}
		if x.c.Busy() {
			t.Errorf("kind %d: it does not end", kind)
		}
		x.learns(chartOf(1, [2]int{0, 2}))
		x.answered(2, x.c.Num(), api.Reply{Err: api.ErrMoved})
		x.wantQuiet("behind it", 2)
	}
}

// Rule 1: likewise where a call ended while the client wanted a chart.
func TestAskBehind(t *testing.T) {
	x := knowing(t, 8, 1, chartOf(1, [2]int{0, 1}))
	x.starts(send(lowName))
	x.tick()
	x.answered(1, 2, api.Reply{Err: api.ErrMoved})
	x.answered(1, 2, api.Reply{Seq: 5})
	wantError(t, "Ask", x.c.Ask(3, fullCmd()), api.OK)
	x.learns(chartOf(2, [2]int{0, 2}))
	x.wantChart("behind the call", chartOf(2, [2]int{0, 2}))
	x.wantAt("behind the call", true, api.Reply{Seq: 5})
	x.wantQuiet("behind the call", 2)
}

func wantNoCall(x calling) {
	x.t.Helper()
	if l, ended := x.c.Result(); len(l) > 0 || ended || x.c.Busy() {
		x.t.Errorf("beside a call: %s, ended %v, busy %v", brief(l), ended, x.c.Busy())
	}
}
