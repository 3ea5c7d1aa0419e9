package queue

import (
	"slices"

	"raceway/api"
	"raceway/group"
	"raceway/place"
)

// refusal is an error, told alone.
func refusal(e api.Errno) api.Reply {
	return api.Reply{Err: e}
}

func isBatch(n int) bool {
	return n >= 1 && n <= api.MaxBatch
}

// scope tells what a command is about, rising, as few ranges as can be.
func (x *Engine) scope(about []api.Range) []api.Range {
	if len(about) == 0 {
		return slices.Clone(x.served)
	}
	return common(x.served, place.Join(about))
}

// common tells the places that two lists have, both rising and as few ranges as can be: so is what it tells.
func common(a, b []api.Range) []api.Range {
	var both []api.Range
	for len(a) > 0 && len(b) > 0 {
		if r := place.Meet(a[0], b[0]); r != (api.Range{}) {
			both = append(both, r)
		}
		// Who ends first meets nothing that is still to come.
		if a[0].Hi < b[0].Hi {
			a = a[1:]
		} else {
			b = b[1:]
		}
	}
	return both
}

func (x *Engine) isAbout(name string, about []api.Range) bool {
	return isIn(x.scope(about), name)
}

// look lets what is too old in a group go. Of a group that there is not it tells a fresh one, which does not come by that.
func (x *Engine) look(at key, now int) api.Group {
	g, ok := x.groups[at]
	if !ok {
		return group.Fresh()
	}
	g = group.Expire(g, now, x.queues[at.queue].Keep)
	x.groups[at] = g
	return g
}

// lookAll looks at the groups that a queue has in some places, and tells their names, rising.
func (x *Engine) lookAll(queue int, places []api.Range, now int) []string {
	names := x.names(queue, places)
	for _, name := range names {
		x.look(key{queue, name}, now)
	}
	return names
}

func (x *Engine) send(c api.Cmd, about []api.Range) api.Reply {
	switch {
	case !x.hasQueue(c.Queue):
		return refusal(api.ErrQueue)
	case c.Group == "":
		return refusal(api.ErrArg)
	case !x.isAbout(c.Group, about):
		return refusal(api.ErrMoved)
	}
	at := key{c.Queue, c.Group}
	g, seq, e := group.Send(x.look(at, c.Time), c.Time, c.Queue, c.Body, c.Token)
	if e != api.OK {
		return refusal(e)
	}
	x.groups[at] = g
	return api.Reply{Seq: seq}
}

func (x *Engine) receive(c api.Cmd, about []api.Range) api.Reply {
	switch {
	case !x.hasQueue(c.Queue):
		return refusal(api.ErrQueue)
	case !isBatch(c.Max) || c.Secs > api.MaxVis:
		return refusal(api.ErrArg)
	}
	places := x.scope(about)
	names := x.lookAll(c.Queue, places, c.Time)
	got := gather(c, names, x.again)
	if len(got) == 0 {
		got = gather(c, names, x.deliver)
	}
	return api.Reply{Got: got, About: places}
}

// gather puts together what the groups tell one by one, until there are as many as the command asks for.
func gather(c api.Cmd, names []string, tell func(c api.Cmd, name string, most int) []api.Kept) []api.Got {
	var got []api.Got
	for _, name := range names {
		if len(got) >= c.Max {
			break
		}
		for _, m := range tell(c, name, c.Max-len(got)) {
			receipt := api.Receipt{Queue: c.Queue, Group: name, Seq: m.Seq, Count: m.Count}
			got = append(got, api.Got{Receipt: receipt, Body: m.Body, Sent: m.Sent})
		}
	}
	return got
}

// again tells what the command's attempt got of a group, and still has.
func (x *Engine) again(c api.Cmd, name string, most int) []api.Kept {
	return group.Again(x.groups[key{c.Queue, name}], c.Time, most, c.Attempt)
}

// deliver delivers a group's messages; those that were delivered too often become dead letters.
func (x *Engine) deliver(c api.Cmd, name string, most int) []api.Kept {
	at := key{c.Queue, name}
	grave := key{x.queues[c.Queue].Dead, name}
	limit, room := 0, 0
	if grave.queue != noQueue {
		limit, room = x.queues[c.Queue].Max, api.MaxKept-len(x.look(grave, c.Time).Kept)
	}
	g, got, dead := group.Receive(x.groups[at], c.Time, most, c.Secs, limit, room)
	if len(got) > 0 {
		g.Attempt = c.Attempt
	}
	x.groups[at] = g
	if len(dead) > 0 {
		x.groups[grave] = group.Put(x.look(grave, c.Time), c.Time, dead)
	}
	return got
}

// settle ends a delivery, or changes how long it lasts.
func (x *Engine) settle(c api.Cmd, about []api.Range) api.Reply {
	at := key{c.Receipt.Queue, c.Receipt.Group}
	isChange := c.Kind == api.CmChange
	switch {
	case !x.hasQueue(at.queue):
		return refusal(api.ErrQueue)
	case isChange && c.Secs > api.MaxVis:
		return refusal(api.ErrArg)
	case !x.isAbout(at.name, about):
		return refusal(api.ErrMoved)
	}
	g := x.look(at, c.Time)
	var e api.Errno
	if isChange {
		g, e = group.Change(g, c.Time, c.Receipt.Seq, c.Receipt.Count, c.Secs)
	} else {
		g, e = group.Delete(g, c.Time, c.Receipt.Seq, c.Receipt.Count)
	}
	if e != api.OK {
		return refusal(e)
	}
	// A fresh one does not come by this.
	if _, ok := x.groups[at]; ok {
		x.groups[at] = g
	}
	return api.Reply{}
}

func (x *Engine) purge(c api.Cmd, about []api.Range) api.Reply {
	if !x.hasQueue(c.Queue) {
		return refusal(api.ErrQueue)
	}
	r := api.Reply{About: x.scope(about)}
	for _, name := range x.lookAll(c.Queue, r.About, c.Time) {
		at := key{c.Queue, name}
		g, n := group.Purge(x.groups[at])
		x.groups[at] = g
		r.N += n
	}
	return r
}

func (x *Engine) redrive(c api.Cmd, about []api.Range) api.Reply {
	switch {
	case !x.hasQueue(c.Queue):
		return refusal(api.ErrQueue)
	case !isBatch(c.Max):
		return refusal(api.ErrArg)
	case !x.isAbout(c.Group, about):
		return refusal(api.ErrMoved)
	}
	at := key{c.Queue, c.Group}
	if group.Flying(x.look(at, c.Time), c.Time) {
		return refusal(api.ErrBusy)
	}
	n := 0
	for n < c.Max && x.bringBack(at, c.Time) {
		n++
	}
	return api.Reply{N: n}
}

// bringBack puts a group's first message into the queue from which it came, and tells whether it could.
func (x *Engine) bringBack(at key, now int) bool {
	g := x.groups[at]
	if len(g.Kept) == 0 || !x.hasQueue(g.Kept[0].From) {
		return false
	}
	// A message of the queue's own is at home already: Take leaves it.
	home := key{g.Kept[0].From, at.name}
	to := x.look(home, now)
	rest, first, e := group.Take(g, now, at.queue, 1, api.MaxKept-len(to.Kept))
	if e != api.OK || len(first) == 0 {
		return false
	}
	x.groups[at], x.groups[home] = rest, group.Put(to, now, first)
	return true
}
