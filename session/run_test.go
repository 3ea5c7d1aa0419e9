package session_test

import (
	"math/rand/v2"
	"slices"
	"testing"

	"raceway/api"
	"raceway/session"
)

// plain is a table in the document's words: entries in a list, in the order of their coming.
type plain struct{ l []entry }

func (p *plain) at(client int) int {
	return slices.IndexFunc(p.l, func(x entry) bool { return x.client == client })
}

func (p *plain) last(client int) int {
	if i := p.at(client); i >= 0 {
		return p.l[i].num
	}
	return 0
}

func isNumber(n int) bool { return n >= 1 && n <= maxTime }

func (p *plain) note(x entry) api.Errno {
	i := p.at(x.client)
	if !isNumber(x.client) || !isNumber(x.num) {
		return api.ErrArg
	}
	if i >= 0 && x.num <= p.l[i].num {
		return api.ErrOld
	}
	if i < 0 && len(p.l) == maxClients {
		return api.ErrFull
	}
	if i < 0 {
		p.l = append(p.l, x)
	} else {
		p.l[i] = x
	}
	return api.OK
}

// merge takes entries of right texts.
func (p *plain) merge(l []entry) api.Errno {
	clients := map[int]int{}
	for _, x := range slices.Concat(p.l, l) {
		if !isNumber(x.client) || !isNumber(x.num) {
			return api.ErrArg
		}
		clients[x.client]++
	}
	if len(clients) > maxClients {
		return api.ErrFull
	}
	for _, x := range l {
		if x.num > p.last(x.client) {
			p.note(x)
		}
	}
	return api.OK
}

func (p *plain) sorted() []entry {
	l := slices.Clone(p.l)
	slices.SortFunc(l, func(a, b entry) int { return a.client - b.client })
	return l
}

// told tells what has a text, with Data or without.
func (p *plain) told(data bool) []entry {
	var l []entry
	for _, x := range p.sorted() {
		if x.reply.Err >= 0 && (data || len(x.reply.Data) == 0) {
			l = append(l, x)
		}
	}
	return l
}

// pair is a table, and what it must be.
type pair struct {
	s *session.Table
	p plain
}

// run lets some tables go their ways by chance.
type run struct {
	t       *testing.T
	random  *rand.Rand
	pairs   []pair
	clients int
	nums    int
}

func (r *run) entry() entry {
	kinds := append(replies(), api.Reply{Err: -1})
	x := entry{1 + r.random.IntN(r.clients), 1 + r.random.IntN(r.nums), kinds[r.random.IntN(len(kinds))]}
	if x.reply.Err >= 0 {
		x.reply.Seq = r.random.IntN(1000)
	}
	switch r.random.IntN(60) {
	case 0:
		x.client = 0
	case 1:
		x.num = 0
	case 2:
		x.num = maxTime + 1
	}
	return x
}

func (r *run) note(a *pair) {
	x := r.entry()
	was := a.p.last(x.client)
	if r.random.IntN(2) == 0 {
		x.num = was + r.random.IntN(3) - 1
	}
	want := a.p.note(x)
	wantError(r.t, "Note of "+brief(x), note(r.t, a.s, x), want)
	if want == api.OK {
		wantLook(r.t, a.s, x.client, x.num, &x.reply, api.OK)
	}
}

func (r *run) look(a *pair) {
	client := 1 + r.random.IntN(r.clients)
	last := a.p.last(client)
	for n := last - 1; n <= last+1; n++ {
		switch {
		case n < 1:
			wantLook(r.t, a.s, client, n, nil, api.ErrArg)
		case n < last:
			wantLook(r.t, a.s, client, n, nil, api.ErrOld)
		case n > last:
			wantLook(r.t, a.s, client, n, nil, api.OK)
		default:
			wantLook(r.t, a.s, client, n, &a.p.l[a.p.at(client)].reply, api.OK)
		}
	}
}

// mergeOther merges what another table, or this one, tells.
func (r *run) mergeOther(a *pair) {
	from := &r.pairs[r.random.IntN(len(r.pairs))]
	data := r.random.IntN(2) == 0
	texts := from.s.Dump()
	if data {
		texts = from.s.All()
	}
	told := from.p.told(data)
	was := a.p.sorted()
	want := a.p.merge(told)
	wantError(r.t, "Merge of another", merge(r.t, a.s, texts), want)
	if want != api.OK {
		return
	}
	for _, x := range told {
		later := slices.ContainsFunc(was, func(y entry) bool { return y.client == x.client && y.num >= x.num })
		if !later {
			wantLook(r.t, a.s, x.client, x.num, &x.reply, api.OK)
		}
	}
}

// mergeSome merges texts that no table told together.
func (r *run) mergeSome(a *pair) {
	var l []entry
	for range r.random.IntN(6) {
		if x := r.entry(); x.reply.Err >= 0 {
			l = append(l, x)
		}
	}
	texts := textsOf(l)
	if len(texts) > 0 && r.random.IntN(4) == 0 {
		i := r.random.IntN(len(texts))
		texts[i] = texts[i][:r.random.IntN(len(texts[i]))]
		wantError(r.t, "Merge of a cut text", merge(r.t, a.s, texts), api.ErrArg)
		return
	}
	wantError(r.t, "Merge of some", merge(r.t, a.s, texts), a.p.merge(l))
}

// copyOver lets another table be a copy of this one.
func (r *run) copyOver(a *pair) {
	i := r.random.IntN(len(r.pairs))
	r.pairs[i] = pair{a.s.Copy(), plain{slices.Clone(a.p.l)}}
}

func (r *run) step() {
	a := &r.pairs[r.random.IntN(len(r.pairs))]
	was := a.p.sorted()
	switch r.random.IntN(16) {
	case 0:
		r.mergeOther(a)
	case 1, 2:
		r.mergeSome(a)
	case 3:
		r.copyOver(a)
		return
	case 4, 5:
		r.look(a)
	default:
		r.note(a)
	}
	for _, x := range was {
		if a.s.Last(x.client) < x.num {
			r.t.Fatalf("the number of client %d has fallen from %d to %d", x.client, x.num, a.s.Last(x.client))
		}
	}
}

func (r *run) check() {
	for _, a := range r.pairs {
		wantState(r.t, "in a run", a.s, a.p.sorted()...)
		wantTexts(r.t, "Dump in a run", a.s.Dump(), textsOf(a.p.told(false))...)
		wantTexts(r.t, "All in a run", a.s.All(), textsOf(a.p.told(true))...)
	}
}

// P13.4: runs of calls on few clients and on many, held against tables in the document's words.
func TestRuns(t *testing.T) {
	for _, c := range []struct{ tables, clients, nums, steps int }{{1, 3, 6, 200}, {3, 5, 40, 400}, {3, 70, 8, 600}, {2, 130, 1 << 39, 600}, {4, 66, 20, 800}} {
		for seed := range 20 {
			r := &run{t: t, random: rand.New(rand.NewPCG(uint64(seed), uint64(c.clients))), clients: c.clients, nums: c.nums}
			for range c.tables {
				r.pairs = append(r.pairs, pair{s: session.New()})
			}
			for i := range c.steps {
				r.step()
				if i%20 == 19 {
					r.check()
				}
				if t.Failed() {
					t.Fatalf("run %+v, seed %d, step %d", c, seed, i)
				}
			}
		}
	}
}
