package chart_test

import (
	"fmt"
	"maps"
	"math/rand/v2"
	"slices"
	"testing"

	"raceway/api"
	"raceway/chart"
)

// someRange gives ranges of all sizes, often with ends at a chart's borders.
func someRange(rnd *rand.Rand, c api.Chart) api.Range {
	end := func() int {
		switch rnd.IntN(4) {
		case 0:
			return rnd.IntN(span + 1)
		case 1:
			return []int{0, 1, span - 1, span}[rnd.IntN(4)]
		}
		p := c.Pieces[rnd.IntN(len(c.Pieces))].Range
		return []int{p.Lo, p.Hi, p.Lo + 1, p.Hi - 1}[rnd.IntN(4)]
	}
	for {
		if a, b := end(), end(); a != b {
			return from(min(a, b), max(a, b))
		}
	}
}

// wantSheet checks that a chart is just who a sheet says, and that each place is served by just one shard.
func wantSheet(t *testing.T, name string, c api.Chart, s sheet) {
	t.Helper()
	wantChart(t, name, c, s.chart())
	if !chart.May(c) {
		t.Fatalf("%s: it may not be: %s", name, brief(c))
	}
	count := make([]int, span)
	for _, shard := range chart.Shards(c) {
		for _, r := range chart.Ranges(c, shard) {
			for p := r.Lo; p < r.Hi; p++ {
				count[p]++
				if s.serves[p] != shard {
					t.Fatalf("%s: Ranges tells that %d serves %d, not %d", name, shard, p, s.serves[p])
				}
			}
		}
	}
	for p, n := range count {
		if n != 1 {
			t.Fatalf("%s: %d shards serve %d", name, n, p)
		}
	}
}

// P15.7, P15.3: runs of moves, held against a plain sheet of all places.
func TestRunsOfMoves(t *testing.T) {
	for seed := range 40 {
		rnd := rand.New(rand.NewPCG(15, uint64(seed)))
		c, _ := chart.First(1 + seed%maxShards)
		s := sheetOf(c)
		for i := range 60 {
			name := fmt.Sprint("run ", seed, ", move ", i)
			r, to := someRange(rnd, c), 1+rnd.IntN(maxShards)
			next, _ := s.move(r, to)
			moved := must(t, c, r, to)
			wantSheet(t, name, moved, next)
			if isSame := slices.Equal(s.serves, next.serves); chart.Same(moved, c) != isSame {
				t.Fatalf("%s: Same tells %v", name, !isSame)
			}
			for range 50 {
				p := rnd.IntN(span)
				was, is := chart.Of(c, p), chart.Of(moved, p)
				if isIn := r.Lo <= p && p < r.Hi; isIn && is != to || !isIn && is != was {
					t.Fatalf("%s: Move of %v to %d: %d served %d, now %d", name, r, to, was, p, is)
				}
			}
			text, _ := chart.Dump(moved)
			loaded, e := chart.Load(text)
			wantError(t, name, e, api.OK)
			wantChart(t, name, loaded, moved)
			c, s = moved, next
		}
	}
}

// plain is a machine in the document's words.
type plain struct {
	sheet sheet
	slots int
	done  map[int]int
}

func (m *plain) apply(c *api.Cmd) api.Done {
	d := api.Done{Slot: m.slots}
	m.slots++
	if c == nil {
		return d
	}
	d.Cmd, d.Fresh = *c, true
	switch c.Kind {
	case api.CmChart:
		if c.Client > 0 && c.Num > 0 && c.Num <= m.done[c.Client] {
			d.Fresh = false
			break
		}
		next, e := m.sheet.move(c.Range, c.To)
		if e != api.OK {
			d.Reply.Err = e
			return d
		}
		m.sheet = next
		_, isKnown := m.done[c.Client]
		if c.Client > 0 && c.Num > 0 && (isKnown || len(m.done) < maxClients) {
			m.done[c.Client] = c.Num
		}
	case api.CmNothing:
	default:
		d.Reply.Err = api.ErrArg
		return d
	}
	d.Reply = telling(m.sheet.chart())
	return d
}

func (m *plain) texts() []string {
	var l []int
	for _, client := range slices.Sorted(maps.Keys(m.done)) {
		l = append(l, client, m.done[client])
	}
	return []string{num(m.slots), chartText(m.sheet.chart()), nums(l...)}
}

// someCmd gives commands of which many were there before, and nil, which stands for what is no command.
func someCmd(rnd *rand.Rand, c api.Chart, clients int) *api.Cmd {
	switch rnd.IntN(12) {
	case 0:
		return nil
	case 1:
		return &api.Cmd{Client: rnd.IntN(clients + 1), Num: rnd.IntN(9), Time: rnd.IntN(99)}
	case 2:
		return &api.Cmd{Kind: 1 + rnd.IntN(9), Client: rnd.IntN(clients + 1), Num: rnd.IntN(9), Range: someRange(rnd, c), To: 1}
	case 3:
		return &api.Cmd{Kind: api.CmChart, Client: rnd.IntN(clients + 1), Num: rnd.IntN(9), To: rnd.IntN(9)}
	}
	return &api.Cmd{Kind: api.CmChart, Client: rnd.IntN(clients + 1), Num: rnd.IntN(20), Range: someRange(rnd, c), To: rnd.IntN(8)}
}

// P15.5, P15.6, P15.7: machines to which the same values are applied, some of them revived in between, are the same, and as a plain one in the document's words.
func TestRunsOfMachines(t *testing.T) {
	for seed := range 24 {
		rnd := rand.New(rand.NewPCG(16, uint64(seed)))
		shards, clients := 1+seed%maxShards, []int{2, 5, 100}[seed%3]
		one, other := made(t, shards), made(t, shards)
		want := &plain{sheetOf(one.Chart()), 0, map[int]int{}}
		for i := range 300 {
			name := fmt.Sprint("run ", seed, ", value ", i)
			c := someCmd(rnd, one.Chart(), clients)
			var v []byte
			if c != nil {
				v = value(*c)
			}
			d := want.apply(c)
			wantDone(t, name, apply(t, one, v), d)
			wantDone(t, name, other.Apply(v), d)
			wantTexts(t, name, textsOf(t, one), want.texts()...)
			if rnd.IntN(10) == 0 {
				other = revived(t, textsOf(t, other))
			}
			if t.Failed() {
				t.FailNow()
			}
		}
		wantSheet(t, fmt.Sprint("run ", seed), one.Chart(), want.sheet)
		wantTexts(t, fmt.Sprint("run ", seed), textsOf(t, other), want.texts()...)
	}
}
