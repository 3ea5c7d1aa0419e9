package session_test

import (
	"fmt"
	"math"
	"math/rand/v2"
	"slices"
	"testing"

	"raceway/api"
	"raceway/session"
)

var (
	goodNumbers  = []int{1, 2, 127, 128, maxTime - 1, maxTime}
	wrongNumbers = []int{math.MinInt, -maxTime, -1, 0, maxTime + 1, maxNum, math.MaxInt}
)

// P13.1: the chapter's example.
func TestExample(t *testing.T) {
	s := session.New()
	wantError(t, "Note", note(t, s, entry{1, 5, api.Reply{Seq: 3}}), api.OK)
	wantLook(t, s, 1, 5, &api.Reply{Seq: 3}, api.OK)
	wantLook(t, s, 1, 4, nil, api.ErrOld)
	wantLook(t, s, 1, 6, nil, api.OK)
}

// P13.1, P13.2, P13.3
func TestNoClients(t *testing.T) {
	s := session.New()
	for _, n := range goodNumbers {
		wantLook(t, s, n, 1, nil, api.OK)
		wantLook(t, s, 1, n, nil, api.OK)
	}
	for _, n := range slices.Concat(goodNumbers, wrongNumbers) {
		if last := s.Last(n); last != 0 {
			t.Errorf("Last(%d): %d", n, last)
		}
	}
	wantState(t, "new", s)
	wantTexts(t, "Dump", s.Dump())
	wantTexts(t, "All", s.All())
}

// P13.1: replies of each kind, of one client and of several.
func TestRepliesOfEachKind(t *testing.T) {
	all := session.New()
	var l []entry
	for i, r := range append(replies(), textless()...) {
		one := holding(t, entry{9, 4, r})
		wantState(t, "one", one, entry{9, 4, r})
		l = append(l, entry{i + 1, 2*i + 1, r})
		wantError(t, "several", note(t, all, l[i]), api.OK)
	}
	wantState(t, "several", all, l...)
}

// P13.1: what was noted last is told, of each client apart.
func TestNumbersOfAClient(t *testing.T) {
	s := session.New()
	last := map[int]entry{}
	for _, x := range []entry{
		{1, 1, api.Reply{Seq: 1}}, {2, 1, api.Reply{Seq: 2}}, {1, 2, api.Reply{Data: []string{"d"}}}, {1, 3, api.Reply{}}, {2, 9, api.Reply{Err: api.ErrFull}},
		{1, 50, api.Reply{Got: []api.Got{{Body: "b"}}}}, {2, 10, api.Reply{N: 1}}, {1, maxTime, api.Reply{N: 2}}, {2, maxTime - 1, api.Reply{}}, {2, maxTime, api.Reply{Seq: 7}},
	} {
		wantLook(t, s, x.client, x.num, nil, api.OK)
		wantError(t, "Note of "+brief(x), note(t, s, x), api.OK)
		last[x.client] = x
		for client, y := range last {
			wantLook(t, s, client, y.num, &y.reply, api.OK)
		}
		refusesNote(t, s, entry{x.client, x.num, api.Reply{Seq: 88}}, api.ErrOld)
	}
	wantState(t, "behind all", s, last[1], last[2])
}

// P13.1: the numbers around the last one.
func TestAroundTheLastNumber(t *testing.T) {
	for _, last := range []int{1, 2, 3, 500, maxTime - 1, maxTime} {
		r := api.Reply{Seq: 3, Data: []string{"d"}}
		s := holding(t, entry{4, last, r}, entry{5, 7, api.Reply{N: 1}})
		for _, n := range []int{1, 2, last - 2, last - 1} {
			if n < 1 || n >= last {
				continue
			}
			wantLook(t, s, 4, n, nil, api.ErrOld)
			refusesNote(t, s, entry{4, n, api.Reply{Seq: 4}}, api.ErrOld)
		}
		wantLook(t, s, 4, last, &r, api.OK)
		refusesNote(t, s, entry{4, last, api.Reply{Seq: 4}}, api.ErrOld)
		refusesNote(t, s, entry{4, last, r}, api.ErrOld)
		for _, n := range []int{last + 1, last + 2, maxTime} {
			if n <= last || n > maxTime {
				continue
			}
			wantLook(t, s, 4, n, nil, api.OK)
			c := s.Copy()
			wantError(t, fmt.Sprint("Note of ", n), note(t, c, entry{4, n, api.Reply{Seq: 4}}), api.OK)
			wantState(t, fmt.Sprint("behind ", n), c, entry{4, n, api.Reply{Seq: 4}}, entry{5, 7, api.Reply{N: 1}})
		}
		if last == maxTime {
			refusesNote(t, s, entry{4, maxTime + 1, api.Reply{}}, api.ErrArg)
		}
	}
}

// P13.1
func TestNumbersThatMayBe(t *testing.T) {
	for _, client := range goodNumbers {
		for _, n := range goodNumbers {
			s := session.New()
			wantLook(t, s, client, n, nil, api.OK)
			wantError(t, fmt.Sprint(client, n), note(t, s, entry{client, n, api.Reply{Seq: 1}}), api.OK)
			wantState(t, fmt.Sprint(client, n), s, entry{client, n, api.Reply{Seq: 1}})
			wantLook(t, s, client, n, &api.Reply{Seq: 1}, api.OK)
		}
	}
}

// P13.1: what is wrong is told ahead of what is kept.
func TestNumbersThatMayNotBe(t *testing.T) {
	full := holding(t, many(1, maxClients+1, maxTime)...)
	for _, s := range []*session.Table{session.New(), holding(t, entry{1, maxTime, api.Reply{Seq: 1}}), full} {
		for _, wrong := range wrongNumbers {
			for _, n := range slices.Concat(goodNumbers, wrongNumbers) {
				wantLook(t, s, wrong, n, nil, api.ErrArg)
				wantLook(t, s, n, wrong, nil, api.ErrArg)
				refusesNote(t, s, entry{wrong, n, api.Reply{Seq: 2}}, api.ErrArg)
				refusesNote(t, s, entry{n, wrong, api.Reply{Seq: 2}}, api.ErrArg)
			}
			if last := s.Last(wrong); last != 0 {
				t.Errorf("Last(%d): %d", wrong, last)
			}
		}
	}
}

// P13.1: the 64th client comes, the 65th does not; who is known goes on.
func TestFullTables(t *testing.T) {
	l := many(10, 10+maxClients, 3)
	s := holding(t, l[:maxClients-1]...)
	wantError(t, "the 64th", note(t, s, l[maxClients-1]), api.OK)
	wantState(t, "64", s, l...)
	for _, client := range []int{1, 9, 10 + maxClients, maxTime} {
		wantLook(t, s, client, 1, nil, api.OK)
		refusesNote(t, s, entry{client, 1, api.Reply{}}, api.ErrFull)
		refusesNote(t, s, entry{client, maxTime, api.Reply{}}, api.ErrFull)
	}
	for i, x := range l {
		refusesNote(t, s, entry{x.client, 3, api.Reply{}}, api.ErrOld)
		refusesNote(t, s, entry{x.client, 1, api.Reply{}}, api.ErrOld)
		l[i] = entry{x.client, 4 + i, api.Reply{N: i}}
		wantError(t, "of a known one", note(t, s, l[i]), api.OK)
	}
	wantState(t, "64 that went on", s, l...)
}

// P13.2: rising, whatever the order of noting was.
func TestClientsRise(t *testing.T) {
	random := rand.New(rand.NewPCG(13, 2))
	want := []int{1, 2, 3, 7, 63, 64, 65, 127, 128, 129, 255, 256, 300, 16384, 1 << 32, maxTime - 1, maxTime}
	for range 50 {
		s := session.New()
		for _, i := range random.Perm(len(want)) {
			wantError(t, "Note", note(t, s, entry{want[i], i + 1, api.Reply{Seq: i}}), api.OK)
		}
		got := s.Clients()
		if !slices.Equal(got, want) {
			t.Fatalf("Clients: %v, not %v", got, want)
		}
		spoil(got, -7)
		if !slices.Equal(s.Clients(), want) {
			t.Fatalf("what was told is the table's: %v", s.Clients())
		}
		for i, client := range want {
			if last := s.Last(client); last != i+1 {
				t.Errorf("Last(%d): %d, not %d", client, last, i+1)
			}
		}
	}
}

// P13.2
func TestLastOfNone(t *testing.T) {
	s := holding(t, entry{3, 8, api.Reply{}}, entry{5, maxTime, api.Reply{}})
	for _, client := range []int{1, 2, 4, 6, maxTime, math.MinInt, -3, 0, maxTime + 3, math.MaxInt} {
		if last := s.Last(client); last != 0 {
			t.Errorf("Last(%d): %d", client, last)
		}
	}
	if s.Last(3) != 8 || s.Last(5) != maxTime {
		t.Errorf("Last: %d, %d", s.Last(3), s.Last(5))
	}
	wantState(t, "asking brings nobody", s, entry{3, 8, api.Reply{}}, entry{5, maxTime, api.Reply{}})
}

// P13.1, P13.2: looking brings nobody, either.
func TestLookChangesNothing(t *testing.T) {
	s := holding(t, entry{3, 8, api.Reply{Seq: 1}})
	for client := range 100 {
		for _, n := range []int{-1, 0, 1, 7, 8, 9, maxTime} {
			s.Look(client, n)
		}
	}
	wantState(t, "behind that", s, entry{3, 8, api.Reply{Seq: 1}})
	wantError(t, "Note", note(t, s, entry{4, 1, api.Reply{}}), api.OK)
}

// P13.1: what was noted is the table's own, and what is told the caller's.
func TestMemoryOfReplies(t *testing.T) {
	for _, r := range replies() {
		s := session.New()
		handed := spareReply(r)
		s.Note(1, 1, handed)
		s.Note(2, 1, handed)
		spoilReply(handed)
		c := s.Copy()
		wantState(t, "what was handed in is changed", s, entry{1, 1, r}, entry{2, 1, r})
		for _, x := range []*session.Table{s, c} {
			told, _, _ := x.Look(1, 1)
			again, _, _ := x.Look(1, 1)
			spoilReply(told)
			if !sameReply(again, r) {
				t.Errorf("two answers share memory: %s, not %s", brief(again), brief(r))
			}
			if hasStray(again) {
				t.Errorf("what lay behind a list is handed out: %s", brief(again))
			}
			for _, y := range []*session.Table{s, c} {
				wantState(t, "what was told is changed", y, entry{1, 1, r}, entry{2, 1, r})
			}
		}
	}
}

// P13.3: a copy has all, and goes its own way.
func TestCopy(t *testing.T) {
	a, b, d := entry{1, 5, api.Reply{Seq: 1}}, entry{2, 6, api.Reply{Data: []string{"d"}}}, entry{3, 7, textless()[0]}
	for _, l := range [][]entry{nil, {a}, {a, b, d}} {
		s := holding(t, l...)
		c := s.Copy()
		if c == nil || c == s {
			t.Fatal("a copy is another table")
		}
		wantState(t, "a copy", c, l...)
		more := entry{9, 1, api.Reply{N: 1}}
		wantError(t, "Note to the copy", note(t, c, more), api.OK)
		wantState(t, "behind a Note to the copy", s, l...)
		wantState(t, "the copy", c, append(slices.Clone(l), more)...)
		other := entry{8, 2, api.Reply{N: 2}}
		wantError(t, "Merge into the table", merge(t, s, textsOf([]entry{other})), api.OK)
		wantState(t, "behind a Merge into the table", c, append(slices.Clone(l), more)...)
		wantState(t, "the table", s, append(slices.Clone(l), other)...)
	}
	s := holding(t, a, b)
	c := s.Copy()
	later := entry{1, 6, api.Reply{Seq: 9}}
	note(t, s, later)
	wantState(t, "a client went on in the table", c, a, b)
	note(t, c, entry{2, 7, api.Reply{}})
	wantState(t, "a client went on in the copy", s, later, b)
	refusesMerge(t, "too many", c, textsOf(many(3, 100, 1)), api.ErrFull)
	wantState(t, "a merge into the copy was refused", s, later, b)
	cc := c.Copy()
	wantState(t, "a copy's copy", cc, a, entry{2, 7, api.Reply{}})
}

// P13.3: the copy counts its clients too.
func TestCopyOfFullTables(t *testing.T) {
	l := many(1, maxClients+1, 2)
	s := holding(t, l...)
	c := s.Copy()
	wantState(t, "a copy", c, l...)
	refusesNote(t, c, entry{maxClients + 1, 1, api.Reply{}}, api.ErrFull)
	wantError(t, "of a known one", note(t, c, entry{1, 3, api.Reply{}}), api.OK)
}

// P13.3: nil, and what New did not make.
func TestNoTable(t *testing.T) {
	plain := &session.Table{}
	for _, s := range []*session.Table{nil, plain} {
		for _, n := range slices.Concat(goodNumbers, wrongNumbers) {
			for _, m := range slices.Concat(goodNumbers, wrongNumbers) {
				wantLook(t, s, n, m, nil, api.ErrNil)
				wantError(t, "Note", note(t, s, entry{n, m, api.Reply{Seq: 1}}), api.ErrNil)
			}
			if s.Last(n) != 0 {
				t.Errorf("Last(%d): %d", n, s.Last(n))
			}
		}
		for _, l := range [][]string{nil, {}, {"?"}, {""}, textsOf(many(1, 2, 1)), textsOf(many(1, 100, 1))} {
			wantError(t, "Merge", merge(t, s, l), api.ErrNil)
		}
		if len(s.Clients()) > 0 || len(s.Dump()) > 0 || len(s.All()) > 0 {
			t.Errorf("it has something: %v, %q, %q", s.Clients(), s.Dump(), s.All())
		}
		if s.Copy() != nil {
			t.Error("there is a copy of nothing")
		}
	}
}

// Rule 7: tables are apart from each other.
func TestTablesAreApart(t *testing.T) {
	a, b := session.New(), session.New()
	note(t, a, entry{1, 1, api.Reply{}})
	wantState(t, "the other one", b)
	note(t, b, entry{1, 2, api.Reply{N: 1}})
	wantState(t, "the first one", a, entry{1, 1, api.Reply{}})
}
