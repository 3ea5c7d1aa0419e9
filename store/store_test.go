package store_test

import (
	"fmt"
	"math"
	"math/rand/v2"
	"strings"
	"testing"

	"raceway/api"
	"raceway/seglog"
	"raceway/store"
)

// The chapter's example.
func TestExample(t *testing.T) {
	p := begin(t, 2).promise(3).accept(0, 3, "x").sync().accept(1, 3, "y")
	p.having("written", 3, 0, map[int]vote{0: {3, "x"}, 1: {3, "y"}})
	p.crash(0, 0).restart().having("restarted", 3, 0, map[int]vote{0: {3, "x"}})
	if ballot, value, ok := p.st.Get(1); ballot != 0 || len(value) > 0 || ok {
		t.Errorf("Get(1): %d, %q, %v", ballot, value, ok)
	}
}

// P8.1
func TestNew(t *testing.T) {
	for _, per := range []int{1, 2, 512, 1023, 1024} {
		p := begin(t, per).having("new", 0, 0, nil)
		if p.st.Down() || p.st.Slots() != 0 || p.st.Log().Len() != 0 {
			t.Errorf("per %d: down %v, %d slots, %d records", per, p.st.Down(), p.st.Slots(), p.st.Log().Len())
		}
	}
	for _, per := range append([]int{0, -1, -1024, 1025, 1026, 1 << 32}, farOff...) {
		if st, e := store.New(per); st != nil || e != api.ErrArg {
			t.Errorf("New(%d): %v, error %d", per, st, int(e))
		}
	}
}

// P8.1: the log has just per records a segment, the least and the most that there may be, also behind a snapshot and a restart.
func TestRecordsOfSegment(t *testing.T) {
	for _, per := range []int{1, 2, 1024} {
		p := begin(t, per)
		for _, f := range []func(){func() {}, func() { p.snapshot() }, func() { p.sync().crash(0, 0).restart().snapshot() }} {
			f()
			first := p.st.Promised()
			for i := range 2*per + 1 {
				p.promise(first + i + 1)
				if n := len(p.st.Log().Segments()); n != 1+i/per {
					t.Fatalf("per %d: record %d is in segment %d", per, i, n)
				}
			}
			p.checkCrashed("three segments")
		}
	}
}

// P8.1, P8.2: what New makes is apart.
func TestStoresAreApart(t *testing.T) {
	a, b := begin(t, 2), begin(t, 2)
	a.promise(5).accept(1, 6, "a")
	b.check("the other").accept(1, 2, "b").forget(1).sync().snapshot().crash(0, 0)
	a.checkCrashed("the one")
	b.checkCrashed("the other")
}

// recordsOf tells a log's records.
func recordsOf(st *store.Store) []string {
	var l []string
	for _, rec := range st.Log().Records() {
		l = append(l, string(rec))
	}
	return l
}

// Words: the records, byte by byte.
func TestBytesOfRecords(t *testing.T) {
	const greatest = "\x80\x80\x80\x80\x80\x20"
	p := begin(t, 3).accept(0, 0, "").promise(1).promise(300).accept(5, 300, "xy").accept(300, 301, "\x00\xff").forget(3).forget(300)
	p.accept(maxNumber, maxNumber, "z").forget(maxNumber)
	want := []string{
		"\x02\x00\x00", "\x01\x01", "\x01\xac\x02", "\x02\x05\xac\x02xy", "\x02\xac\x02\xad\x02\x00\xff", "\x03\x03", "\x03\xac\x02",
		"\x02" + greatest + greatest + "z", "\x03" + greatest,
	}
	if got := recordsOf(p.st); fmt.Sprintf("%x", got) != fmt.Sprintf("%x", want) {
		t.Errorf("the records are %x, not %x", got, want)
	}
	p.checkCrashed("written")
}

// P8.2
func TestPromise(t *testing.T) {
	p := begin(t, 4).promise(0).having("0 of a new one", 0, 0, nil)
	if n := p.st.Log().Len(); n != 0 {
		t.Errorf("a promise of what is promised has %d records", n)
	}
	p.promise(3).having("3", 3, 0, nil).promise(3).having("3 again", 3, 0, nil)
	if n := p.st.Log().Len(); n != 1 {
		t.Errorf("a promise of what is promised: %d records", n)
	}
	for _, ballot := range []int{0, 1, 2} {
		wantErr(t, fmt.Sprintf("Promise(%d)", ballot), p.st.Promise(ballot), api.ErrOld)
		p.having("refused", 3, 0, nil)
	}
	for _, ballot := range append([]int{-1, -3, maxNumber + 1}, farOff...) {
		wantErr(t, fmt.Sprintf("Promise(%d)", ballot), p.st.Promise(ballot), api.ErrArg)
		p.having("refused", 3, 0, nil)
	}
	p.promise(4).promise(maxNumber-1).promise(maxNumber).having("the greatest", maxNumber, 0, nil)
	wantErr(t, "below the greatest", p.st.Promise(maxNumber-1), api.ErrOld)
	wantErr(t, "above the greatest", p.st.Promise(maxNumber+1), api.ErrArg)
	p.promise(maxNumber).sync().crash(0, 0).restart().having("restarted", maxNumber, 0, nil)
	wantErr(t, "below the greatest, restarted", p.st.Promise(maxNumber-1), api.ErrOld)
}

// P8.2
func TestAccept(t *testing.T) {
	p := begin(t, 4).accept(0, 0, "").having("slot 0, ballot 0, no bytes", 0, 0, map[int]vote{0: {0, ""}})
	if n := p.st.Slots(); n != 1 {
		t.Errorf("Slots: %d", n)
	}
	wantErr(t, "nil", p.st.Accept(0, 0, nil), api.OK)
	wantErr(t, "nil", p.s.accept(0, 0, ""), api.OK)
	p.accept(2, 5, "a").having("the ballot is a promise", 5, 0, map[int]vote{0: {0, ""}, 2: {5, "a"}})
	p.accept(2, 5, "b").having("just the promise", 5, 0, map[int]vote{0: {0, ""}, 2: {5, "b"}})
	p.accept(2, 7, "").having("another ballot", 7, 0, map[int]vote{0: {0, ""}, 2: {7, ""}})
	p.promise(9)
	for _, ballot := range []int{0, 7, 8} {
		wantErr(t, "below the promise", p.st.Accept(2, ballot, []byte("c")), api.ErrOld)
		wantErr(t, "below the promise", p.st.Accept(3, ballot, nil), api.ErrOld)
	}
	p.having("refused", 9, 0, map[int]vote{0: {0, ""}, 2: {7, ""}})
	p.accept(maxNumber, 9, "far").accept(maxNumber-1, maxNumber, "farther")
	p.having("far off", maxNumber, 0, map[int]vote{0: {0, ""}, 2: {7, ""}, maxNumber: {9, "far"}, maxNumber - 1: {maxNumber, "farther"}})
	if n := p.st.Slots(); n != maxNumber+1 {
		t.Errorf("Slots: %d", n)
	}
	p.checkCrashed("far off").sync().checkCrashed("synced").snapshot().checkCrashed("a snapshot")
}

// P8.2
func TestAcceptOfWrongNumbers(t *testing.T) {
	p := begin(t, 2).accept(3, 3, "had").forget(2)
	for _, n := range append([]int{-1, -3, maxNumber + 1}, farOff...) {
		wantErr(t, fmt.Sprintf("slot %d", n), p.st.Accept(n, 3, nil), api.ErrArg)
		wantErr(t, fmt.Sprintf("ballot %d", n), p.st.Accept(3, n, nil), api.ErrArg)
		wantErr(t, fmt.Sprintf("both %d", n), p.st.Accept(n, n, nil), api.ErrArg)
		p.having("refused", 3, 2, map[int]vote{3: {3, "had"}})
	}
}

// P8.2: the base's own slot is the least that may be.
func TestAcceptAtBase(t *testing.T) {
	p := begin(t, 2).forget(5)
	for slot := range 5 {
		wantErr(t, fmt.Sprintf("slot %d", slot), p.st.Accept(slot, 1, nil), api.ErrOld)
		p.having("below the base", 0, 5, nil)
	}
	p.accept(5, 1, "at").accept(6, 1, "above").having("from the base on", 1, 5, map[int]vote{5: {1, "at"}, 6: {1, "above"}})
	p.forget(maxNumber).accept(maxNumber-1, 1, "").accept(maxNumber, 1, "last").having("the greatest", 1, maxNumber, map[int]vote{maxNumber: {1, "last"}})
	p.sync().checkCrashed("the greatest")
}

// P8.2: a value's greatest length, and one more.
func TestValueOfAnyLength(t *testing.T) {
	for _, per := range []int{1, 3, 1024} {
		p := begin(t, per)
		for i, n := range []int{0, 1, 127, 128, 4096, 4097, maxValue - 1, maxValue} {
			p.accept(i, 1, longest[:n])
		}
		p.check("written")
		for _, n := range []int{1, 2, maxValue} {
			wantErr(t, "too long", p.st.Accept(9, 2, []byte(longest+longest[:n])), api.ErrLong)
			wantErr(t, "too long", p.st.Accept(0, 2, []byte(longest+longest[:n])), api.ErrLong)
		}
		p.check("refused").sync().accept(9, maxNumber, longest).checkCrashed("written on")
	}
}

// filled gives a store with as many slots as may be, each second one from first on.
func filled(t *testing.T, per, first int) pair {
	p := begin(t, per)
	for i := range maxSlots {
		p.accept(first+2*i, 1, fmt.Sprint(i))
	}
	return p
}

// P8.2: the 1024th slot, one more, and one of them again.
func TestStoreIsFull(t *testing.T) {
	for _, first := range []int{0, 77, maxNumber - 2*maxSlots} {
		p := filled(t, 16, first)
		p.check("full")
		if n := len(p.s.now.slots); n != maxSlots {
			t.Fatalf("%d slots", n)
		}
		last := first + 2*(maxSlots-1)
		for _, slot := range []int{first + 1, last - 1, last + 1} {
			wantErr(t, "one more", p.st.Accept(slot, 1, nil), api.ErrFull)
			wantErr(t, "one more, of a greater ballot", p.st.Accept(slot, 2, []byte("x")), api.ErrFull)
		}
		p.check("refused").accept(first, 1, "again").accept(last, 2, "again").accept(first+2, 2, "").check("accepted again")
		p.accept(last+1, 2, "").forget(first+1).accept(last+1, 2, "room").check("one is forgotten")
		p.accept(last+2, 2, "").sync().checkCrashed("full again").snapshot().accept(last+2, 2, "").checkCrashed("a snapshot")
		p.crash(0, 0).restart().accept(last+2, 2, "").accept(last+1, 2, "again").check("restarted")
	}
}

// P8.2, P8.3: the log's errors: all its segments are full. Who writes nothing goes on, and a snapshot makes room.
func TestLogIsFull(t *testing.T) {
	p := begin(t, 1).accept(7, 1, "had")
	for i := range maxSegments - 1 {
		p.promise(i + 2)
	}
	had := map[int]vote{7: {1, "had"}}
	for range 2 {
		wantErr(t, "Promise", p.st.Promise(maxSegments+1), api.ErrFull)
		wantErr(t, "Accept", p.st.Accept(7, maxSegments+1, []byte("x")), api.ErrFull)
		wantErr(t, "Accept", p.st.Accept(8, maxSegments, nil), api.ErrFull)
		wantErr(t, "Forget", p.st.Forget(8), api.ErrFull)
		p.having("refused", maxSegments, 0, had)
	}
	wantErr(t, "the promise", p.st.Promise(maxSegments), api.OK)
	wantErr(t, "the base", p.st.Forget(0), api.OK)
	wantErr(t, "a wrong ballot", p.st.Promise(-1), api.ErrArg)
	wantErr(t, "an old ballot", p.st.Promise(1), api.ErrOld)
	wantErr(t, "a long value", p.st.Accept(9, maxSegments, []byte(longest+"l")), api.ErrLong)
	wantErr(t, "a wrong base", p.st.Forget(-1), api.ErrArg)
	p.having("refused", maxSegments, 0, had).sync().checkCrashed("synced")
	p.snapshot().promise(maxSegments+1).accept(8, maxSegments+1, "room").forget(8).sync().checkCrashed("a snapshot made room")
}

// P8.2: the log's errors: a segment's disk takes no more bytes.
func TestDiskIsFull(t *testing.T) {
	p := begin(t, 1024)
	for i := range 127 {
		p.accept(i%2, i, longest)
	}
	wantErr(t, "one more", p.st.Accept(1, 500, []byte(longest)), api.ErrFull)
	p.having("refused", 126, 0, map[int]vote{0: {126, longest}, 1: {125, longest}})
	p.promise(500).sync().crash(0, 0).restart().having("a lesser record", 500, 0, map[int]vote{0: {126, longest}, 1: {125, longest}})
}

// P8.3: each n from 0 to behind the greatest slot, with what Slots and Get tell ahead and behind.
func TestForget(t *testing.T) {
	for n := range 10 {
		p := begin(t, 3).accept(7, 1, "seven").accept(2, 1, "two").accept(5, 2, "").sync()
		p.having("ahead", 2, 0, map[int]vote{2: {1, "two"}, 5: {2, ""}, 7: {1, "seven"}})
		left := map[int]vote{2: {1, "two"}, 5: {2, ""}, 7: {1, "seven"}}
		for slot := range n {
			delete(left, slot)
		}
		end := 8
		if n > 7 {
			end = 0
		}
		for range 2 {
			p.forget(n).having(fmt.Sprintf("Forget(%d)", n), 2, n, left)
			if p.st.Slots() != end || p.st.Log().Len() != 3+min(n, 1) {
				t.Errorf("Forget(%d): Slots %d, %d records", n, p.st.Slots(), p.st.Log().Len())
			}
		}
		for less := range n {
			p.forget(less).having("a lesser one", 2, n, left)
		}
		p.checkCrashed("not synced").sync().checkCrashed("synced").snapshot().checkCrashed("a snapshot")
		p.accept(n, 3, "on").forget(n+1).accept(n+1, 3, "on and on").sync().checkCrashed("gone on")
	}
}

// P8.3
func TestForgetEdges(t *testing.T) {
	for _, p := range []pair{begin(t, 2), begin(t, 2).accept(3, 3, "had").accept(4, 3, "had").forget(4)} {
		for _, n := range append([]int{-1, -4, maxNumber + 1}, farOff...) {
			wantErr(t, fmt.Sprintf("Forget(%d)", n), p.st.Forget(n), api.ErrArg)
			p.check("refused")
		}
		p.forget(0).forget(maxNumber - 1).check("all is gone").forget(maxNumber).check("the greatest").forget(maxNumber).forget(4)
		if p.st.Base() != maxNumber || p.st.Slots() != 0 {
			t.Errorf("Base %d, Slots %d", p.st.Base(), p.st.Slots())
		}
		p.sync().checkCrashed("the greatest")
	}
}

// deeds is one of each call that changes a store.
func deeds() map[string]func(p pair) {
	return map[string]func(p pair){
		"nothing":  func(p pair) {},
		"Promise":  func(p pair) { p.promise(20) },
		"Accept":   func(p pair) { p.accept(3, 21, "accepted") },
		"again":    func(p pair) { p.accept(2, 30, "accepted again").accept(9, 30, "new") },
		"Forget":   func(p pair) { p.forget(3) },
		"Sync":     func(p pair) { p.sync() },
		"Snapshot": func(p pair) { p.snapshot() },
		"Crash":    func(p pair) { p.crash(20, 3) },
		"Restart":  func(p pair) { p.restart().accept(4, 40, "behind") },
		"more":     func(p pair) { p.promise(50).snapshot().forget(2).crash(50, -1).restart().accept(5, 60, "n") },
	}
}

// ups and downs give some stores of each kind.
func ups(t *testing.T) []pair {
	return []pair{
		begin(t, 2),
		begin(t, 2).promise(3).accept(2, 4, "a"),
		begin(t, 2).promise(3).accept(1, 4, "a").sync().accept(2, 5, "b").promise(7),
		begin(t, 1).accept(2, 4, "a").accept(7, 4, "b").snapshot(),
		begin(t, 3).accept(2, 4, "a").snapshot().accept(2, 5, "b").forget(1).sync().accept(3, 6, "c"),
		begin(t, 1024).accept(2, 4, "a").sync().accept(6, 5, "b").crash(3, 0).restart().forget(2),
	}
}

func downs(t *testing.T) []pair {
	l := ups(t)
	for _, p := range l {
		p.crash(17, 3)
	}
	return append(l, begin(t, 2).accept(2, 3, "a").crash(0, 0), begin(t, 2).accept(2, 3, "a").crash(99, -1))
}

// P8.3, P8.7: what was synced is there, whatever is called behind it.
func TestSyncAndThenEachCall(t *testing.T) {
	for i := range ups(t) {
		for name, f := range deeds() {
			p := ups(t)[i]
			p.sync().checkCrashed("synced").sync().check("synced again")
			f(p)
			p.checkCrashed("Sync, then " + name)
			if n := p.st.Log().Safe(); n > p.st.Log().Len() {
				t.Errorf("%s: %d are safe", name, n)
			}
		}
	}
}

// P8.4: a snapshot of nothing, a second one, and what is appended behind them.
func TestSnapshot(t *testing.T) {
	p := begin(t, 2).snapshot().checkCrashed("nothing").promise(3).checkCrashed("behind it").sync().checkCrashed("synced behind it")
	p.snapshot().checkCrashed("a promise alone").accept(5, 4, "five").accept(2, 4, "").snapshot()
	if l := p.st.Log(); l.Len() != 0 || l.Base() != 0 || l.Safe() != 0 || len(l.Segments()) != 0 {
		t.Errorf("the log has %d records, %d segments", l.Len(), len(l.Segments()))
	}
	p.crash(0, 0).restart().having("a snapshot, and nothing synced", 4, 0, map[int]vote{5: {4, "five"}, 2: {4, ""}})
	p.snapshot().snapshot().checkCrashed("again and again").accept(6, 5, "six").forget(5).accept(5, 6, "").checkCrashed("behind it")
	p.sync().crash(0, 0).restart().having("a snapshot, and records", 6, 5, map[int]vote{5: {6, ""}, 6: {5, "six"}})
	p.snapshot().crash(0, 0).restart().having("a snapshot of both", 6, 5, map[int]vote{5: {6, ""}, 6: {5, "six"}})
	p.forget(7).snapshot().crash(0, 0).restart().having("a snapshot without slots", 6, 7, nil)
}

// lengthTo gives a store whose snapshot has a body of so many bytes.
func lengthTo(t *testing.T, body int) pair {
	p := begin(t, 4).accept(0, 1, longest)
	// 1 and 1 and 1 bytes for promise, base and count; 1, 1 and 3 ahead of each value.
	return p.accept(1, 1, longest[:body-3-2*5-maxValue])
}

// P8.4: the longest body, and one of a byte more, of which the sync alone is done.
func TestSnapshotOfAnyLength(t *testing.T) {
	for _, body := range []int{maxSnapshot - 1, maxSnapshot} {
		p := lengthTo(t, body)
		wantErr(t, "just short enough", p.st.Snapshot(), p.s.snapshot())
		if n := p.st.Log().Len(); n != 0 || len(p.s.now.body()) != body {
			t.Errorf("a body of %d bytes: %d records are left", len(p.s.now.body()), n)
		}
		p.checkCrashed("a long snapshot")
	}
	for _, body := range []int{maxSnapshot + 1, maxSnapshot + 2} {
		p := lengthTo(t, body)
		wantErr(t, "too long", p.st.Snapshot(), api.ErrLong)
		wantErr(t, "too long", p.s.snapshot(), api.ErrLong)
		if l := p.st.Log(); l.Len() != 2 || l.Safe() != 2 {
			t.Errorf("too long: %d records, of which %d are safe", l.Len(), l.Safe())
		}
		p.checkCrashed("too long").forget(1).snapshot().checkCrashed("shorter")
	}
	long := lengthTo(t, maxSnapshot).snapshot()
	long.promise(200).snapshot().checkCrashed("too long by the promise").crash(0, 0).restart().having("the first one stays", 200, 0, long.s.now.slots)
	wantErr(t, "too long by the promise", long.st.Snapshot(), api.ErrLong)
}

// P8.4: a body that is too long by far.
func TestSnapshotOfManySlots(t *testing.T) {
	p := begin(t, 16)
	for i := range 300 {
		p.accept(300-i, 1, longest[:1000])
	}
	p.snapshot().check("too long")
	wantErr(t, "too long", p.st.Snapshot(), api.ErrLong)
	p.forget(290).snapshot().checkCrashed("shorter")
	q := filled(t, 8, 1<<14)
	q.snapshot().checkCrashed("all slots").crash(0, 0).restart().check("all slots, restarted")
	if n := q.st.Log().Len(); n != 0 {
		t.Errorf("%d records", n)
	}
}

// P8.5: each number of bytes that are left, with no bit turned; each bit turned, with all bytes left; and each of the two with some of the other.
func TestCrash(t *testing.T) {
	for _, per := range []int{1, 2, 3} {
		for name, first := range map[string]pair{
			"nothing":     begin(t, per),
			"not synced":  begin(t, per).promise(3).accept(1, 3, "x").accept(1, 4, "y").forget(1),
			"synced":      begin(t, per).promise(3).accept(1, 3, "x").sync().accept(1, 4, "y").forget(2).accept(2, 5, ""),
			"a snapshot":  begin(t, per).accept(1, 3, "x").snapshot().accept(1, 4, "y").forget(1).promise(9),
			"all of that": begin(t, per).accept(1, 3, "x").snapshot().accept(2, 4, "y").sync().accept(1, 5, "z").forget(2),
		} {
			try := func(keep, flip int) {
				p := first.copy()
				p.crash(keep, flip).restart().check("restarted").accept(8, 9, "behind").sync().crash(0, 0).restart().check("and again")
				if t.Failed() {
					t.Fatalf("per %d, %s: Crash(%d, %d)", per, name, keep, flip)
				}
			}
			const loose = 13 + 16*3 + 1
			for keep := range loose + 1 {
				try(keep, -1)
				try(keep, 8*keep-1)
				try(keep, 8*keep)
				try(keep, 5*keep)
			}
			for flip := range 8*loose + 1 {
				try(math.MaxInt, flip)
			}
			first.check("copied and crashed")
		}
	}
}

// P8.5: the edges, written out. Behind what is synced stand two acceptances, of 16 bytes each, and a base of 14.
func TestCrashEdges(t *testing.T) {
	none, one, two, all := map[int]vote{}, map[int]vote{0: {1, "x"}}, map[int]vote{0: {1, "x"}, 1: {2, "y"}}, map[int]vote{1: {2, "y"}}
	for _, c := range []struct {
		name          string
		keep, flip    int
		promise, base int
		slots         map[int]vote
	}{
		{"nothing is left", 0, 0, 1, 0, none},
		{"a byte", 1, -1, 1, 0, none},
		{"a record lacks a byte", 15, -1, 1, 0, none},
		{"a record", 16, -1, 1, 0, one},
		{"a record, and a byte", 17, -1, 1, 0, one},
		{"a second one lacks a byte", 31, -1, 1, 0, one},
		{"a second one", 32, -1, 2, 0, two},
		{"the base lacks a byte", 45, -1, 2, 0, two},
		{"all", 46, -1, 2, 1, all},
		{"more than there is", math.MaxInt, -1, 2, 1, all},
		{"the first bit is turned", 46, 0, 1, 0, none},
		{"the first record's last bit is turned", 46, 16*8 - 1, 1, 0, none},
		{"the second record's first bit is turned", 46, 16 * 8, 1, 0, one},
		{"the second record's last bit is turned", 46, 32*8 - 1, 1, 0, one},
		{"the base's first bit is turned", 46, 32 * 8, 2, 0, two},
		{"the last bit is turned", 46, 46*8 - 1, 2, 0, two},
		{"no such bit", 46, 46 * 8, 2, 1, all},
		{"no bit far below", 46, math.MinInt, 2, 1, all},
		{"no bit far above", 46, math.MaxInt, 2, 1, all},
		{"a bit that is gone", 16, 16 * 8, 1, 0, one},
	} {
		for _, snapshot := range []bool{false, true} {
			p := begin(t, 1024).promise(1).sync()
			if snapshot {
				// A record that is synced behind it, so that the segment's first frame is kept, too.
				p.snapshot().accept(0, 1, "had").sync()
			}
			p.accept(0, 1, "x").accept(1, 2, "y").forget(1)
			p.crash(c.keep, c.flip).restart()
			slots := c.slots
			if snapshot && len(c.slots) == 0 {
				slots = map[int]vote{0: {1, "had"}}
			}
			p.having(c.name, c.promise, c.base, slots)
			p.promise(5).sync().crash(0, 0).restart().having(c.name+", and again", 5, c.base, slots)
		}
	}
}

// P8.5: a promise, a slot and a base that both the snapshot and the log tell.
func TestSnapshotAndLogTellTheSame(t *testing.T) {
	p := begin(t, 2).promise(3).accept(1, 3, "old").accept(2, 3, "two").accept(5, 3, "five").forget(1).snapshot()
	p.crash(0, 0).restart().having("right behind a snapshot", 3, 1, map[int]vote{1: {3, "old"}, 2: {3, "two"}, 5: {3, "five"}})
	p.promise(3).promise(4).accept(1, 4, "new").accept(5, 4, "").accept(1, 6, "newer").forget(2).sync().accept(5, 7, "lost")
	p.crash(0, 0).restart().having("the log's count", 6, 2, map[int]vote{2: {3, "two"}, 5: {4, ""}})
	p.crash(0, 0).restart().having("and again", 6, 2, map[int]vote{2: {3, "two"}, 5: {4, ""}})
	p.accept(2, 8, "not synced").crash(5, 3).restart().having("a piece of a record", 6, 2, map[int]vote{2: {3, "two"}, 5: {4, ""}})
	p.accept(2, 8, "not synced").crash(99, -1).restart().having("all is left", 8, 2, map[int]vote{2: {8, "not synced"}, 5: {4, ""}})
}

// P8.5: behind a crash that leaves nothing a store is as a new one.
func TestCrashOfAllThatIsNotSynced(t *testing.T) {
	p := begin(t, 2).promise(9).accept(4, 9, "x").forget(3).crash(0, 0).restart().having("nothing was synced", 0, 0, nil)
	p.promise(1).accept(0, 1, "again").sync().crash(0, 0).restart().having("begun anew", 1, 0, map[int]vote{0: {1, "again"}})
}

// P8.5
func TestCrashRefused(t *testing.T) {
	for _, p := range ups(t) {
		for _, keep := range []int{-1, -2, math.MinInt32, math.MinInt} {
			for _, flip := range []int{-1, 0, 5, math.MaxInt, math.MinInt} {
				wantErr(t, "Crash", p.st.Crash(keep, flip), api.ErrArg)
				p.check("Crash refused")
			}
		}
		p.checkCrashed("Crash refused").promise(70).checkCrashed("gone on")
	}
}

// P8.5
func TestRestartTwice(t *testing.T) {
	for _, p := range ups(t) {
		wantErr(t, "Restart while up", p.st.Restart(), api.ErrState)
		p.checkCrashed("Restart while up")
	}
	for _, p := range downs(t) {
		p.restart().check("restarted")
		wantErr(t, "Restart again", p.st.Restart(), api.ErrState)
		p.checkCrashed("Restart again")
	}
}

// P8.2 to P8.6: each call while it is down, with arguments that would be right, and with wrong ones.
func TestDownStore(t *testing.T) {
	for _, p := range downs(t) {
		for _, n := range append([]int{0, 1, 2, 9, -1, maxNumber, maxNumber + 1}, farOff...) {
			wantErr(t, "Promise", p.st.Promise(n), api.ErrDown)
			wantErr(t, "Accept", p.st.Accept(n, 90, nil), api.ErrDown)
			wantErr(t, "Accept", p.st.Accept(2, n, []byte("x")), api.ErrDown)
			wantErr(t, "Accept", p.st.Accept(n, n, []byte(longest+"l")), api.ErrDown)
			wantErr(t, "Forget", p.st.Forget(n), api.ErrDown)
			wantErr(t, "Crash", p.st.Crash(n, 0), api.ErrDown)
			wantErr(t, "Crash", p.st.Crash(0, n), api.ErrDown)
		}
		wantErr(t, "Sync", p.st.Sync(), api.ErrDown)
		wantErr(t, "Snapshot", p.st.Snapshot(), api.ErrDown)
		if !p.st.Down() || !p.st.Log().Down() || !p.st.Copy().Down() {
			t.Error("it is not down")
		}
		p.checkCrashed("down").restart().check("restarted")
	}
}

// P8.3, P8.5: while a store is down it tells what it had; what a crash left of that is told by Restart alone.
func TestDownStoreTellsWhatItHad(t *testing.T) {
	p := begin(t, 2).promise(3).accept(1, 3, "x").sync().accept(2, 4, "y").forget(2).crash(0, 0)
	p.having("down", 4, 2, map[int]vote{2: {4, "y"}}).restart().having("restarted", 3, 0, map[int]vote{1: {3, "x"}})
}

// P8.5, rule 1: each call of a nil store and of a plain one, with right and with wrong arguments; and again, as nothing was done.
func TestStoreThatNewDidNotMake(t *testing.T) {
	for name, st := range map[string]*store.Store{"nil": nil, "plain": {}, "new": new(store.Store)} {
		for range 2 {
			for _, n := range append([]int{0, 1, -1, maxNumber, maxNumber + 1}, farOff...) {
				wantErr(t, name+": Promise", st.Promise(n), api.ErrNil)
				wantErr(t, name+": Accept", st.Accept(n, 1, nil), api.ErrNil)
				wantErr(t, name+": Accept", st.Accept(1, n, []byte(longest+"l")), api.ErrNil)
				wantErr(t, name+": Forget", st.Forget(n), api.ErrNil)
				wantErr(t, name+": Crash", st.Crash(n, 0), api.ErrNil)
				wantErr(t, name+": Crash", st.Crash(0, n), api.ErrNil)
				if ballot, value, ok := st.Get(n); ballot != 0 || value != nil || ok {
					t.Errorf("%s: Get(%d): %d, %q, %v", name, n, ballot, value, ok)
				}
			}
			wantErr(t, name+": Sync", st.Sync(), api.ErrNil)
			wantErr(t, name+": Snapshot", st.Snapshot(), api.ErrNil)
			wantErr(t, name+": Restart", st.Restart(), api.ErrNil)
			if st.Base() != 0 || st.Promised() != 0 || st.Slots() != 0 {
				t.Errorf("%s: %d, %d, %d", name, st.Base(), st.Promised(), st.Slots())
			}
			if !st.Down() || st.Log() != nil || st.Copy() != nil {
				t.Errorf("%s: %v, %v, %v", name, st.Down(), st.Log(), st.Copy())
			}
		}
	}
}

// P8.2: of two faults the one that the document names first.
func TestTwoFaults(t *testing.T) {
	long := []byte(longest + "l")
	p := begin(t, 1024).promise(5)
	for i := range maxSlots - 1 {
		p.accept(10+i, 5, "")
	}
	p.forget(3).accept(9, 5, "")
	for _, c := range []struct {
		name         string
		slot, ballot int
		value        []byte
		e            api.Errno
	}{
		{"a wrong slot, an old ballot", -1, 4, nil, api.ErrArg},
		{"a wrong slot, a long value", maxNumber + 1, 5, long, api.ErrArg},
		{"a wrong ballot, an old slot", 2, -1, nil, api.ErrArg},
		{"a wrong ballot, a long value", 9, maxNumber + 1, long, api.ErrArg},
		{"a wrong ballot, a slot too many", 8, -1, nil, api.ErrArg},
		{"an old ballot, an old slot", 2, 4, nil, api.ErrOld},
		{"an old ballot, a long value", 9, 4, long, api.ErrOld},
		{"an old slot, a long value", 2, 5, long, api.ErrOld},
		{"an old ballot, a slot too many", 8, 4, nil, api.ErrOld},
		{"an old slot, which is one too many", 2, 5, nil, api.ErrOld},
		{"a long value, a slot too many", 8, 5, long, api.ErrLong},
		{"a slot too many", 8, 5, nil, api.ErrFull},
	} {
		wantErr(t, c.name, p.st.Accept(c.slot, c.ballot, c.value), c.e)
	}
	p.check("refused")
}

// hidden gives a text as bytes, with others behind their length, and a check that these stayed.
func hidden(t *testing.T, text string) ([]byte, func()) {
	const behind = "behind"
	long := []byte(text + behind)
	return long[:len(text)], func() {
		t.Helper()
		if string(long) != text+behind {
			t.Errorf("what was handed in is %q", long)
		}
	}
}

// P8.2, rule 5: a value that was handed in is neither changed nor kept.
func TestWhatIsHandedInIsLeft(t *testing.T) {
	for _, text := range []string{"", "handed in", longest} {
		p := begin(t, 2).accept(0, 1, "ahead")
		value, stayed := hidden(t, text)
		p.s.accept(1, 2, text)
		wantErr(t, "Accept", p.st.Accept(1, 2, value), api.OK)
		stayed()
		p.accept(2, 2, "more").check("accepted")
		stayed()
		clear(value[:cap(value)])
		p.check("changed by the caller").snapshot().crash(0, 0).restart().check("restarted")
	}
}

// P8.3, rule 5: a value that was told is the caller's.
func TestValueToldIsTheCallers(t *testing.T) {
	for _, p := range append(ups(t), downs(t)...) {
		q := p.copy()
		for slot := range p.s.now.slots {
			_, value, _ := p.st.Get(slot)
			_, again, _ := p.st.Get(slot)
			same := string(again)
			clear(value[:cap(value)])
			_ = append(value[:0], "longer than that value"...)
			if string(again) != same {
				t.Errorf("another answer is changed to %q", again)
			}
		}
		p.checkCrashed("changed by the caller")
		q.checkCrashed("the copy")
	}
}

// P8.6, rule 5: a log that was told is the caller's.
func TestLogToldIsTheCallers(t *testing.T) {
	for name, f := range map[string]func(l *seglog.Log){
		"Append":  func(l *seglog.Log) { l.Append([]byte("\x01\x63")); l.Sync() },
		"Drop":    func(l *seglog.Log) { l.Sync(); l.Drop(l.Safe()) },
		"Crash":   func(l *seglog.Log) { l.Crash(1, 1) },
		"Restart": func(l *seglog.Log) { l.Restart(); l.Append(nil) },
	} {
		for _, p := range append(ups(t), downs(t)...) {
			f(p.st.Log())
			p.checkCrashed(name + " by the caller")
			told := p.st.Log()
			text := logText(told)
			p.promise(80).accept(2, 81, "on").sync().crash(0, 0)
			if logText(told) != text {
				t.Errorf("%s: a log that was told is changed", name)
			}
		}
	}
}

// P8.6: a copy has all that the first one has, and each goes on as if there were no other.
func TestCopyGoesOnApart(t *testing.T) {
	for i := range append(ups(t), downs(t)...) {
		for name, f := range deeds() {
			for other, g := range deeds() {
				first := append(ups(t), downs(t)...)[i]
				second := first.copy()
				if first.st == second.st {
					t.Fatal("a copy is the same store")
				}
				second.checkCrashed("copy")
				f(first)
				second.checkCrashed("copy, behind " + name + " of the first")
				g(second)
				first.checkCrashed("first, behind " + name + ", and " + other + " of the copy")
				third := second.copy()
				f(second)
				third.checkCrashed("copy of a copy")
				second.checkCrashed(name + " of the copy")
				if t.Failed() {
					t.Fatalf("store %d, %s, %s", i, name, other)
				}
			}
		}
	}
}

// P8.7: crash behind crash: the promise never falls below what was synced, and a slot has what it had, or what was accepted later.
func TestWhatIsSyncedStays(t *testing.T) {
	for per := 1; per <= 4; per++ {
		chance := rand.New(rand.NewPCG(8, uint64(per)))
		st, _ := store.New(per)
		for range 300 {
			later := map[int][]vote{}
			promised, base := st.Promised(), st.Base()
			for slot := base; slot < base+9; slot++ {
				if ballot, value, ok := st.Get(slot); ok {
					later[slot] = []vote{{ballot, string(value)}}
				}
			}
			synced := map[int]int{}
			for slot := range later {
				synced[slot] = 1
			}
			for range chance.IntN(9) {
				switch ballot, slot := st.Promised()+chance.IntN(3), st.Base()+chance.IntN(6); chance.IntN(6) {
				case 0:
					st.Promise(ballot)
				case 1:
					st.Forget(st.Base() + chance.IntN(2))
				case 2:
					sync := []func() api.Errno{st.Sync, st.Snapshot}[chance.IntN(2)]
					wantErr(t, "Sync or Snapshot", sync(), api.OK)
					promised, base = st.Promised(), st.Base()
					for slot, l := range later {
						synced[slot] = len(l)
					}
				default:
					value := strings.Repeat("x", chance.IntN(4)) + fmt.Sprint(chance.IntN(1000))
					wantErr(t, "Accept", st.Accept(slot, ballot, []byte(value)), api.OK)
					later[slot] = append(later[slot], vote{ballot, value})
				}
			}
			wantErr(t, "Crash", st.Crash(chance.IntN(90), chance.IntN(700)-300), api.OK)
			wantErr(t, "Restart", st.Restart(), api.OK)
			if st.Promised() < promised || st.Base() < base {
				t.Fatalf("promise %d, which was %d; base %d, which was %d", st.Promised(), promised, st.Base(), base)
			}
			for slot, l := range later {
				wantSynced(t, st, slot, l, synced[slot])
			}
			if t.Failed() {
				t.Fatalf("per %d", per)
			}
			if st.Log().Len() > 100*per {
				wantErr(t, "Snapshot", st.Snapshot(), api.OK)
			}
		}
	}
}

// wantSynced checks that a slot has the last of what was synced of it, or what came later; or is forgotten, or had nothing synced.
func wantSynced(t *testing.T, st *store.Store, slot int, l []vote, synced int) {
	t.Helper()
	ballot, value, ok := st.Get(slot)
	if !ok {
		if synced > 0 && slot >= st.Base() {
			t.Errorf("slot %d has lost what it had", slot)
		}
		return
	}
	for _, v := range l[max(0, synced-1):] {
		if v == (vote{ballot, string(value)}) {
			return
		}
	}
	t.Errorf("slot %d has %d, %q", slot, ballot, value)
}

// some gives a number that is mostly near, and at times far off.
func some(chance *rand.Rand, near int) int {
	if chance.IntN(15) == 0 {
		return append([]int{maxNumber, maxNumber + 1}, farOff...)[chance.IntN(2+len(farOff))]
	}
	return chance.IntN(near+2) - 1
}

// P8.2 to P8.7: calls in any order, held against the document's words; at times a copy goes on in the store's place.
func TestAnyOrderOfCalls(t *testing.T) {
	for seed := range uint64(400) {
		chance := rand.New(rand.NewPCG(seed, 8))
		p := begin(t, 1+chance.IntN(5))
		old := p.copy()
		for range 80 {
			switch chance.IntN(16) {
			case 0, 1:
				p.promise(some(chance, p.s.now.promise%1000+3))
			case 2, 3, 4, 5, 6:
				slot, ballot := some(chance, 8), p.s.now.promise+some(chance, 2)
				p.accept(slot, ballot, strings.Repeat(string([]byte{byte(chance.IntN(256))}), chance.IntN(5)))
			case 7:
				p.forget(some(chance, 8))
			case 8, 9:
				p.sync()
			case 10:
				p.snapshot()
			case 11:
				p.crash(some(chance, 90), some(chance, 700))
			case 12, 13:
				p.restart()
			case 14, 15:
				old.check("a store whose copy went on")
				old, p = p, p.copy()
			}
			p.checkCrashed("behind a call")
			if t.Failed() {
				t.Fatalf("seed %d", seed)
			}
		}
		old.checkCrashed("a store whose copy went on")
	}
}
