package seglog_test

import (
	"fmt"
	"iter"
	"math"
	"math/rand/v2"
	"slices"
	"strings"
	"testing"

	"raceway/api"
	"raceway/disk"
	"raceway/seglog"
)

// The chapter's example.
func TestExample(t *testing.T) {
	p := begin(t, 2).append("x", "y", "z").check("written").sync().append("w").check("synced")
	wantNumbers(t, "synced", p.l, 0, 3, 4)
	p.crash(0, 0).check("crashed").restart().check("restarted")
	wantNumbers(t, "restarted", p.l, 0, 3, 3)
	wantRecords(t, "restarted", p.l, 0, []string{"x", "y", "z"})
	if n := len(p.l.Segments()); n != 2 {
		t.Errorf("%d segments", n)
	}
}

// P7.1
func TestNew(t *testing.T) {
	for _, per := range []int{1, 2, 3, 512, 1023, 1024} {
		begin(t, per).check(fmt.Sprint("New of ", per))
	}
	for _, per := range append([]int{0, -1, -2, -1024, 1025, 1026, 2048, 1 << 32}, farOff...) {
		if l, e := seglog.New(per); l != nil || e != api.ErrArg {
			t.Errorf("New(%d): %v, error %d", per, l, int(e))
		}
	}
}

// P7.1, P7.2: what New makes is apart.
func TestLogsAreApart(t *testing.T) {
	a, b := begin(t, 2), begin(t, 2)
	a.append("a")
	b.check("the other").append("b", "c", "d").sync().crash(0, 0)
	a.check("the one")
	b.check("the other")
}

// P7.1, P7.2: a segment takes just per records, the least and the most that there may be.
func TestSegmentIsFull(t *testing.T) {
	for _, per := range []int{1, 2, 3, 7, 1023, 1024} {
		p := begin(t, per)
		for i, rec := range numbered(2*per + 1) {
			p.append(rec)
			if got, segments := len(p.l.Segments()), 1+i/per; got != segments {
				t.Fatalf("per %d: record %d is in segment %d, not %d", per, i, got, segments)
			}
		}
		p.check("three segments").sync().check("synced").crash(0, 0).restart().check("restarted")
	}
}

// P7.2: what a segment has, byte by byte, with first numbers of one byte and of two.
func TestBytesOfSegments(t *testing.T) {
	p := begin(t, 127).append(numbered(300)...)
	disks := p.l.Segments()
	if len(disks) != 3 {
		t.Fatalf("%d segments", len(disks))
	}
	for i, head := range []string{"\x00", "\x7f", "\xfe\x01"} {
		text := frameOf(head)
		for n := 127 * i; n < min(127*i+127, 300); n++ {
			text += frameOf(fmt.Sprint("r", n))
		}
		if b, e := disks[i].Read(); e != api.OK || string(b) != text {
			t.Errorf("segment %d: error %d, %.80x", i, int(e), b)
		}
	}
}

// P7.2
func TestAppendOfAnyLength(t *testing.T) {
	longest := strings.Repeat("l", maxRecord)
	for _, per := range []int{1, 2, 10} {
		p := begin(t, per).append("", "a", longest, "", "", longest[1:], longest, "\x00\xff").check("written")
		for _, more := range []int{1, 2, maxRecord} {
			p.append(longest + longest[:more]).check("too long")
		}
		p.sync().append("", longest).append(longest+"l").check("written on").crash(0, 0).restart().check("restarted")
	}
	if n, e := begin(t, 1).l.Append(nil); n != 0 || e != api.OK {
		t.Errorf("Append of nil: %d, error %d", n, int(e))
	}
	for _, per := range []int{1, 2} {
		begin(t, per).append(longest + "l").check("too long for a first record")
	}
}

// P7.2: the last place of the 256th segment, and one more, which a Drop makes room for.
func TestLogIsFull(t *testing.T) {
	for _, per := range []int{1, 2, 3} {
		p := begin(t, per).append(numbered(maxSegments*per - 1)...)
		if _, e := p.l.Copy().Append([]byte("last")); e != api.OK {
			t.Errorf("per %d: the last place: error %d", per, int(e))
		}
		p.append("last").check("full")
		for range 2 {
			if n, e := p.l.Append(nil); n != 0 || e != api.ErrFull {
				t.Errorf("per %d: one more: %d, error %d", per, n, int(e))
			}
		}
		if n, e := p.l.Append(make([]byte, maxRecord+1)); n != 0 || e != api.ErrLong {
			t.Errorf("per %d: one more, and too long: %d, error %d", per, n, int(e))
		}
		p.check("refused").sync().append("more").check("synced")
		p.drop(per).check("dropped").append(numbered(per)...).check("full again").append("more").check("refused again")
		p.sync().crash(0, 0).append("more").restart().append("more").check("restarted")
		wantNumbers(t, "full", p.l, per, (maxSegments+1)*per, (maxSegments+1)*per)
	}
}

// P7.2, P7.7: where a disk takes no more bytes ahead of per records the record is refused, since one in a segment behind would be lost by a restart.
func TestDiskIsFull(t *testing.T) {
	longest := strings.Repeat("l", maxRecord)
	p := begin(t, 1024)
	for range 63 {
		p.append(longest)
	}
	room := maxDisk - p.l.Segments()[0].Size() - frameHead
	for _, n := range []int{maxRecord, room + 1} {
		if number, e := p.l.Append(make([]byte, n)); number != 0 || e != api.ErrFull {
			t.Errorf("%d bytes: %d, error %d", n, number, int(e))
		}
	}
	p.check("refused").append(longest[:room]).check("just full").append("").check("no room for a head").sync().append("").crash(9, 0).restart().check("restarted")
	wantNumbers(t, "restarted", p.l, 0, 64, 64)
}

// P7.2: Safe ahead of and behind Sync.
func TestSafe(t *testing.T) {
	p := begin(t, 2).sync().check("nothing synced")
	for n := range 7 {
		p.append("x")
		wantNumbers(t, "ahead of Sync", p.l, 0, n, n+1)
		p.check("ahead of Sync").sync()
		wantNumbers(t, "behind Sync", p.l, 0, n+1, n+1)
		p.check("behind Sync").sync().check("synced again")
	}
	p.append("a", "b", "c")
	wantNumbers(t, "three more", p.l, 0, 7, 10)
}

// P7.2: all segments' disks are synced, not the last one alone.
func TestSyncOfAllSegments(t *testing.T) {
	for _, per := range []int{1, 2, 3} {
		p := begin(t, per).append(numbered(8)...).sync().check("synced").crash(0, 0).check("crashed").restart().check("restarted")
		wantNumbers(t, "restarted", p.l, 0, 8, 8)
	}
}

// hidden gives a text as bytes, with others behind their length, and a check that these stayed.
func hidden(t *testing.T, text string) ([]byte, func()) {
	const behind = "behind"
	long := []byte(text + behind)
	return long[:len(text)], func() {
		t.Helper()
		if string(long) != text+behind {
			t.Errorf("what was handed in is %q", long)
		}
	}
}

// P7.2, rule 5: a record that was handed in is neither changed nor kept.
func TestWhatIsHandedInIsLeft(t *testing.T) {
	for _, text := range []string{"", "handed in"} {
		p := begin(t, 2).append("ahead")
		b, stayed := hidden(t, text)
		p.s.append(text)
		if n, e := p.l.Append(b); n != 1 || e != api.OK {
			t.Errorf("Append: %d, error %d", n, int(e))
		}
		stayed()
		p.append("more").check("appended")
		stayed()
		clear(b[:cap(b)])
		p.check("changed by the caller").crash(math.MaxInt, -1).restart().check("restarted")
	}
}

// P7.3
func TestRecordsEndedByTheCaller(t *testing.T) {
	for _, per := range []int{1, 2, 3, 9} {
		p := begin(t, per).append(numbered(9)...).sync().drop(4)
		base := p.l.Base()
		for stop := 1; base+stop <= 9; stop++ {
			var got []string
			p.l.Records()(func(n int, rec []byte) bool {
				if n != base+len(got) {
					t.Errorf("%d is told as %d", base+len(got), n)
				}
				got = append(got, string(rec))
				return len(got) < stop
			})
			if !slices.Equal(got, numbered(9)[base:base+stop]) {
				t.Errorf("per %d, ended at %d: %s", per, stop, told(got))
			}
		}
		p.check("ended")
	}
}

// tell gives what an iterator tells.
func tell(all iter.Seq2[int, []byte]) []string {
	var l []string
	for n, rec := range all {
		l = append(l, fmt.Sprint(n, string(rec)))
	}
	return l
}

// P7.3, rule 7: what was told stays so, however often it is gone through, and whatever is done to the log.
func TestRecordsTellTheSameAgain(t *testing.T) {
	p := begin(t, 2).append("a", "b", "c").sync()
	all, same := p.l.Records(), []string{"0a", "1b", "2c"}
	for range all {
		break
	}
	for i, f := range []func(){func() {}, func() { p.append("d", "e") }, func() { p.drop(2) }, func() { p.crash(0, 0) }} {
		f()
		if got := tell(all); !slices.Equal(got, same) {
			t.Errorf("behind deed %d: %q", i, got)
		}
	}
	if got := tell(p.l.Records()); len(got) > 0 {
		t.Errorf("down: %q", got)
	}
}

// P7.3: who goes through the records may do what he likes to the log, and it ends.
func TestCallsWithinRecords(t *testing.T) {
	for name, f := range map[string]func(p pair){
		"Append":  func(p pair) { p.append("more") },
		"Sync":    func(p pair) { p.sync() },
		"Drop":    func(p pair) { p.drop(3) },
		"Crash":   func(p pair) { p.crash(3, 1) },
		"Restart": func(p pair) { p.crash(3, 1).restart() },
	} {
		p := begin(t, 2).append(numbered(5)...).sync().append("x")
		n := 0
		for i := range p.l.Records() {
			if i != n {
				t.Errorf("%s: %d is told as %d", name, n, i)
			}
			f(p)
			n++
		}
		if n != 6 {
			t.Errorf("%s: %d records", name, n)
		}
		p.check(name)
	}
}

// P7.3, rule 5: a record that was told is the caller's.
func TestRecordsHaveTheirOwnMemory(t *testing.T) {
	p := begin(t, 2).append(numbered(5)...)
	all := p.l.Records()
	same := tell(all)
	var told [][]byte
	for _, rec := range all {
		told = append(told, rec)
	}
	for _, rec := range told {
		rec = rec[:cap(rec)]
		clear(rec)
		_ = append(rec[:0], "longer than that record"...)
	}
	p.check("changed by the caller")
	if got := tell(all); !slices.Equal(got, same) {
		t.Errorf("%q", got)
	}
}

// P7.4: each n from below the first record to just above Safe, by how many segments there are and how much is kept.
func TestDrop(t *testing.T) {
	for _, per := range []int{1, 2, 3, 8} {
		for synced := range 8 {
			for more := range 5 {
				for n := -1; n <= synced+more+1; n++ {
					p := begin(t, per).append(numbered(synced)...).sync().append(numbered(more)...)
					p.drop(n).check("dropped").drop(n).check("dropped again")
					p.append("x").check("appended").drop(p.l.Safe()).check("dropped at Safe")
					p.crash(0, -1).restart().check("restarted")
					if t.Failed() {
						t.Fatalf("per %d, %d synced, %d more, Drop(%d)", per, synced, more, n)
					}
				}
			}
		}
	}
}

// P7.4: the edges, written out.
func TestDropEdges(t *testing.T) {
	for _, c := range []struct {
		n    int
		e    api.Errno
		base int
	}{
		{0, api.OK, 0}, {1, api.OK, 0}, {2, api.OK, 0}, {3, api.OK, 3}, {4, api.OK, 3}, {5, api.OK, 3},
		{6, api.OK, 6}, {7, api.OK, 6}, {8, api.OK, 6}, {9, api.ErrArg, 0}, {10, api.ErrArg, 0},
		{-1, api.OK, 0}, {math.MinInt, api.OK, 0}, {math.MaxInt, api.ErrArg, 0},
	} {
		p := begin(t, 3).append(numbered(8)...).sync().append("not kept")
		name := fmt.Sprintf("Drop(%d)", c.n)
		wantErr(t, name, p.l.Drop(c.n), c.e)
		wantNumbers(t, name, p.l, c.base, 8, 9)
		if n := len(p.l.Segments()); n != 3-c.base/3 {
			t.Errorf("%s: %d segments are left", name, n)
		}
		wantRecords(t, name, p.l, c.base, append(numbered(8), "not kept")[c.base:])
	}
	full := begin(t, 2).append(numbered(4)...).sync().drop(4)
	wantNumbers(t, "the last segment stays, and is full", full.l, 2, 4, 4)
	full.check("the last segment stays, and is full").append("x").check("the next one")
	full.drop(4).check("the full one goes, whatever is behind it")
	wantNumbers(t, "the full one goes", full.l, 4, 4, 5)
}

// P7.4
func TestDropFarOff(t *testing.T) {
	for _, p := range []pair{begin(t, 3), begin(t, 3).append(numbered(9)...), begin(t, 3).append(numbered(9)...).sync().drop(7)} {
		for _, n := range append([]int{p.l.Safe() + 1, p.l.Safe(), p.l.Base(), p.l.Base() - 1, 0, -1}, farOff...) {
			p.drop(n).check(fmt.Sprintf("Drop(%d)", n))
		}
	}
}

// P7.5: each number of bytes that are left, with no bit turned; each bit turned, with all bytes left; and each of the two with some of the other.
func TestCrash(t *testing.T) {
	for _, per := range []int{1, 2, 3} {
		for synced := range 5 {
			for more := range 6 {
				first := begin(t, per).append(numbered(synced)...).sync().append(numbered(more)...)
				try := func(keep, flip int) {
					p := first.copy()
					p.crash(keep, flip).check("crashed").restart().check("restarted").append("behind").check("appended behind")
					if t.Failed() {
						t.Fatalf("per %d, %d synced, %d more, Crash(%d, %d)", per, synced, more, keep, flip)
					}
				}
				loose := 13 + 14*per + 1
				for keep := range loose + 1 {
					try(keep, -1)
					try(keep, 8*keep-1)
					try(keep, 8*keep)
					try(keep, 5*keep)
				}
				for flip := range 8*loose + 1 {
					try(math.MaxInt, flip)
				}
				first.check("copied and crashed")
			}
		}
	}
}

// P7.5: the edges, written out. A segment's first frame has 13 bytes here, a record's 14; what the first segment has is kept as far as the case says.
func TestCrashEdges(t *testing.T) {
	for _, c := range []struct {
		name              string
		synced, more      int
		keep, flip        int
		records, segments int
	}{
		{"nothing was written", 0, 0, 9, 9, 0, 0},
		{"nothing is left", 0, 5, 0, -1, 0, 0},
		{"a piece of the first frame is left", 0, 5, 12, -1, 0, 0},
		{"the first frame is left, and no record", 0, 5, 13, -1, 0, 1},
		{"a record's frame lacks a byte", 0, 5, 26, -1, 0, 1},
		{"a record is left, and no byte behind: that ends it", 0, 5, 27, -1, 1, 1},
		{"a byte behind it", 0, 5, 28, -1, 1, 1},
		{"all is left but a byte", 0, 5, 40, -1, 1, 1},
		{"all is left", 0, 5, 41, -1, 5, 3},
		{"more is left than there is", 0, 5, math.MaxInt, -1, 5, 3},
		{"all is left, and no bit is turned far below", 0, 5, 41, math.MinInt, 5, 3},
		{"all is left, and no bit is turned far above", 0, 5, 41, math.MaxInt, 5, 3},
		{"the first bit is turned", 0, 5, 41, 0, 0, 0},
		{"the last bit of the first frame is turned", 0, 5, 41, 13*8 - 1, 0, 0},
		{"the first bit of a record's frame is turned", 0, 5, 41, 13 * 8, 0, 1},
		{"the last bit of a record's frame is turned", 0, 5, 41, 27*8 - 1, 0, 1},
		{"the first bit of the last frame is turned", 0, 5, 41, 27 * 8, 1, 1},
		{"the last bit is turned", 0, 5, 41, 41*8 - 1, 1, 1},
		{"the bit behind the last one is turned", 0, 5, 41, 41 * 8, 5, 3},
		{"the second segment is gone whole", 2, 3, 0, -1, 2, 1},
		{"the second segment has its first frame", 2, 3, 13, -1, 2, 2},
		{"the second segment has a bit turned in its first frame", 2, 3, 41, 5, 2, 1},
		{"the second segment has a bit turned in its record", 2, 3, 41, 13*8 + 5, 2, 2},
		{"the second segment's second record is gone, and the third segment is left whole", 3, 2, 13, -1, 3, 2},
		{"the second segment's second record is left, and of the third segment the first frame", 3, 2, 14, -1, 4, 3},
		{"the second segment's second record has a bit turned", 3, 2, 27, 14*8 - 1, 3, 2},
		{"a bit is turned that only the third segment has", 3, 2, 27, 14 * 8, 4, 3},
		{"all is kept", 5, 0, 0, 0, 5, 3},
	} {
		p := begin(t, 2).append(numbered(c.synced)...).sync().append(numbered(c.synced + c.more)[c.synced:]...)
		p.crash(c.keep, c.flip).check(c.name + ", down").restart().check(c.name)
		wantNumbers(t, c.name, p.l, 0, c.records, c.records)
		wantRecords(t, c.name, p.l, 0, numbered(c.records))
		if n := len(p.l.Segments()); n != c.segments {
			t.Errorf("%s: %d segments, not %d", c.name, n, c.segments)
		}
		p.append("a", "b", "c").check(c.name+", appended behind").sync().crash(0, 0).restart().check(c.name + ", and again")
		wantNumbers(t, c.name, p.l, 0, c.records+3, c.records+3)
	}
}

// P7.5: behind a Drop the numbers go on from the first segment's, of one byte or two; where no segment is left they begin at 0 again.
func TestRestartBehindDrop(t *testing.T) {
	p := begin(t, 100).append(numbered(350)...).sync().drop(250).append("more").crash(0, 0).check("down").restart().check("restarted")
	wantNumbers(t, "restarted", p.l, 200, 350, 350)
	p = begin(t, 2).append(numbered(2)...).sync().append("lost").drop(2).check("the last segment has nothing that is kept")
	wantNumbers(t, "dropped", p.l, 2, 2, 3)
	q := p.copy()
	p.crash(0, 0).restart().check("no segment is left")
	wantNumbers(t, "no segment is left", p.l, 0, 0, 0)
	p.append("anew").check("begun anew")
	wantNumbers(t, "begun anew", p.l, 0, 0, 1)
	q.crash(13, -1).restart().check("a segment without records is left")
	wantNumbers(t, "a segment without records is left", q.l, 2, 2, 2)
	q.drop(2).check("it stays").append("on").check("written on")
	wantNumbers(t, "written on", q.l, 2, 2, 3)
}

// ups and downs give some logs of each kind.
func ups(t *testing.T) []pair {
	return []pair{
		begin(t, 2),
		begin(t, 2).append("a"),
		begin(t, 2).append("a", "b", "c").sync().append("d", "e"),
		begin(t, 2).append(numbered(6)...).sync().drop(3),
		begin(t, 1024).append(numbered(9)...).sync().append("x").crash(3, 0).restart(),
	}
}

func downs(t *testing.T) []pair {
	l := ups(t)
	for _, p := range l {
		p.crash(17, 3)
	}
	return append(l, begin(t, 2).append("a").crash(0, 0), begin(t, 2).append("a").crash(99, -1))
}

// P7.5
func TestCrashRefused(t *testing.T) {
	for _, p := range ups(t) {
		for _, keep := range []int{-1, -2, math.MinInt32, math.MinInt} {
			for _, flip := range []int{-1, 0, 5, math.MaxInt, math.MinInt} {
				wantErr(t, "Crash", p.l.Crash(keep, flip), api.ErrArg)
				p.check("Crash refused")
			}
		}
	}
}

// P7.5
func TestRestartTwice(t *testing.T) {
	for _, p := range ups(t) {
		wantErr(t, "Restart while up", p.l.Restart(), api.ErrState)
		p.check("Restart while up")
	}
	for _, p := range downs(t) {
		p.restart().check("restarted")
		wantErr(t, "Restart again", p.l.Restart(), api.ErrState)
		p.check("Restart again")
	}
}

// P7.2 to P7.5: each call while it is down, with arguments that would be right, and with wrong ones.
func TestDownLog(t *testing.T) {
	for _, p := range downs(t) {
		for _, rec := range [][]byte{nil, []byte("x"), make([]byte, maxRecord), make([]byte, maxRecord+1)} {
			if n, e := p.l.Append(rec); n != 0 || e != api.ErrDown {
				t.Errorf("Append: %d, error %d", n, int(e))
			}
		}
		for _, n := range append([]int{0, 1, -1, 5}, farOff...) {
			wantErr(t, "Drop", p.l.Drop(n), api.ErrDown)
			wantErr(t, "Crash", p.l.Crash(n, 0), api.ErrDown)
			wantErr(t, "Crash", p.l.Crash(0, n), api.ErrDown)
		}
		wantErr(t, "Sync", p.l.Sync(), api.ErrDown)
		wantNumbers(t, "down", p.l, 0, 0, 0)
		wantRecords(t, "down", p.l, 0, nil)
		p.check("down").restart().check("restarted")
	}
	full := begin(t, 1).append(numbered(maxSegments)...).crash(99, -1)
	if n, e := full.l.Append(nil); n != 0 || e != api.ErrDown {
		t.Errorf("Append to a full one: %d, error %d", n, int(e))
	}
}

// P7.3, P7.6, rule 1: each call of a nil log and of a plain one, with right and with wrong arguments; and again, as nothing was done.
func TestLogThatNewDidNotMake(t *testing.T) {
	for name, l := range map[string]*seglog.Log{"nil": nil, "plain": {}, "new": new(seglog.Log)} {
		for range 2 {
			for _, rec := range [][]byte{nil, []byte("abc"), make([]byte, maxRecord+1)} {
				if n, e := l.Append(rec); n != 0 || e != api.ErrNil {
					t.Errorf("%s: Append: %d, error %d", name, n, int(e))
				}
			}
			for _, n := range append([]int{0, 1, -1}, farOff...) {
				wantErr(t, name+": Drop", l.Drop(n), api.ErrNil)
				wantErr(t, name+": Crash", l.Crash(n, 0), api.ErrNil)
				wantErr(t, name+": Crash", l.Crash(0, n), api.ErrNil)
			}
			wantErr(t, name+": Sync", l.Sync(), api.ErrNil)
			wantErr(t, name+": Restart", l.Restart(), api.ErrNil)
			wantNumbers(t, name, l, 0, 0, 0)
			wantRecords(t, name, l, 0, nil)
			if !l.Down() || l.Segments() != nil || l.Copy() != nil {
				t.Errorf("%s: %v, %v, %v", name, l.Down(), l.Segments(), l.Copy())
			}
		}
	}
}

// P7.6, rule 5: a disk that was told is the caller's, and so is the list.
func TestSegmentsAreApart(t *testing.T) {
	for name, f := range map[string]func(d *disk.Disk){
		"Append":  func(d *disk.Disk) { d.Append([]byte("x")) },
		"Sync":    func(d *disk.Disk) { d.Sync() },
		"Cut":     func(d *disk.Disk) { d.Cut(1) },
		"Swap":    func(d *disk.Disk) { d.Swap([]byte("swapped")) },
		"Crash":   func(d *disk.Disk) { d.Crash(1, 1) },
		"Restart": func(d *disk.Disk) { d.Restart(); d.Append([]byte("x")) },
	} {
		for _, p := range append(ups(t), downs(t)...) {
			disks := p.l.Segments()
			for _, d := range disks {
				f(d)
			}
			clear(disks)
			_ = append(disks, nil)
			p.check(name + " by the caller")
			again := p.l.Segments()
			p.append("a", "b", "c").sync().drop(2).crash(9, 0).restart()
			p.check("went on")
			if len(again) > 0 && again[0] == nil {
				t.Errorf("%s: another answer is changed", name)
			}
		}
	}
}

// deeds is one of each call that changes a log.
func deeds() map[string]func(p pair) {
	return map[string]func(p pair){
		"nothing": func(p pair) {},
		"Append":  func(p pair) { p.append("appended") },
		"Appends": func(p pair) { p.append("a", "bb", "ccc") },
		"Sync":    func(p pair) { p.sync() },
		"Drop":    func(p pair) { p.sync().drop(4) },
		"Crash":   func(p pair) { p.crash(20, 3) },
		"Restart": func(p pair) { p.restart().append("behind") },
		"more":    func(p pair) { p.append("m").crash(50, -1).restart().append("n") },
	}
}

// P7.6: a copy has all that the first one has, and each goes on as if there were no other.
func TestCopyGoesOnApart(t *testing.T) {
	for i := range append(ups(t), downs(t)...) {
		for name, f := range deeds() {
			for other, g := range deeds() {
				first := append(ups(t), downs(t)...)[i]
				second := first.copy()
				if first.l == second.l {
					t.Fatal("a copy is the same log")
				}
				second.check("copy")
				f(first)
				second.check("copy, behind " + name + " of the first")
				g(second)
				first.check("first, behind " + name + ", and " + other + " of the copy")
				second.check("copy, behind " + other)
				third := second.copy()
				f(second)
				third.check("copy of a copy")
				g(third)
				second.check(name + " of the copy")
				third.check(other + " of the copy's copy")
				if t.Failed() {
					t.Fatalf("log %d, %s, %s", i, name, other)
				}
			}
		}
	}
}

// P7.7: crash behind crash: a beginning of the records is there, and all that were below Safe.
func TestWhatIsSafeStays(t *testing.T) {
	for per := 1; per <= 4; per++ {
		chance := rand.New(rand.NewPCG(7, uint64(per)))
		l, _ := seglog.New(per)
		var had []string
		for range 400 {
			for range chance.IntN(7) {
				rec := strings.Repeat("x", chance.IntN(4)) + fmt.Sprint(chance.IntN(1000))
				if n, e := l.Append([]byte(rec)); n != len(had) || e != api.OK {
					t.Fatalf("Append: %d, error %d", n, int(e))
				}
				had = append(had, rec)
				if chance.IntN(5) == 0 {
					wantErr(t, "Sync", l.Sync(), api.OK)
				}
			}
			safe := l.Safe()
			// One is left below Safe, so that a crash never leaves a log without a segment.
			wantErr(t, "Drop", l.Drop(max(0, safe-1-chance.IntN(9))), api.OK)
			base := l.Base()
			wantErr(t, "Crash", l.Crash(chance.IntN(90), chance.IntN(700)-300), api.OK)
			wantErr(t, "Restart", l.Restart(), api.OK)
			end := l.Len()
			if end < safe || end > len(had) {
				t.Fatalf("per %d: %d records, of which %d were safe: %d are left", per, len(had), safe, end)
			}
			had = had[:end]
			wantNumbers(t, "restarted", l, base, end, end)
			wantRecords(t, "restarted", l, base, had[base:])
		}
	}
}

// some gives a number that is mostly near, and at times far off.
func some(chance *rand.Rand, near int) int {
	if chance.IntN(12) == 0 {
		return farOff[chance.IntN(len(farOff))]
	}
	return chance.IntN(near+3) - 1
}

// P7.2 to P7.7: calls in any order, held against the document's words; at times a copy goes on in the log's place.
func TestAnyOrderOfCalls(t *testing.T) {
	for seed := range uint64(400) {
		chance := rand.New(rand.NewPCG(seed, 7))
		p := begin(t, 1+chance.IntN(5))
		old := p.copy()
		for range 80 {
			switch chance.IntN(14) {
			case 0, 1, 2, 3, 4, 5, 6:
				p.append(strings.Repeat(string([]byte{byte(chance.IntN(256))}), chance.IntN(5)))
			case 7, 8:
				p.sync()
			case 9:
				p.drop(some(chance, p.s.len()))
			case 10:
				p.crash(some(chance, 90), some(chance, 700))
			case 11, 12:
				p.restart()
			case 13:
				old.check("a log whose copy went on")
				old, p = p, p.copy()
			}
			p.check("behind a call")
			if t.Failed() {
				t.Fatalf("seed %d", seed)
			}
		}
		old.check("a log whose copy went on")
	}
}
