package store

import (
	"testing"

	"raceway/api"
	"raceway/crc"
)

// kept gives a store that has some slots, made in no order, and a base above one that it forgot.
func kept(t *testing.T) *Store {
	t.Helper()
	s, e := New(2)
	if e != api.OK {
		t.Fatalf("New: error %d", int(e))
	}
	for _, e := range []api.Errno{
		s.Promise(299), s.Accept(0, 299, []byte("gone")), s.Accept(300, 300, []byte("xy")), s.Accept(1, 301, nil),
		s.Accept(1<<40, 301, []byte{0, 255}), s.Forget(1), s.Promise(1 << 20),
	} {
		if e != api.OK {
			t.Fatalf("error %d", int(e))
		}
	}
	return s
}

// Words, P8.4: a snapshot, byte by byte: numbers of one byte and of more, slots that rise, a value of no bytes.
func TestBytesOfSnapshot(t *testing.T) {
	const body = "\x80\x80\x40" + "\x01" + "\x03" +
		"\x01" + "\xad\x02" + "\x00" +
		"\xac\x02" + "\xac\x02" + "\x02xy" +
		"\x80\x80\x80\x80\x80\x20" + "\xad\x02" + "\x02\x00\xff"
	s := kept(t)
	if n := s.snap.Size(); n != 0 {
		t.Errorf("ahead of Snapshot there are %d bytes", n)
	}
	for range 2 {
		if e := s.Snapshot(); e != api.OK {
			t.Fatalf("error %d", int(e))
		}
		frame, _ := crc.Frame([]byte(body))
		if got := s.snap.Kept(); string(got) != string(frame) || s.snap.Size() != len(frame) {
			t.Errorf("the snapshot is %x, not %x", got, frame)
		}
	}
	if e := s.Forget(1 << 40); e != api.OK {
		t.Fatalf("error %d", int(e))
	}
	if e := s.Snapshot(); e != api.OK {
		t.Fatalf("error %d", int(e))
	}
	frame, _ := crc.Frame([]byte("\x80\x80\x40" + "\x80\x80\x80\x80\x80\x20" + "\x01" + "\x80\x80\x80\x80\x80\x20" + "\xad\x02" + "\x02\x00\xff"))
	if got := s.snap.Kept(); string(got) != string(frame) {
		t.Errorf("the next snapshot is %x, not %x", got, frame)
	}
}

// P8.4: of nothing there is a snapshot, too.
func TestBytesOfSnapshotOfNothing(t *testing.T) {
	s, _ := New(1)
	if e := s.Snapshot(); e != api.OK {
		t.Fatalf("error %d", int(e))
	}
	frame, _ := crc.Frame([]byte{0, 0, 0})
	if got := s.snap.Kept(); string(got) != string(frame) {
		t.Errorf("the snapshot is %x, not %x", got, frame)
	}
}

// P8.5: the snapshot's disk goes down and comes up with the log, and has what it had; a crash that is refused leaves both up.
func TestDiskOfSnapshotCrashes(t *testing.T) {
	s := kept(t)
	if e := s.Snapshot(); e != api.OK {
		t.Fatalf("error %d", int(e))
	}
	had := string(s.snap.Kept())
	if e := s.Crash(-1, 0); e != api.ErrArg || s.snap.Down() {
		t.Errorf("Crash(-1, 0): error %d, down %v", int(e), s.snap.Down())
	}
	if e := s.Restart(); e != api.ErrState || s.snap.Down() {
		t.Errorf("Restart while up: error %d, down %v", int(e), s.snap.Down())
	}
	for _, keep := range []int{0, 1, 1 << 20} {
		if e := s.Crash(keep, keep); e != api.OK || !s.snap.Down() || string(s.snap.Kept()) != had {
			t.Errorf("Crash: error %d, down %v", int(e), s.snap.Down())
		}
		if e := s.Restart(); e != api.OK || s.snap.Down() || string(s.snap.Kept()) != had {
			t.Errorf("Restart: error %d, down %v", int(e), s.snap.Down())
		}
	}
}

// P8.5: what comes back does not hang on what was there: snapshot and log say all of it.
func TestRestartReadsAnew(t *testing.T) {
	for _, snapshot := range []bool{false, true} {
		s := kept(t)
		if snapshot {
			s.Snapshot()
		}
		s.Sync()
		s.Crash(0, 0)
		s.promise, s.base, s.slots = 1<<30, 7, map[int]vote{9: {9, "not written"}}
		if e := s.Restart(); e != api.OK {
			t.Fatalf("error %d", int(e))
		}
		if s.Promised() != 1<<20 || s.Base() != 1 || s.Slots() != 1<<40+1 || len(s.slots) != 3 {
			t.Errorf("promise %d, base %d, slots %v", s.Promised(), s.Base(), s.slots)
		}
		if v := s.slots[300]; v != (vote{300, "xy"}) {
			t.Errorf("slot 300 has %v", v)
		}
	}
}

// P8.5: the greater promise and the greater base count, in whatever order records tell them.
func TestGreaterOneCounts(t *testing.T) {
	s, _ := New(1)
	for _, rec := range []string{"\x01\x05", "\x01\x03", "\x02\x07\x04x", "\x03\x06", "\x03\x02"} {
		s.apply([]byte(rec))
	}
	if s.Promised() != 5 || s.Base() != 6 || s.Slots() != 8 || s.slots[7] != (vote{4, "x"}) {
		t.Errorf("promise %d, base %d, slots %v", s.Promised(), s.Base(), s.slots)
	}
}

// Rule 1: whatever bytes come, nothing panics, and it ends.
func TestReaderOfAnyBytes(t *testing.T) {
	for _, text := range []string{"", "\x01", "\x02", "\x02\x01", "\x02\x80", "\x03", "\x04abc", "\x80", "\x80\x00", "\xff\xff\xff\xff\xff\xff\xff\xff\xff\xff"} {
		s, _ := New(1)
		s.apply([]byte(text))
		r := reader{rest: []byte(text)}
		if got := r.text(99); got != text || len(r.rest) > 0 || r.num() != 0 || r.text(1) != "" {
			t.Errorf("%q is read as %q", text, got)
		}
	}
}
