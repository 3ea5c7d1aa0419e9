package disk_test

import (
	"bytes"
	"fmt"
	"math"
	"math/rand/v2"
	"strings"
	"testing"

	"raceway/api"
	"raceway/disk"
)

// The document's limit, apart from the packages that are tested.
const maxSize = 1 << 22

// state is what the document says of a disk, apart from the package that is tested: what is kept, what is written but not kept, and whether it is down.
type state struct {
	kept, loose string
	down        bool
}

func (s state) String() string {
	return fmt.Sprintf("kept %q, not kept %q, down %v", told(s.kept), told(s.loose), s.down)
}

func (s *state) append(b string) api.Errno {
	switch {
	case s.down:
		return api.ErrDown
	case len(s.kept)+len(s.loose)+len(b) > maxSize:
		return api.ErrFull
	}
	s.loose += b
	return api.OK
}

func (s *state) sync() api.Errno {
	if s.down {
		return api.ErrDown
	}
	s.kept, s.loose = s.kept+s.loose, ""
	return api.OK
}

func (s *state) cut(n int) api.Errno {
	all := s.kept + s.loose
	switch {
	case s.down:
		return api.ErrDown
	case n < 0 || n > len(all):
		return api.ErrArg
	}
	s.kept, s.loose = all[:n], ""
	return api.OK
}

func (s *state) swap(b string) api.Errno {
	switch {
	case s.down:
		return api.ErrDown
	case len(b) > maxSize:
		return api.ErrFull
	}
	s.kept, s.loose = b, ""
	return api.OK
}

func (s *state) crash(keep, flip int) api.Errno {
	switch {
	case s.down:
		return api.ErrDown
	case keep < 0:
		return api.ErrArg
	}
	left := ""
	for i := range len(s.loose) {
		if i >= keep {
			break
		}
		x := s.loose[i]
		for bit := range 8 {
			if 8*i+bit == flip {
				x ^= []byte{1, 2, 4, 8, 16, 32, 64, 128}[bit]
			}
		}
		left += string([]byte{x})
	}
	s.loose, s.down = left, true
	return api.OK
}

func (s *state) restart() api.Errno {
	if !s.down {
		return api.ErrState
	}
	s.down = false
	return s.sync()
}

// told shortens what a test tells: disks may have millions of bytes.
func told(b string) string {
	if len(b) > 40 {
		return b[:40] + ".."
	}
	return b
}

// want checks all that a disk tells, and, of one that is down, what comes back: a copy tells that.
func want(t *testing.T, name string, d *disk.Disk, s state) {
	t.Helper()
	if d.Size() != len(s.kept)+len(s.loose) {
		t.Errorf("%s: Size: %d, not %d", name, d.Size(), len(s.kept)+len(s.loose))
	}
	if got := string(d.Kept()); got != s.kept {
		t.Errorf("%s: Kept: %d bytes %q, not %d bytes %q", name, len(got), told(got), len(s.kept), told(s.kept))
	}
	if d.Down() != s.down {
		t.Errorf("%s: Down: %v", name, d.Down())
	}
	up := d
	if s.down {
		if b, e := d.Read(); e != api.ErrDown || len(b) > 0 {
			t.Errorf("%s: Read of a disk that is down: error %d, %q", name, int(e), told(string(b)))
		}
		up = d.Copy()
		wantErr(t, name+": Restart of a copy", up.Restart(), api.OK)
	}
	all := s.kept + s.loose
	if b, e := up.Read(); e != api.OK || string(b) != all {
		t.Errorf("%s: Read: error %d, %d bytes %q, not %d bytes %q", name, int(e), len(b), told(string(b)), len(all), told(all))
	}
}

func wantErr(t *testing.T, name string, got, e api.Errno) {
	t.Helper()
	if got != e {
		t.Errorf("%s: error %d, not %d", name, int(got), int(e))
	}
}

// having gives a disk that has this; its memory has room behind what it has.
func having(t *testing.T, s state) *disk.Disk {
	t.Helper()
	d := disk.New()
	for i := range len(s.kept) {
		wantErr(t, "Append", d.Append([]byte{s.kept[i]}), api.OK)
	}
	wantErr(t, "Sync", d.Sync(), api.OK)
	for i := range len(s.loose) {
		wantErr(t, "Append", d.Append([]byte{s.loose[i]}), api.OK)
	}
	if s.down {
		wantErr(t, "Crash", d.Crash(len(s.loose), -1), api.OK)
	}
	want(t, "having", d, s)
	return d
}

// statesThat gives small disks that are down, or up.
func statesThat(down bool) []state {
	var l []state
	for _, kept := range []string{"", "k", "kept!"} {
		for _, loose := range []string{"", "l", "\x00\xff\x80\x01"} {
			l = append(l, state{kept, loose, down})
		}
	}
	return l
}

func upStates() []state { return statesThat(false) }

func downStates() []state { return statesThat(true) }

func states() []state { return append(upStates(), downStates()...) }

// The chapter's example.
func TestExample(t *testing.T) {
	d := disk.New()
	wantErr(t, "Append", d.Append([]byte("abc")), api.OK)
	wantErr(t, "Sync", d.Sync(), api.OK)
	wantErr(t, "Append", d.Append([]byte("de")), api.OK)
	want(t, "written", d, state{"abc", "de", false})
	wantErr(t, "Crash", d.Crash(1, 0), api.OK)
	want(t, "crashed", d, state{"abc", "e", true})
	wantErr(t, "Restart", d.Restart(), api.OK)
	want(t, "restarted", d, state{"abce", "", false})
}

// P6.1, P6.2, P6.3: each call on a disk with nothing.
func TestDiskWithNothing(t *testing.T) {
	want(t, "New", disk.New(), state{})
	for name, f := range map[string]func(d *disk.Disk) api.Errno{
		"Append of nil":    func(d *disk.Disk) api.Errno { return d.Append(nil) },
		"Append of none":   func(d *disk.Disk) api.Errno { return d.Append([]byte{}) },
		"Sync":             func(d *disk.Disk) api.Errno { return d.Sync() },
		"Cut":              func(d *disk.Disk) api.Errno { return d.Cut(0) },
		"Swap of nil":      func(d *disk.Disk) api.Errno { return d.Swap(nil) },
		"Swap of none":     func(d *disk.Disk) api.Errno { return d.Swap([]byte{}) },
		"Crash, keep none": func(d *disk.Disk) api.Errno { return d.Crash(0, 0) },
		"Crash, keep some": func(d *disk.Disk) api.Errno { return d.Crash(7, 0) },
	} {
		d := disk.New()
		wantErr(t, name, f(d), api.OK)
		want(t, name, d, state{down: strings.HasPrefix(name, "Crash")})
		if d.Down() {
			wantErr(t, name+", Restart", d.Restart(), api.OK)
			want(t, name+", Restart", d, state{})
		}
		wantErr(t, name+", Append", d.Append([]byte("x")), api.OK)
		want(t, name+", Append", d, state{"", "x", false})
	}
	d := disk.New()
	wantErr(t, "Cut above", d.Cut(1), api.ErrArg)
	wantErr(t, "Cut below", d.Cut(-1), api.ErrArg)
	wantErr(t, "Restart", d.Restart(), api.ErrState)
	want(t, "refused", d, state{})
}

// P6.1, P6.2
func TestAppendAndSync(t *testing.T) {
	for _, first := range upStates() {
		d, s := having(t, first), first
		for _, b := range []string{"a", "", "bc", "\x00", strings.Repeat("long", 100)} {
			wantErr(t, "Append", d.Append([]byte(b)), api.OK)
			s.loose += b
			want(t, "Append", d, s)
		}
		for range 2 {
			wantErr(t, "Sync", d.Sync(), api.OK)
			s.kept, s.loose = s.kept+s.loose, ""
			want(t, "Sync", d, s)
		}
	}
}

// P6.1: wherever it is cut, among what is kept, between, or among what is not, all that is left is kept.
func TestCut(t *testing.T) {
	for _, first := range upStates() {
		all := first.kept + first.loose
		for n := range len(all) + 1 {
			d := having(t, first)
			wantErr(t, "Cut", d.Cut(n), api.OK)
			want(t, "Cut", d, state{all[:n], "", false})
			wantErr(t, "Append", d.Append([]byte("x")), api.OK)
			want(t, "Append behind", d, state{all[:n], "x", false})
			wantErr(t, "Crash", d.Crash(0, 0), api.OK)
			want(t, "Crash behind", d, state{all[:n], "", true})
		}
	}
}

// P6.1
func TestCutRefused(t *testing.T) {
	for _, s := range upStates() {
		d := having(t, s)
		size := len(s.kept) + len(s.loose)
		for _, n := range []int{-1, -2, -size - 1, math.MinInt, size + 1, size + 2, 2*size + 1, maxSize, math.MaxInt32, math.MaxInt} {
			wantErr(t, "Cut", d.Cut(n), api.ErrArg)
			want(t, "Cut refused", d, s)
		}
	}
}

// P6.1
func TestSwap(t *testing.T) {
	for _, first := range upStates() {
		for _, b := range []string{"", "x", "swap", strings.Repeat("longer than it was", 9)} {
			d := having(t, first)
			wantErr(t, "Swap", d.Swap([]byte(b)), api.OK)
			want(t, "Swap", d, state{b, "", false})
			wantErr(t, "Append", d.Append([]byte("y")), api.OK)
			want(t, "Append behind", d, state{b, "y", false})
			wantErr(t, "Crash", d.Crash(0, 0), api.OK)
			want(t, "Crash behind", d, state{b, "", true})
		}
	}
}

// P6.1: just as many bytes as may be, and one more, whether they are kept or not, in one piece or in more.
func TestFullByAppend(t *testing.T) {
	whole := strings.Repeat("w", maxSize)
	for name, ahead := range map[string]state{
		"nothing": {}, "one kept": {kept: "k"}, "one not kept": {loose: "l"}, "both": {kept: "kept", loose: "loose"},
		"all but one kept": {kept: whole[1:]}, "all kept": {kept: whole},
	} {
		d := disk.New()
		wantErr(t, name, d.Append([]byte(ahead.kept)), api.OK)
		wantErr(t, name, d.Sync(), api.OK)
		wantErr(t, name, d.Append([]byte(ahead.loose)), api.OK)
		room := maxSize - d.Size()
		for _, more := range []int{1, 2, maxSize} {
			wantErr(t, name+", more", d.Append(make([]byte, room+more)), api.ErrFull)
			want(t, name+", more", d, ahead)
		}
		wantErr(t, name+", just that", d.Append([]byte(whole[:room])), api.OK)
		s := state{ahead.kept, ahead.loose + whole[:room], false}
		want(t, name+", just that", d, s)
		wantErr(t, name+", one more", d.Append([]byte{1}), api.ErrFull)
		wantErr(t, name+", none more", d.Append(nil), api.OK)
		want(t, name+", full", d, s)
		wantErr(t, name+", Sync", d.Sync(), api.OK)
		wantErr(t, name+", one more, kept", d.Append([]byte{1}), api.ErrFull)
		want(t, name+", full and kept", d, state{kept: s.kept + s.loose})
	}
}

// P6.1
func TestFullBySwap(t *testing.T) {
	whole := strings.Repeat("w", maxSize)
	for _, s := range append(upStates(), state{kept: whole}, state{loose: whole}) {
		d := disk.New()
		wantErr(t, "Append", d.Append([]byte(s.kept)), api.OK)
		wantErr(t, "Sync", d.Sync(), api.OK)
		wantErr(t, "Append", d.Append([]byte(s.loose)), api.OK)
		for _, more := range []int{1, 2, maxSize} {
			wantErr(t, "Swap, more", d.Swap(make([]byte, maxSize+more)), api.ErrFull)
			want(t, "Swap, more", d, s)
		}
		wantErr(t, "Swap, just that", d.Swap([]byte(whole)), api.OK)
		want(t, "Swap, just that", d, state{kept: whole})
		wantErr(t, "Append behind", d.Append([]byte{1}), api.ErrFull)
		want(t, "Append behind", d, state{kept: whole})
	}
}

// P6.1: a full disk has room again behind a Cut, a Swap or a crash.
func TestRoomAgain(t *testing.T) {
	whole := strings.Repeat("w", maxSize)
	for name, f := range map[string]func(d *disk.Disk){
		"Cut":   func(d *disk.Disk) { d.Cut(maxSize - 2) },
		"Swap":  func(d *disk.Disk) { d.Swap([]byte(whole[2:])) },
		"Crash": func(d *disk.Disk) { d.Crash(maxSize-2, -1); d.Restart() },
	} {
		d := disk.New()
		wantErr(t, name, d.Append([]byte(whole)), api.OK)
		f(d)
		want(t, name, d, state{kept: whole[2:]})
		wantErr(t, name+", three more", d.Append([]byte("xyz")), api.ErrFull)
		wantErr(t, name+", two more", d.Append([]byte("xy")), api.OK)
		want(t, name+", two more", d, state{whole[2:], "xy", false})
	}
}

// P6.3, P6.5: each number of bytes that are left, and each bit of them; one ahead of the first, one behind the last.
func TestCrash(t *testing.T) {
	for _, first := range upStates() {
		for keep := range len(first.loose) + 3 {
			for flip := -1; flip <= 8*len(first.loose)+9; flip++ {
				d, s := having(t, first), first
				wantErr(t, "Crash", d.Crash(keep, flip), s.crash(keep, flip))
				want(t, "Crash", d, s)
				if t.Failed() {
					t.Fatalf("%v: Crash(%d, %d)", first, keep, flip)
				}
				wantErr(t, "Restart", d.Restart(), api.OK)
				want(t, "Restart", d, state{kept: s.kept + s.loose})
			}
		}
	}
}

// P6.3: the edges, written out.
func TestCrashEdges(t *testing.T) {
	for _, c := range []struct {
		keep, flip int
		left       string
	}{
		{0, 0, ""}, {0, -1, ""}, {0, 8, ""},
		{1, 0, "\x01"}, {1, 7, "\x80"}, {1, 8, "\x00"}, {1, -1, "\x00"}, {1, -8, "\x00"},
		{2, 7, "\x80\xff"}, {2, 8, "\x00\xfe"}, {2, 15, "\x00\x7f"}, {2, 16, "\x00\xff"},
		{3, 0, "\x01\xff\x01"}, {3, 16, "\x00\xff\x00"}, {3, 23, "\x00\xff\x81"}, {3, 24, "\x00\xff\x01"},
		{4, 23, "\x00\xff\x81"}, {4, 24, "\x00\xff\x01"}, {4, 31, "\x00\xff\x01"},
		{math.MaxInt, 23, "\x00\xff\x81"}, {math.MaxInt, math.MaxInt, "\x00\xff\x01"}, {3, math.MaxInt, "\x00\xff\x01"},
		{3, math.MinInt, "\x00\xff\x01"}, {3, math.MinInt + 1, "\x00\xff\x01"}, {3, 1 << 32, "\x00\xff\x01"}, {3, 1<<35 + 1, "\x00\xff\x01"},
	} {
		for _, kept := range []string{"", "kept"} {
			d := having(t, state{kept, "\x00\xff\x01", false})
			wantErr(t, "Crash", d.Crash(c.keep, c.flip), api.OK)
			want(t, "Crash", d, state{kept, c.left, true})
			if t.Failed() {
				t.Fatalf("%q: Crash(%d, %d)", kept, c.keep, c.flip)
			}
		}
	}
}

// P6.3
func TestCrashRefused(t *testing.T) {
	for _, s := range upStates() {
		d := having(t, s)
		for _, keep := range []int{-1, -2, math.MinInt, math.MinInt32} {
			for _, flip := range []int{-1, 0, 5, math.MaxInt} {
				wantErr(t, "Crash", d.Crash(keep, flip), api.ErrArg)
				want(t, "Crash refused", d, s)
			}
		}
	}
}

// P6.3
func TestRestart(t *testing.T) {
	for _, s := range upStates() {
		d := having(t, s)
		wantErr(t, "Restart while up", d.Restart(), api.ErrState)
		want(t, "Restart while up", d, s)
	}
	for _, s := range downStates() {
		d := having(t, s)
		wantErr(t, "Restart", d.Restart(), api.OK)
		want(t, "Restart", d, state{kept: s.kept + s.loose})
		wantErr(t, "Restart again", d.Restart(), api.ErrState)
		want(t, "Restart again", d, state{kept: s.kept + s.loose})
	}
}

// P6.1, P6.2, P6.3: each call while it is down, with arguments that would be right, and with wrong ones.
func TestDownDisk(t *testing.T) {
	for _, s := range downStates() {
		d := having(t, s)
		size := d.Size()
		for _, b := range [][]byte{nil, {}, []byte("x"), make([]byte, maxSize), make([]byte, maxSize+1)} {
			wantErr(t, "Append", d.Append(b), api.ErrDown)
			want(t, "Append", d, s)
			wantErr(t, "Swap", d.Swap(b), api.ErrDown)
			want(t, "Swap", d, s)
		}
		for _, n := range []int{0, size, len(s.kept), size + 1, -1, math.MinInt, math.MaxInt} {
			wantErr(t, "Cut", d.Cut(n), api.ErrDown)
			want(t, "Cut", d, s)
			wantErr(t, "Crash", d.Crash(n, 0), api.ErrDown)
			want(t, "Crash", d, s)
			wantErr(t, "Crash", d.Crash(0, n), api.ErrDown)
			want(t, "Crash", d, s)
		}
		wantErr(t, "Sync", d.Sync(), api.ErrDown)
		want(t, "Sync", d, s)
	}
}

// P6.4, rule 1: each call of a nil disk and of a plain one, with right and with wrong arguments; and again, as nothing was done.
func TestDiskThatNewDidNotMake(t *testing.T) {
	for name, d := range map[string]*disk.Disk{"nil": nil, "plain": {}, "new": new(disk.Disk)} {
		for range 2 {
			for _, b := range [][]byte{nil, []byte("abc"), make([]byte, maxSize+1)} {
				wantErr(t, name+": Append", d.Append(b), api.ErrNil)
				wantErr(t, name+": Swap", d.Swap(b), api.ErrNil)
			}
			for _, n := range []int{0, 1, -1, math.MaxInt, math.MinInt} {
				wantErr(t, name+": Cut", d.Cut(n), api.ErrNil)
				wantErr(t, name+": Crash", d.Crash(n, 0), api.ErrNil)
				wantErr(t, name+": Crash", d.Crash(0, n), api.ErrNil)
			}
			wantErr(t, name+": Sync", d.Sync(), api.ErrNil)
			wantErr(t, name+": Restart", d.Restart(), api.ErrNil)
			if b, e := d.Read(); e != api.ErrNil || len(b) > 0 {
				t.Errorf("%s: Read: error %d, %q", name, int(e), b)
			}
			if d.Size() != 0 || len(d.Kept()) > 0 || !d.Down() || d.Copy() != nil {
				t.Errorf("%s: %d, %q, %v, %v", name, d.Size(), d.Kept(), d.Down(), d.Copy())
			}
		}
	}
}

// spoil changes bytes, and what lies behind them in their memory.
func spoil(b []byte) {
	b = b[:cap(b)]
	for i := range b {
		b[i] ^= 0x55
	}
}

// P6.1, rule 5: what is handed in is neither changed nor kept, and nothing behind its length is read or written.
func TestWhatIsHandedInIsLeft(t *testing.T) {
	for _, first := range upStates() {
		for name, f := range map[string]func(d *disk.Disk, b []byte) api.Errno{"Append": (*disk.Disk).Append, "Swap": (*disk.Disk).Swap} {
			d := having(t, first)
			long := []byte("handed in, and behind")
			b := long[:9]
			wantErr(t, name, f(d, b), api.OK)
			s := state{first.kept, first.loose + "handed in", false}
			if name == "Swap" {
				s = state{kept: "handed in"}
			}
			want(t, name, d, s)
			spoil(long)
			want(t, name+", then changed", d, s)
			copy(long, "handed in, and behind")
			d.Append([]byte("more"))
			d.Crash(100, 0)
			d.Restart()
			d.Cut(0)
			if string(long) != "handed in, and behind" {
				t.Errorf("%s: what was handed in is %q", name, long)
			}
		}
	}
}

// P6.2, rule 5: what Read and Kept give is the caller's, whatever he and the disk do with theirs.
func TestWhatIsHandedOutIsApart(t *testing.T) {
	for _, s := range states() {
		d := having(t, s)
		all, _ := d.Read()
		again, _ := d.Read()
		kept, keptAgain := d.Kept(), d.Kept()
		spoil(all)
		spoil(kept)
		want(t, "changed", d, s)
		all, kept = append(all, "behind"...), append(kept, "behind"...)
		spoil(all)
		spoil(kept)
		want(t, "appended to", d, s)
		if !s.down && string(again) != s.kept+s.loose || string(keptAgain) != s.kept {
			t.Errorf("%v: another answer is changed: %q, %q", s, again, keptAgain)
		}
		d.Restart()
		d.Append([]byte("more"))
		d.Crash(3, 0)
		d.Restart()
		d.Cut(1)
		d.Swap([]byte("other"))
		if !s.down && string(again) != s.kept+s.loose || string(keptAgain) != s.kept {
			t.Errorf("%v: an answer is changed by the disk: %q, %q", s, again, keptAgain)
		}
	}
}

// deeds is one of each call that changes a disk.
func deeds() map[string]func(d *disk.Disk) {
	return map[string]func(d *disk.Disk){
		"nothing": func(d *disk.Disk) {},
		"Append":  func(d *disk.Disk) { d.Append([]byte("appended")) },
		"Sync":    func(d *disk.Disk) { d.Sync() },
		"Cut":     func(d *disk.Disk) { d.Cut(1); d.Append([]byte("x")) },
		"Swap":    func(d *disk.Disk) { d.Swap([]byte("s")); d.Append([]byte("y")) },
		"Crash":   func(d *disk.Disk) { d.Crash(1, 3) },
		"Restart": func(d *disk.Disk) { d.Restart(); d.Append([]byte("z")) },
		"more":    func(d *disk.Disk) { d.Append([]byte("m")); d.Crash(9, 1); d.Restart(); d.Append([]byte("n")) },
	}
}

// P6.4: a copy has all that the first one has, and each goes on as if there were no other.
func TestCopyGoesOnApart(t *testing.T) {
	for _, s := range states() {
		for name, f := range deeds() {
			first := having(t, s)
			second := first.Copy()
			if first == second {
				t.Fatal("a copy is the same disk")
			}
			want(t, "copy", second, s)
			f(first)
			want(t, name+" of the first", second, s)
			f(second)
			for other, g := range deeds() {
				// What one that was never copied has behind the same calls.
				alone := having(t, s)
				f(alone)
				want(t, name+", "+other, second, has(t, alone))
				third := second.Copy()
				g(second)
				want(t, name+", "+other+", copy of a copy", third, has(t, alone))
				want(t, name+", "+other+", the first", first, has(t, alone))
				g(alone)
				want(t, name+", "+other+", the second", second, has(t, alone))
				second = third
			}
		}
	}
}

// has gives what a disk tells that it has.
func has(t *testing.T, d *disk.Disk) state {
	t.Helper()
	s := state{kept: string(d.Kept()), down: d.Down()}
	up := d.Copy()
	if s.down {
		wantErr(t, "Restart of a copy", up.Restart(), api.OK)
	}
	all, e := up.Read()
	wantErr(t, "Read of a copy", e, api.OK)
	s.loose = strings.TrimPrefix(string(all), s.kept)
	return s
}

// P6.1, P6.4: two that each write behind the same beginning, which has room behind it in its memory.
func TestCopyAndFirstWriteBehind(t *testing.T) {
	for n := range 100 {
		begun := strings.Repeat("b", n)
		first := having(t, state{loose: begun})
		second := first.Copy()
		first.Append([]byte("first"))
		second.Append([]byte("other"))
		want(t, "the first", first, state{loose: begun + "first"})
		want(t, "the copy", second, state{loose: begun + "other"})
	}
}

// P6.4: what New makes is apart, too.
func TestDisksAreApart(t *testing.T) {
	a, b := disk.New(), disk.New()
	a.Append([]byte("a"))
	want(t, "the other", b, state{})
	b.Append([]byte("bb"))
	b.Crash(1, -1)
	want(t, "the one", a, state{"", "a", false})
	want(t, "the other", b, state{"", "b", true})
	want(t, "a new one", disk.New(), state{})
}

// P6.3: what a crash or a cut took away does not come back, whatever is written behind.
func TestWhatIsGoneStaysAway(t *testing.T) {
	d := having(t, state{"abc", "defghi", false})
	d.Crash(2, -1)
	d.Restart()
	want(t, "crashed", d, state{kept: "abcde"})
	d.Append([]byte("x"))
	want(t, "written behind", d, state{"abcde", "x", false})
	d.Crash(100, -1)
	want(t, "crashed again", d, state{"abcde", "x", true})
	d.Restart()
	d.Cut(2)
	d.Append([]byte("y"))
	d.Crash(100, -1)
	d.Restart()
	want(t, "cut", d, state{kept: "aby"})
}

// P6.5: crash behind crash, with bits turned and bytes torn, and all that was kept ahead of one is there behind it.
func TestWhatIsKeptStays(t *testing.T) {
	chance := rand.New(rand.NewPCG(6, 5))
	d := disk.New()
	var kept []byte
	for range 2000 {
		for range chance.IntN(3) {
			piece := make([]byte, chance.IntN(6))
			for i := range piece {
				piece[i] = byte(chance.IntN(256))
			}
			wantErr(t, "Append", d.Append(piece), api.OK)
		}
		if chance.IntN(2) == 0 {
			wantErr(t, "Sync", d.Sync(), api.OK)
			kept, _ = d.Read()
		}
		wantErr(t, "Crash", d.Crash(chance.IntN(8), chance.IntN(70)-3), api.OK)
		if !bytes.Equal(d.Kept(), kept) {
			t.Fatal("a crash touched what is kept")
		}
		wantErr(t, "Restart", d.Restart(), api.OK)
		all, _ := d.Read()
		if !bytes.HasPrefix(all, kept) || !bytes.Equal(all, d.Kept()) {
			t.Fatal("a restart touched what is kept, or did not keep what is left")
		}
		kept = all
	}
}

// some gives a number that is mostly near, and at times far off.
func some(chance *rand.Rand, size int) int {
	switch chance.IntN(12) {
	case 0:
		return []int{math.MinInt, -1, math.MaxInt, maxSize}[chance.IntN(4)]
	case 1:
		return size
	case 2:
		return size + 1
	}
	return chance.IntN(size + 2)
}

// P6.1 to P6.5: calls in any order, held against the document's words; at times a copy goes on in the disk's place.
func TestAnyOrderOfCalls(t *testing.T) {
	for seed := range uint64(300) {
		chance := rand.New(rand.NewPCG(seed, 6))
		d, s := disk.New(), state{}
		old, was := d.Copy(), s
		for range 60 {
			b := strings.Repeat(string([]byte{byte(chance.IntN(256))}), chance.IntN(5))
			n, flip := some(chance, len(s.kept)+len(s.loose)), some(chance, 8*len(s.loose))
			switch chance.IntN(11) {
			case 0, 1, 2:
				wantErr(t, "Append", d.Append([]byte(b)), s.append(b))
			case 3, 4:
				wantErr(t, "Sync", d.Sync(), s.sync())
			case 5:
				wantErr(t, "Cut", d.Cut(n), s.cut(n))
			case 6:
				wantErr(t, "Swap", d.Swap([]byte(b)), s.swap(b))
			case 7:
				n = some(chance, len(s.loose))
				wantErr(t, "Crash", d.Crash(n, flip), s.crash(n, flip))
			case 8, 9:
				wantErr(t, "Restart", d.Restart(), s.restart())
			case 10:
				want(t, "a disk whose copy went on", old, was)
				old, was = d, s
				d = d.Copy()
			}
			want(t, "behind a call", d, s)
			if t.Failed() {
				t.Fatalf("seed %d", seed)
			}
		}
		want(t, "a disk whose copy went on", old, was)
	}
}
