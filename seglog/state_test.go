package seglog_test

import (
	"encoding/binary"
	"fmt"
	"hash/crc32"
	"math"
	"slices"
	"strings"
	"testing"

	"raceway/api"
	"raceway/disk"
	"raceway/seglog"
)

// The document's limits, apart from the packages that are tested.
const (
	maxDisk     = 1 << 22
	maxRecord   = 1 << 16
	maxSegments = 256
	frameHead   = 12 // bytes of a frame ahead of its body
)

// frameOf puts a frame together apart from the packages that are tested.
func frameOf(body string) string {
	b := binary.LittleEndian.AppendUint32(nil, uint32(len(body)))
	b = binary.LittleEndian.AppendUint32(b, crc32.ChecksumIEEE(b))
	b = binary.LittleEndian.AppendUint32(b, crc32.ChecksumIEEE([]byte(body)))
	return string(b) + body
}

// headOf is what a segment begins with whose first record has that number.
func headOf(first int) string {
	return frameOf(string(binary.AppendUvarint(nil, uint64(first))))
}

// segment is what the document says of one: the number it begins with, its frames, how many of their bytes are kept, and behind a crash the bytes that it left.
type segment struct {
	first  int
	frames []string
	kept   int
	left   string
}

// state is what the document says of a log, apart from the package that is tested.
type state struct {
	per      int
	down     bool
	segments []segment
}

func (s state) copy() state {
	s.segments = slices.Clone(s.segments)
	for i, g := range s.segments {
		s.segments[i].frames = slices.Clone(g.frames)
	}
	return s
}

// bytes is all that a segment's disk has.
func (s state) bytes(g segment) string {
	if s.down {
		return g.left
	}
	return strings.Join(g.frames, "")
}

func (s state) base() int {
	if s.down || len(s.segments) == 0 {
		return 0
	}
	return s.segments[0].first
}

func (s state) records() []string {
	var l []string
	if !s.down {
		for _, g := range s.segments {
			for _, frame := range g.frames[1:] {
				l = append(l, frame[frameHead:])
			}
		}
	}
	return l
}

func (s state) len() int { return s.base() + len(s.records()) }

// safe counts the records whose frames end among what is kept.
func (s state) safe() int {
	n := s.base()
	if s.down {
		return n
	}
	for _, g := range s.segments {
		end := len(g.frames[0])
		for _, frame := range g.frames[1:] {
			end += len(frame)
			if end > g.kept {
				return n
			}
			n++
		}
	}
	return n
}

func (s *state) append(rec string) (int, api.Errno) {
	number := s.len()
	switch {
	case s.down:
		return 0, api.ErrDown
	case len(rec) > maxRecord:
		return 0, api.ErrLong
	}
	last := len(s.segments) - 1
	if last < 0 || len(s.segments[last].frames) == 1+s.per {
		if len(s.segments) == maxSegments {
			return 0, api.ErrFull
		}
		s.segments = append(s.segments, segment{first: number, frames: []string{headOf(number)}})
		last++
	}
	frame := frameOf(rec)
	if len(s.bytes(s.segments[last]))+len(frame) > maxDisk {
		return 0, api.ErrFull
	}
	s.segments[last].frames = append(s.segments[last].frames, frame)
	return number, api.OK
}

func (s *state) sync() api.Errno {
	if s.down {
		return api.ErrDown
	}
	for i, g := range s.segments {
		s.segments[i].kept = len(s.bytes(g))
	}
	return api.OK
}

func (s *state) drop(n int) api.Errno {
	switch {
	case s.down:
		return api.ErrDown
	case n > s.safe():
		return api.ErrArg
	}
	for len(s.segments) > 1 && s.segments[0].first+len(s.segments[0].frames)-2 < n {
		s.segments = s.segments[1:]
	}
	return api.OK
}

func (s *state) crash(keep, flip int) api.Errno {
	switch {
	case s.down:
		return api.ErrDown
	case keep < 0:
		return api.ErrArg
	}
	for i, g := range s.segments {
		all := s.bytes(g)
		loose := []byte(all[g.kept:])
		loose = loose[:min(keep, len(loose))]
		if flip >= 0 && flip/8 < len(loose) {
			loose[flip/8] ^= 1 << (flip % 8)
		}
		s.segments[i].left = all[:g.kept] + string(loose)
	}
	s.down = true
	return api.OK
}

// restart holds what is left against what was written: a frame of which a bit was turned, or the end torn, is another text.
func (s *state) restart() api.Errno {
	if !s.down {
		return api.ErrState
	}
	s.down = false
	for i, g := range s.segments {
		whole, end := 0, 0
		for _, frame := range g.frames {
			if !strings.HasPrefix(g.left[end:], frame) {
				break
			}
			whole++
			end += len(frame)
		}
		if whole == 0 {
			s.segments = s.segments[:i]
			break
		}
		s.segments[i] = segment{first: g.first, frames: g.frames[:whole], kept: end}
		if whole < 1+s.per || end < len(g.left) {
			s.segments = s.segments[:i+1]
			break
		}
	}
	return api.OK
}

// told shortens what a test tells: a record may have thousands of bytes.
func told(l []string) string {
	var b strings.Builder
	for i, rec := range l {
		if i == 20 {
			b.WriteString(" ..")
			break
		}
		fmt.Fprintf(&b, " %.20q", rec)
	}
	return fmt.Sprintf("%d records%s", len(l), b.String())
}

func wantErr(t *testing.T, name string, got, e api.Errno) {
	t.Helper()
	if got != e {
		t.Errorf("%s: error %d, not %d", name, int(got), int(e))
	}
}

func wantNumbers(t *testing.T, name string, l *seglog.Log, base, safe, end int) {
	t.Helper()
	if l.Base() != base || l.Safe() != safe || l.Len() != end {
		t.Errorf("%s: Base %d, Safe %d, Len %d, not %d, %d, %d", name, l.Base(), l.Safe(), l.Len(), base, safe, end)
	}
}

func wantRecords(t *testing.T, name string, l *seglog.Log, base int, recs []string) {
	t.Helper()
	var got []string
	for n, rec := range l.Records() {
		if n != base+len(got) {
			t.Errorf("%s: record %d is told as %d", name, base+len(got), n)
		}
		got = append(got, string(rec))
	}
	if !slices.Equal(got, recs) {
		t.Errorf("%s: Records: %s, not %s", name, told(got), told(recs))
	}
}

// wantDisk checks all that a segment's disk tells; of one that is down, what comes back, too.
func wantDisk(t *testing.T, name string, d *disk.Disk, s state, g segment) {
	t.Helper()
	all := s.bytes(g)
	if d.Down() != s.down || d.Size() != len(all) || string(d.Kept()) != all[:g.kept] {
		t.Errorf("%s: down %v, %d bytes, of which %d are kept, not %v, %d, %d", name, d.Down(), d.Size(), len(d.Kept()), s.down, len(all), g.kept)
	}
	if d.Down() {
		d.Restart()
	}
	if b, e := d.Read(); e != api.OK || string(b) != all {
		t.Errorf("%s: error %d, bytes %.60x, not %.60x", name, int(e), b, all)
	}
}

// want checks all that a log tells.
func want(t *testing.T, name string, l *seglog.Log, s state) {
	t.Helper()
	wantNumbers(t, name, l, s.base(), s.safe(), s.len())
	wantRecords(t, name, l, s.base(), s.records())
	if l.Down() != s.down {
		t.Errorf("%s: Down: %v", name, l.Down())
	}
	disks := l.Segments()
	if len(disks) != len(s.segments) {
		t.Errorf("%s: %d segments, not %d", name, len(disks), len(s.segments))
		return
	}
	for i, d := range disks {
		wantDisk(t, fmt.Sprintf("%s: segment %d", name, i), d, s, s.segments[i])
	}
}

// pair is a log and what the document says of it; each call is done to both, and all that they tell is held against each other.
type pair struct {
	t *testing.T
	l *seglog.Log
	s *state
}

func begin(t *testing.T, per int) pair {
	t.Helper()
	l, e := seglog.New(per)
	if e != api.OK || l == nil {
		t.Fatalf("New(%d): error %d", per, int(e))
	}
	return pair{t, l, &state{per: per}}
}

func (p pair) append(recs ...string) pair {
	p.t.Helper()
	for _, rec := range recs {
		number, e := p.s.append(rec)
		got, gotE := p.l.Append([]byte(rec))
		if got != number || gotE != e {
			p.t.Errorf("Append of %.20q: %d, error %d, not %d, %d", rec, got, int(gotE), number, int(e))
		}
	}
	return p
}

func (p pair) sync() pair {
	p.t.Helper()
	wantErr(p.t, "Sync", p.l.Sync(), p.s.sync())
	return p
}

func (p pair) drop(n int) pair {
	p.t.Helper()
	wantErr(p.t, fmt.Sprintf("Drop(%d)", n), p.l.Drop(n), p.s.drop(n))
	return p
}

func (p pair) crash(keep, flip int) pair {
	p.t.Helper()
	wantErr(p.t, fmt.Sprintf("Crash(%d, %d)", keep, flip), p.l.Crash(keep, flip), p.s.crash(keep, flip))
	return p
}

func (p pair) restart() pair {
	p.t.Helper()
	wantErr(p.t, "Restart", p.l.Restart(), p.s.restart())
	return p
}

// check holds all that the log tells against the document's words.
func (p pair) check(name string) pair {
	p.t.Helper()
	want(p.t, name, p.l, *p.s)
	return p
}

func (p pair) copy() pair {
	s := p.s.copy()
	return pair{p.t, p.l.Copy(), &s}
}

// numbered gives n records, each of which tells its place.
func numbered(n int) []string {
	l := make([]string, n)
	for i := range l {
		l[i] = fmt.Sprint("r", i)
	}
	return l
}

// farOff are numbers at the ends of what there is.
var farOff = []int{math.MinInt, math.MinInt + 1, math.MinInt32, math.MaxInt32, math.MaxInt - 1, math.MaxInt}
