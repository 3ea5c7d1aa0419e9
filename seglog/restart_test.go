package seglog

import (
	"math"
	"testing"

	"raceway/api"
	"raceway/crc"
	"raceway/disk"
)

// framed gives frames of these bodies, one behind the other.
func framed(t *testing.T, bodies ...string) string {
	t.Helper()
	var b []byte
	for _, body := range bodies {
		frame, e := crc.Frame([]byte(body))
		if e != api.OK {
			t.Fatalf("Frame: error %d", int(e))
		}
		b = append(b, frame...)
	}
	return string(b)
}

// crashed gives a log that a crash left with these bytes on its disks: some that no call of this package writes.
func crashed(per int, segments ...string) *Log {
	l := &Log{per: per, down: true}
	for _, text := range segments {
		d := disk.New()
		d.Append([]byte(text))
		d.Crash(math.MaxInt, -1)
		l.disks = append(l.disks, d)
	}
	return l
}

// P7.5: a segment's first frame is right only if its body is the number that is due, and just that.
func TestRestartByFirstFrames(t *testing.T) {
	right := framed(t, "\x00", "a", "b")
	for name, c := range map[string]struct {
		disks           []string
		base, end, left int
	}{
		"the first one has any number":               {[]string{framed(t, "\x07", "a")}, 7, 8, 1},
		"the next one has the number that is due":    {[]string{framed(t, "\x07", "a", "b"), framed(t, "\x09", "c")}, 7, 10, 2},
		"the first one has a byte behind its number": {[]string{framed(t, "\x00\x00", "a", "b"), right}, 0, 0, 0},
		"the first one has a number too long":        {[]string{framed(t, "\x80\x00", "a", "b"), right}, 0, 0, 0},
		"the first one has a number too short":       {[]string{framed(t, "\x80", "a", "b"), right}, 0, 0, 0},
		"the first one has no number":                {[]string{framed(t, "", "a", "b"), right}, 0, 0, 0},
		"the first one has no frame":                 {[]string{"", right}, 0, 0, 0},
		"the first one has no right frame":           {[]string{"torn", right}, 0, 0, 0},
		"the next one has a lesser number":           {[]string{right, framed(t, "\x01", "c")}, 0, 2, 1},
		"the next one has a greater number":          {[]string{right, framed(t, "\x03", "c")}, 0, 2, 1},
		"the next one has the first one's":           {[]string{right, right}, 0, 2, 1},
		"the next one has a byte behind its number":  {[]string{right, framed(t, "\x02\x00", "c")}, 0, 2, 1},
		"the next one has a number too long":         {[]string{right, framed(t, "\x82\x00", "c")}, 0, 2, 1},
		"the next one has no number":                 {[]string{right, framed(t, "", "c")}, 0, 2, 1},
		"the next one has no frame":                  {[]string{right, "", framed(t, "\x02", "c")}, 0, 2, 1},
		"the next one is torn":                       {[]string{right, framed(t, "\x02", "c") + "torn", framed(t, "\x03", "d")}, 0, 3, 2},
		"the first one is full, and torn behind":     {[]string{right + "torn", framed(t, "\x02", "c")}, 0, 2, 1},
		"the first one has too few":                  {[]string{framed(t, "\x00", "a"), framed(t, "\x01", "b")}, 0, 1, 1},
		"the first one has none":                     {[]string{framed(t, "\x00"), framed(t, "\x00", "a")}, 0, 0, 1},
	} {
		l := crashed(2, c.disks...)
		if e := l.Restart(); e != api.OK {
			t.Errorf("%s: error %d", name, int(e))
		}
		if l.Base() != c.base || l.Len() != c.end || l.Safe() != c.end || len(l.Segments()) != c.left {
			t.Errorf("%s: Base %d, Len %d, Safe %d, %d segments", name, l.Base(), l.Len(), l.Safe(), len(l.Segments()))
		}
		n := c.base
		for i := range l.Records() {
			if i != n {
				t.Errorf("%s: %d is told as %d", name, n, i)
			}
			n++
		}
		if n != c.end {
			t.Errorf("%s: Records end at %d", name, n)
		}
		for i, d := range l.Segments() {
			if end, e := crc.Good(d.Kept()); e != api.OK || end != d.Size() {
				t.Errorf("%s: segment %d has %d bytes, of which %d are good: error %d", name, i, d.Size(), end, int(e))
			}
		}
		if i, e := l.Append([]byte("on")); i != c.end || e != api.OK {
			t.Errorf("%s: Append: %d, error %d", name, i, int(e))
		}
	}
}
