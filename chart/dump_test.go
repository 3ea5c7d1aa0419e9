package chart_test

import (
	"fmt"
	"strings"
	"testing"

	"raceway/api"
	"raceway/chart"
)

// dump writes a chart, which stays as it was.
func dump(t *testing.T, c api.Chart) (s string, e api.Errno) {
	t.Helper()
	lent(t, c, func(c api.Chart) { s, e = chart.Dump(c) })
	return s, e
}

// P15.4: bytes that are written out.
func TestDumpBytes(t *testing.T) {
	for want, c := range map[string]api.Chart{
		"\x01\x01\x00\x80\x80\x04\x01":                         charted(1, 0, 1, span),
		"\xac\x02\x02\x00\x80\x01\x06\x80\x01\x80\x80\x04\x05": charted(300, 0, 6, 128, 5, span),
		"\x80\x80\x80\x80\x80\x20\x01\x00\x80\x80\x04\x02":     charted(maxTime, 0, 2, span),
	} {
		got, e := dump(t, c)
		if got != want || e != api.OK {
			t.Errorf("Dump of %s: % x, error %d, not % x", brief(c), got, int(e), want)
		}
	}
}

// P15.4: there and back.
func TestDumpAndLoad(t *testing.T) {
	for _, c := range rightCharts() {
		s, e := dump(t, c)
		if s != chartText(c) || e != api.OK {
			t.Errorf("Dump of %s: %s, error %d", brief(c), brief(s), int(e))
		}
		got, e := chart.Load(s)
		wantError(t, "Load", e, api.OK)
		wantChart(t, "Load", got, c)
		spoil(got.Pieces, strayPiece)
		got, _ = chart.Load(s)
		wantChart(t, "Load, once more", got, c)
	}
}

// P15.4
func TestDumpRefuses(t *testing.T) {
	for name, c := range wrongCharts() {
		if s, e := dump(t, c); s != "" || e != api.ErrArg {
			t.Errorf("%s: Dump tells %s, error %d", name, brief(s), int(e))
		}
	}
}

func refusesLoad(t *testing.T, name, s string) {
	t.Helper()
	c, e := chart.Load(s)
	wantError(t, "Load: "+name, e, api.ErrForm)
	wantChart(t, "Load: "+name, c, api.Chart{})
}

// P15.4: of a chart that may not be.
func TestLoadRefusesCharts(t *testing.T) {
	for name, c := range wrongCharts() {
		isBelow0 := c.Epoch < 0
		for _, p := range c.Pieces {
			isBelow0 = isBelow0 || p.Range.Lo < 0 || p.Range.Hi < 0 || p.Shard < 0
		}
		if !isBelow0 {
			refusesLoad(t, name, chartText(c))
		}
	}
}

// P15.4: of a text that is cut, or has something behind.
func TestLoadRefusesTexts(t *testing.T) {
	for _, c := range rightCharts()[:8] {
		s := chartText(c)
		for i := range s {
			refusesLoad(t, fmt.Sprint("cut at ", i), s[:i])
		}
		for _, more := range []string{"\x00", "\x01", "\x80", "\x80\x00", "\xff", s, nums(1, 2, 3), nums(span, span+1, 1), nums(0, 0, 1)} {
			refusesLoad(t, "something behind", s+more)
		}
	}
	for name, s := range map[string]string{
		"a number that is too long":       "\x81\x00\x01\x00\x80\x80\x04\x01",
		"a count that is too long":        "\x01\x81\x00\x00\x80\x80\x04\x01",
		"a shard that is too long":        "\x01\x01\x00\x80\x80\x04\x81\x00",
		"a number of ten bytes":           strings.Repeat("\x80", 9) + "\x01",
		"a number above 2^62":             "\x81" + strings.Repeat("\x80", 7) + "\x40\x01\x00\x80\x80\x04\x01",
		"a count below what there is":     nums(1, 1, 0, 10, 1, 10, span, 2),
		"a count above what there is":     nums(1, 3, 0, 10, 1, 10, span, 2),
		"a count of 0":                    nums(1, 0, 0, span, 1),
		"a count of 2^40":                 nums(1, maxTime, 0, span, 1),
		"a count of 2^62":                 nums(1, maxNum, 0, span, 1),
		"a count of a third of 2^62":      nums(1, maxNum/3, 0, span, 1),
		"one of a piece's numbers is not": nums(1, 1, 0, span),
		"two of them are not":             nums(1, 2, 0, 10, 1, 10),
		"an epoch alone":                  nums(1),
		"an epoch and no pieces":          nums(1, 0),
		"other bytes":                     "no chart",
	} {
		refusesLoad(t, name, s)
	}
}

// P15.4: whatever is loaded is that chart's Dump.
func TestLoadTakesDumpsAlone(t *testing.T) {
	for _, c := range rightCharts()[:8] {
		s := chartText(c)
		taken := 0
		for i := range s {
			for b := range 256 {
				changed := s[:i] + string([]byte{byte(b)}) + s[i+1:]
				got, e := chart.Load(changed)
				if e == api.OK {
					taken++
				}
				if e == api.OK && (chartText(got) != changed || !chart.May(got)) || e != api.OK && e != api.ErrForm {
					t.Fatalf("Load of % x: %s, error %d", changed, brief(got), int(e))
				}
			}
		}
		if taken < len(s) {
			t.Errorf("%s: as it was, it is loaded %d times, not %d", brief(c), taken, len(s))
		}
	}
}
