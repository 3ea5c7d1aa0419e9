package chart_test

import (
	"fmt"
	"slices"
	"testing"

	"raceway/api"
	"raceway/chart"
)

// revive reads a machine; the list stays as it was, and is written over then.
func revive(t *testing.T, data []string) (*chart.Machine, api.Errno) {
	t.Helper()
	handed := spare(data, "stray")
	m, e := chart.Revive(handed)
	if !isSpare(handed, data, "stray") {
		t.Fatalf("Revive has changed what was handed in: %s", brief(handed))
	}
	spoil(handed, "spoiled")
	if (m == nil) != (e != api.OK) {
		t.Fatalf("Revive of %s: %v, error %d", brief(data), m, int(e))
	}
	return m, e
}

func revived(t *testing.T, data []string) *chart.Machine {
	t.Helper()
	m, e := revive(t, data)
	if e != api.OK {
		t.Fatalf("Revive of %s: error %d", brief(data), int(e))
	}
	return m
}

func refusesRevive(t *testing.T, name string, data ...string) {
	t.Helper()
	if m, e := revive(t, data); m != nil || e != api.ErrForm {
		t.Errorf("%s: Revive tells %v, error %d", name, m, int(e))
	}
}

// machines has machines that remember nobody, one client and several.
func machines(t *testing.T) []*chart.Machine {
	t.Helper()
	one := made(t, 2)
	step(t, one, about(7, 300, from(0, 5), 2), telling(charted(2, 0, 2, 5, 1, 32768, 2, span)), true)
	several := made(t, 3)
	for i, client := range []int{300, 5, maxTime, 128, 1} {
		apply(t, several, value(about(client, 10+i, from(i*1000, 40000), 1+i)))
		apply(t, several, []byte("nothing"))
	}
	full := made(t, 1)
	for i := range maxClients {
		apply(t, full, value(about(1+i, maxTime-i, from(i, i+1), 2)))
	}
	idle := made(t, 6)
	for range 200 {
		apply(t, idle, nil)
	}
	return []*chart.Machine{made(t, 1), made(t, 6), one, several, full, idle}
}

// P15.6: bytes that are written out.
func TestMachineDumpBytes(t *testing.T) {
	m := made(t, 1)
	wantTexts(t, "a new one", textsOf(t, m), "\x00", "\x01\x01\x00\x80\x80\x04\x01", "")
	for range 200 {
		apply(t, m, nil)
	}
	apply(t, m, value(about(300, 7, from(0, 5), 2)))
	apply(t, m, value(about(7, 128, from(0, 5), 1)))
	apply(t, m, value(about(128, 1, from(0, 5), 1)))
	apply(t, m, value(about(7, 127, from(0, 5), 2)))
	wantTexts(t, "204 slots, and three clients", textsOf(t, m), "\xcc\x01", "\x03\x01\x00\x80\x80\x04\x01", "\x07\x80\x01\x80\x01\x01\xac\x02\x07")
}

// P15.6: there and back, and then further values on both.
func TestReviveGoesOn(t *testing.T) {
	for i, m := range machines(t) {
		data := textsOf(t, m)
		other := revived(t, data)
		wantChart(t, fmt.Sprint("machine ", i), other.Chart(), m.Chart())
		wantTexts(t, fmt.Sprint("machine ", i), textsOf(t, other), data...)
		for j, v := range [][]byte{
			nil, value(api.Cmd{}), value(about(7, 300, from(0, 9), 3)), value(about(7, 299, from(0, 9), 3)), value(about(7, 301, from(0, 9), 3)),
			value(about(500, 1, from(10, 19), 3)), value(about(500, 1, from(10, 19), 4)), value(about(1, 14, from(0, 19), 5)), value(about(1, 15, from(0, 19), 6)),
			value(about(maxTime, 12, from(0, span), 2)), value(about(maxTime, 13, from(0, span), 2)), value(about(0, 0, from(3, 4), 5)), value(about(2, 2, from(0, 0), 5)),
		} {
			name := fmt.Sprint("machine ", i, ", value ", j)
			was := textsOf(t, m)
			done := apply(t, other, v)
			wantTexts(t, name+" on the other one", textsOf(t, m), was...)
			wantDone(t, name, apply(t, m, v), done)
			wantTexts(t, name+" on both", textsOf(t, other), textsOf(t, m)...)
		}
	}
}

// P15.6: slots of 2^40, and one more; a machine goes on from there.
func TestReviveSlots(t *testing.T) {
	c, _ := chart.First(1)
	for _, slots := range []int{0, 1, 127, 128, maxTime - 1, maxTime} {
		m := revived(t, []string{num(slots), chartText(c), ""})
		if m.Slots() != slots {
			t.Errorf("%d slots, not %d", m.Slots(), slots)
		}
		wantDone(t, "the next one", apply(t, m, nil), api.Done{Slot: slots})
	}
	for _, slots := range []int{maxTime + 1, maxTime + 2, maxNum} {
		refusesRevive(t, fmt.Sprint(slots, " slots"), num(slots), chartText(c), "")
	}
}

// P15.6: no such list.
func TestReviveRefusesLists(t *testing.T) {
	for _, m := range machines(t) {
		data := textsOf(t, m)
		for n := range 3 {
			refusesRevive(t, fmt.Sprint(n, " texts"), data[:n]...)
			refusesRevive(t, fmt.Sprint("without text ", n), slices.Delete(slices.Clone(data), n, n+1)...)
		}
		refusesRevive(t, "an empty text behind", append(slices.Clone(data), "")...)
		refusesRevive(t, "a text ahead", append([]string{"\x00"}, data...)...)
		refusesRevive(t, "twice", append(slices.Clone(data), data...)...)
		refusesRevive(t, "the first two exchanged", data[1], data[0], data[2])
		refusesRevive(t, "the last two exchanged", data[0], data[2], data[1])
	}
	refusesRevive(t, "none")
}

// P15.6: texts that are cut, or have something behind.
func TestReviveRefusesTexts(t *testing.T) {
	c := chartText(charted(300, 0, 1, 100, 2, span))
	right := []string{num(300), c, nums(200, 300)}
	revived(t, right)
	for at, s := range right {
		changed := slices.Clone(right)
		for i := range s {
			if changed[at] = s[:i]; at < 2 || i > 0 {
				refusesRevive(t, fmt.Sprint("text ", at, " cut at ", i), changed...)
			}
		}
		for _, more := range []string{"\x00", "\x05", "\x80", "\x80\x00", "\xff"} {
			changed[at] = s + more
			refusesRevive(t, fmt.Sprintf("text %d with % x behind", at, more), changed...)
		}
	}
	for name, s := range map[string]string{"no number": "", "too long a number": "\x81\x00", "two numbers": "\x01\x01"} {
		refusesRevive(t, "slots: "+name, s, c, "")
	}
	for name, w := range wrongCharts() {
		if !slices.ContainsFunc(w.Pieces, func(p api.Piece) bool { return p.Range.Lo < 0 || p.Range.Hi < 0 || p.Shard < 0 }) && w.Epoch >= 0 {
			refusesRevive(t, "chart: "+name, "\x05", chartText(w), "")
		}
	}
}

// P15.6: clients and numbers are octet's, up to 2^62; a bound of 2^40 is named for the slots alone.
func TestReviveGreatClients(t *testing.T) {
	c := charted(1, 0, 1, span)
	for _, l := range [][]int{
		{maxTime, 1}, {maxTime + 1, 1}, {maxNum - 1, 1}, {maxNum, 1},
		{1, maxTime}, {1, maxTime + 1}, {1, maxNum - 1}, {1, maxNum},
		{maxTime + 1, maxTime + 1}, {maxNum, maxNum}, {1, maxNum, 2, 1, maxTime, 7, maxTime + 1, maxNum, maxNum, 3},
	} {
		m := revived(t, []string{"\x00", chartText(c), nums(l...)})
		wantChart(t, fmt.Sprint(l), m.Chart(), c)
		wantTexts(t, fmt.Sprint(l), textsOf(t, m), "\x00", chartText(c), nums(l...))
		wantClients(t, revived(t, textsOf(t, m)), l...)
	}
}

// P15.5, P15.6: what is remembered so counts as what a machine did.
func TestReviveGreatClientsGoOn(t *testing.T) {
	c := charted(1, 0, 1, span)
	m := revived(t, []string{"\x00", chartText(c), nums(7, maxNum, maxTime, maxTime+1, maxTime+1, 1)})
	step(t, m, about(7, maxTime, from(0, 5), 2), telling(c), false)
	step(t, m, about(maxTime, maxTime, from(0, 5), 2), telling(c), false)
	c = charted(2, 0, 2, 5, 1, span)
	step(t, m, about(8, 1, from(0, 5), 2), telling(c), true)
	wantClients(t, m, 7, maxNum, 8, 1, maxTime, maxTime+1, maxTime+1, 1)

	var full []int
	for i := range maxClients {
		full = append(full, maxTime+1+i, maxNum-i)
	}
	m = revived(t, []string{"\x00", chartText(c), nums(full...)})
	step(t, m, about(8, 1, from(0, 5), 3), telling(charted(3, 0, 3, 5, 1, span)), true)
	wantClients(t, m, full...)
}

// P15.6: what is no list of clients that rise, each with its number.
func TestReviveRefusesClients(t *testing.T) {
	c := chartText(charted(3, 0, 1, span))
	var full []int
	for i := range maxClients {
		full = append(full, 10+i, 1+i)
	}
	for name, l := range map[string][]int{
		"none": {}, "one": {1, 1}, "one at the limits": {maxTime, maxTime}, "two": {1, 9, 2, 8}, "two far apart": {1, maxTime, maxTime, 1}, "64": full,
	} {
		m := revived(t, []string{"\x05", c, nums(l...)})
		t.Log(name)
		wantClients(t, m, l...)
	}
	for name, l := range map[string][]int{
		"clients fall":          {2, 5, 1, 5},
		"the last ones fall":    {1, 5, 3, 5, 2, 5},
		"one client twice":      {1, 5, 1, 6},
		"the same twice":        {1, 5, 1, 5},
		"client 0":              {0, 5},
		"client 0 ahead of one": {0, 5, 1, 5},
		"number 0":              {1, 0},
		"number 0 behind one":   {1, 5, 2, 0},
		"client 2^62 falls":     {maxNum, 5, maxNum - 1, 5},
		"client 2^62, number 0": {maxNum, 0},
		"client 2^62 alone":     {maxNum},
		"client 2^62 + 1":       {maxNum + 1, 5},
		"number 2^62 + 1":       {5, maxNum + 1},
		"a client alone":        {1},
		"a client more":         {1, 5, 2},
		"65":                    append([]int{9, 1}, full...),
		"65 at the other end":   append(slices.Clone(full), 9000, 1),
		"a number behind 64":    append(slices.Clone(full), 9000),
	} {
		refusesRevive(t, name, "\x05", c, nums(l...))
	}
	refusesRevive(t, "too long a number", "\x05", c, "\x81\x00\x05")
}
