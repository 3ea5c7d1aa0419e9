package group_test

import (
	"fmt"
	"math"
	"math/rand/v2"
	"slices"
	"strings"
	"testing"

	"raceway/api"
	"raceway/group"
)

const (
	maxText  = 4096
	maxItems = 1024
	maxNum   = 1 << 62
)

// num and text are octet's words of a number and a text.
func num(n int) string {
	s := ""
	for ; n > 127; n /= 128 {
		s += string([]byte{byte(128 + n%128)})
	}
	return s + string([]byte{byte(n)})
}

func text(s string) string { return num(len(s)) + s }

// bytesOf is the document's words of a Dump.
func bytesOf(g api.Group) string {
	var b strings.Builder
	b.WriteString(num(g.Next) + num(len(g.Kept)))
	for _, m := range g.Kept {
		b.WriteString(num(m.Seq) + num(m.Sent) + num(m.Count) + num(m.Until) + num(m.From) + text(m.Body))
	}
	b.WriteString(num(len(g.Marks)))
	for _, m := range g.Marks {
		b.WriteString(text(m.Token) + num(m.Seq) + num(m.At))
	}
	b.WriteString(text(g.Attempt))
	return b.String()
}

// wantDumped checks that a group is written as the document says, and read from that.
func wantDumped(t *testing.T, name string, g api.Group) {
	t.Helper()
	s, e := dump(t, g)
	wantError(t, name, e, api.OK)
	if s != bytesOf(g) {
		t.Errorf("%s: % x, not % x", name, s, bytesOf(g))
	}
	wantLoaded(t, name, bytesOf(g), g)
}

func wantLoaded(t *testing.T, name, s string, g api.Group) {
	t.Helper()
	back, e := load(t, s)
	wantError(t, name+", read", e, api.OK)
	wantGroup(t, name+", read", back, g)
	if !group.Same(back, g) || !group.Same(g, back) {
		t.Errorf("%s: what is read is not the same", name)
	}
}

func wantNoDump(t *testing.T, name string, g api.Group, want api.Errno) {
	t.Helper()
	s, e := dump(t, g)
	wantError(t, name, e, want)
	if s != "" {
		t.Errorf("%s: with an error % x", name, s)
	}
}

func wantNoLoad(t *testing.T, name, s string, want api.Errno) {
	t.Helper()
	g, e := load(t, s)
	wantError(t, name, e, want)
	wantGroup(t, name, g, api.Group{})
}

// full has something else in each part.
func full() api.Group {
	return api.Group{
		Next: 300,
		Kept: []api.Kept{
			{Seq: 1, Sent: 2, Count: 3, Until: 4, From: 5, Body: "six"},
			{Seq: 129, Sent: maxTime, Count: 0, Until: 1 << 14, From: 127, Body: ""},
			{Seq: 130, Sent: 0, Count: 128, Until: maxTime + 5, From: 6, Body: strings.Repeat("long", 50)},
		},
		Marks:   []api.Mark{{Token: "t", Seq: 7, At: 8}, {Token: "", Seq: 0, At: 9000}, {Token: tokenOf("b"), Seq: maxTime, At: 0}},
		Attempt: "attempt",
	}
}

// P11.9: some groups, byte by byte.
func TestDumpBytes(t *testing.T) {
	for _, x := range []struct {
		g api.Group
		s string
	}{
		{group.Fresh(), "\x01\x00\x00\x00"},
		{api.Group{}, "\x00\x00\x00\x00"},
		{api.Group{Next: 300, Attempt: "ab"}, "\xac\x02\x00\x00\x02ab"},
		{api.Group{Next: 2, Kept: []api.Kept{{Seq: 1, Sent: 5, Count: 6, Until: 7, From: 8, Body: "b"}}, Marks: []api.Mark{{Token: "tk", Seq: 1, At: 5}}, Attempt: "a"},
			"\x02\x01\x01\x05\x06\x07\x08\x01b\x01\x02tk\x01\x05\x01a"},
		{api.Group{Next: 4, Kept: []api.Kept{{}, {Seq: 300}}, Marks: []api.Mark{{}, {At: 300}}},
			"\x04\x02\x00\x00\x00\x00\x00\x00\xac\x02\x00\x00\x00\x00\x00\x02\x00\x00\x00\x00\x00\xac\x02\x00"},
	} {
		if s, e := dump(t, x.g); s != x.s || e != api.OK {
			t.Errorf("%v: % x, error %d, not % x", x.g, s, int(e), x.s)
		}
		wantDumped(t, "bytes", x.g)
	}
}

// P11.9: groups of all kinds are written and read as they were.
func TestDumpAndLoad(t *testing.T) {
	for i, g := range []api.Group{
		full(), of(), of(waiting(1)...), of(waiting(12)...), of(waiting(40)...),
		{Next: 1, Marks: tokens(1)}, {Next: 1, Marks: tokens(40)}, {Next: 5, Kept: waiting(12), Marks: tokens(40), Attempt: strings.Repeat("a", 32)},
		{Next: maxNum, Kept: []api.Kept{{Seq: maxNum, Sent: maxNum, Count: maxNum, Until: maxNum, From: maxNum}}, Marks: []api.Mark{{Seq: maxNum, At: maxNum}}},
		{Next: 1, Kept: []api.Kept{}, Marks: []api.Mark{}},
	} {
		wantDumped(t, fmt.Sprint("group ", i), g)
	}
}

// P11.9: 4096 bytes, and one more, wherever they come from.
func TestDumpAtItsLongest(t *testing.T) {
	for name, build := range map[string]func(n int) api.Group{
		"the body":    func(n int) api.Group { return of(api.Kept{Seq: 1, Body: strings.Repeat("b", n)}) },
		"the attempt": func(n int) api.Group { return api.Group{Attempt: strings.Repeat("a", n)} },
		"a token": func(n int) api.Group {
			return api.Group{Marks: []api.Mark{{}, {Token: strings.Repeat("t", n)}}}
		},
		"all of them": func(n int) api.Group {
			g := full()
			g.Kept[1].Body, g.Marks[1].Token, g.Attempt = strings.Repeat("b", n/3), strings.Repeat("t", n/3), strings.Repeat("a", n-n/3*2)
			return g
		},
		"many messages": func(n int) api.Group {
			g := api.Group{Kept: make([]api.Kept, n/6), Attempt: strings.Repeat("a", n%6)}
			return g
		},
		"many tokens": func(n int) api.Group {
			return api.Group{Marks: make([]api.Mark, 1000), Attempt: strings.Repeat("a", n%6), Kept: make([]api.Kept, n/6)}
		},
	} {
		longest := 0
		for n := range 4200 {
			if len(bytesOf(build(n))) <= maxText {
				longest = n
			}
		}
		if size := len(bytesOf(build(longest))); size != maxText {
			t.Fatalf("%s: no group of 4096 bytes, but of %d", name, size)
		}
		wantDumped(t, name, build(longest))
		wantDumped(t, name, build(longest-1))
		wantNoDump(t, name, build(longest+1), api.ErrLong)
		wantNoDump(t, name, build(longest+1000), api.ErrLong)
	}
}

// wrongPart makes one part of a group wrong, so that octet refuses it.
type wrongPart struct {
	name string
	e    api.Errno
	do   func(*api.Group)
}

const beyond = maxText + 1

// wrongParts has one for each part of a group of two messages and two tokens, in the order of its Dump.
func wrongParts(wrong int) []wrongPart {
	number := func(name string, at func(*api.Group) *int) wrongPart {
		return wrongPart{name, api.ErrArg, func(g *api.Group) { *at(g) = wrong }}
	}
	long := func(name string, at func(*api.Group) *string) wrongPart {
		return wrongPart{name, api.ErrLong, func(g *api.Group) { *at(g) = strings.Repeat("x", beyond) }}
	}
	l := []wrongPart{number("Next", func(g *api.Group) *int { return &g.Next })}
	for i := range 2 {
		l = append(l,
			number(fmt.Sprint("Seq of message ", i), func(g *api.Group) *int { return &g.Kept[i].Seq }),
			number(fmt.Sprint("Sent of message ", i), func(g *api.Group) *int { return &g.Kept[i].Sent }),
			number(fmt.Sprint("Count of message ", i), func(g *api.Group) *int { return &g.Kept[i].Count }),
			number(fmt.Sprint("Until of message ", i), func(g *api.Group) *int { return &g.Kept[i].Until }),
			number(fmt.Sprint("From of message ", i), func(g *api.Group) *int { return &g.Kept[i].From }),
			long(fmt.Sprint("Body of message ", i), func(g *api.Group) *string { return &g.Kept[i].Body }),
		)
	}
	for i := range 2 {
		l = append(l,
			long(fmt.Sprint("Token of token ", i), func(g *api.Group) *string { return &g.Marks[i].Token }),
			number(fmt.Sprint("Seq of token ", i), func(g *api.Group) *int { return &g.Marks[i].Seq }),
			number(fmt.Sprint("At of token ", i), func(g *api.Group) *int { return &g.Marks[i].At }),
		)
	}
	return append(l, long("Attempt", func(g *api.Group) *string { return &g.Attempt }))
}

// twoOfEach is a group for wrongParts.
func twoOfEach() api.Group {
	return api.Group{Next: 3, Kept: waiting(2), Marks: tokens(2), Attempt: "a"}
}

// P11.9: of the parts that octet refuses the first one tells its error.
func TestDumpOfWrongParts(t *testing.T) {
	for _, wrong := range []int{-1, math.MinInt, maxNum + 1, math.MaxInt} {
		parts := wrongParts(wrong)
		for i, first := range parts {
			g := twoOfEach()
			first.do(&g)
			wantNoDump(t, first.name, g, first.e)
			for _, second := range parts[i+1:] {
				g := twoOfEach()
				second.do(&g)
				first.do(&g)
				wantNoDump(t, first.name+" and "+second.name, g, first.e)
			}
		}
	}
	for _, last := range wrongParts(maxNum) {
		if last.e != api.ErrArg {
			continue
		}
		g := twoOfEach()
		last.do(&g)
		wantDumped(t, last.name+", at its limit", g)
	}
}

// P11.9: that all together is too long is told behind every part's own error: a text of 4096 bytes has none.
func TestDumpOfTooLongAndWrong(t *testing.T) {
	for name, at := range map[string]func(*api.Group) *string{
		"the first body":  func(g *api.Group) *string { return &g.Kept[0].Body },
		"the first token": func(g *api.Group) *string { return &g.Marks[0].Token },
	} {
		for _, x := range []struct {
			size int
			e    api.Errno
		}{{maxText, api.ErrArg}, {maxText + 1, api.ErrLong}} {
			g := twoOfEach()
			*at(&g) = strings.Repeat("x", x.size)
			g.Marks[1].At = -1
			wantNoDump(t, name, g, x.e)
			g.Marks[1].At = 1
			wantNoDump(t, name, g, api.ErrLong)
		}
	}
	g := api.Group{Next: 1, Kept: waiting(2000)}
	wantNoDump(t, "too many messages", g, api.ErrLong)
	g.Kept[1999].From = -1
	wantNoDump(t, "too many messages, and a wrong one", g, api.ErrArg)
}

// P11.9: what is cut anywhere is short.
func TestLoadOfWhatIsCut(t *testing.T) {
	for i, g := range []api.Group{full(), {}, group.Fresh(), of(waiting(12)...), twoOfEach(), {Next: 300, Kept: waiting(130), Attempt: "a"}, {Marks: tokens(40)}} {
		s := bytesOf(g)
		wantLoaded(t, fmt.Sprint("group ", i), s, g)
		for size := range len(s) {
			wantNoLoad(t, fmt.Sprintf("group %d, cut at %d", i, size), s[:size], api.ErrShort)
		}
	}
}

// P11.9: nothing may stand behind.
func TestLoadOfMoreThanAGroup(t *testing.T) {
	for i, g := range []api.Group{full(), {}, group.Fresh(), twoOfEach()} {
		for _, behind := range []string{"\x00", "\x01", "\x80", "\xff", "more", bytesOf(g), strings.Repeat("\x00", 5000)} {
			wantNoLoad(t, fmt.Sprintf("group %d, and % .8x", i, behind), bytesOf(g)+behind, api.ErrForm)
		}
	}
}

// P11.9: counts of 1024 items, and of one more; a count that is too great is told where it stands, whatever follows it.
func TestLoadOfManyItems(t *testing.T) {
	messages := func(n int) string { return num(1) + num(n) + strings.Repeat("\x00", 6*n) + num(0) + text("a") }
	marks := func(n int) string { return num(1) + num(0) + num(n) + strings.Repeat("\x00", 3*n) + text("a") }
	wantLoaded(t, "1024 messages", messages(maxItems), api.Group{Next: 1, Kept: make([]api.Kept, maxItems), Attempt: "a"})
	wantLoaded(t, "1024 tokens", marks(maxItems), api.Group{Next: 1, Marks: make([]api.Mark, maxItems), Attempt: "a"})
	wantDumped(t, "1024 tokens", api.Group{Next: 1, Marks: make([]api.Mark, maxItems), Attempt: "a"})
	wantNoLoad(t, "1025 messages", messages(maxItems+1), api.ErrLong)
	wantNoLoad(t, "1025 tokens", marks(maxItems+1), api.ErrLong)
	wantNoLoad(t, "1024 messages of none", num(1)+num(maxItems), api.ErrShort)
	wantNoLoad(t, "1024 tokens of none", num(1)+num(0)+num(maxItems), api.ErrShort)
	for _, n := range []int{maxItems + 1, 2000, 1 << 31, 1 << 40, maxNum} {
		for _, behind := range []string{"", "\x00", "\x80\x00", strings.Repeat("\x00", 100), strings.Repeat("\xff", 20)} {
			wantNoLoad(t, fmt.Sprintf("%d messages, and % .8x", n, behind), num(1)+num(n)+behind, api.ErrLong)
			wantNoLoad(t, fmt.Sprintf("%d tokens, and % .8x", n, behind), num(1)+num(0)+num(n)+behind, api.ErrLong)
		}
	}
	if s, e := dump(t, api.Group{Marks: make([]api.Mark, maxItems+1)}); e != api.OK || len(s) != 3080 {
		t.Errorf("1025 tokens have a Dump of less than 4096 bytes: %d bytes, error %d", len(s), int(e))
	}
}

// P11.9: octet's error of the first part that is wrong, wherever that stands.
func TestLoadOfWrongParts(t *testing.T) {
	parts := []string{
		num(3),
		num(2), num(1), num(2), num(3), num(4), num(5), text("body"), num(2), num(3), num(4), num(5), num(6), text(""),
		num(2), text("token"), num(1), num(2), text(""), num(3), num(4),
		text("attempt"),
	}
	texts := []int{7, 13, 15, 18, 21}
	for i := range parts {
		ahead, behind := strings.Join(parts[:i], ""), strings.Join(parts[i+1:], "")
		for _, rest := range []string{behind, "", "\x80\x00", strings.Repeat("\xff", 20)} {
			wantNoLoad(t, fmt.Sprintf("part %d has a byte too many", i), ahead+"\x80\x00"+rest, api.ErrForm)
			wantNoLoad(t, fmt.Sprintf("part %d is above 2^62", i), ahead+"\x81\x80\x80\x80\x80\x80\x80\x80\x40"+rest, api.ErrForm)
			if slices.Contains(texts, i) {
				wantNoLoad(t, fmt.Sprintf("part %d is too long", i), ahead+num(maxText+1)+rest, api.ErrLong)
			}
		}
		wantNoLoad(t, fmt.Sprintf("part %d ends in its midst", i), ahead+"\x80", api.ErrShort)
		if slices.Contains(texts, i) {
			wantNoLoad(t, fmt.Sprintf("part %d, too long by all its bytes", i), ahead+text(strings.Repeat("x", maxText+1))+behind, api.ErrLong)
			if g, e := load(t, ahead+text(strings.Repeat("x", maxText))+behind); e != api.OK || g.Next != 3 {
				t.Errorf("part %d of 4096 bytes: error %d", i, int(e))
			}
		}
	}
}

// P11.9: no other bytes than a group's Dump are read as it.
func TestNothingElseIsLoaded(t *testing.T) {
	rng := rand.New(rand.NewPCG(11, 9))
	read := 0
	for range 200000 {
		b := make([]byte, 4+rng.IntN(16))
		for i := range b {
			b[i] = []byte{0, 0, 0, 0, 1, 1, 2, 3, 'a', 0x80, 0x81, 0xff}[rng.IntN(12)]
		}
		g, e := group.Load(string(b))
		if e != api.OK {
			if !same(g, api.Group{}) {
				t.Fatalf("% x: error %d, and %v", b, int(e), g)
			}
			continue
		}
		read++
		if s, e := group.Dump(g); s != string(b) || e != api.OK {
			t.Fatalf("% x is read as %v, whose Dump is % x, error %d", b, g, s, int(e))
		}
	}
	if read < 100 {
		t.Errorf("only %d were read", read)
	}
}

// P11.9: a change of one part, of any kind, is told.
func TestSame(t *testing.T) {
	changes := map[string]func(*api.Group){
		"Next":              func(g *api.Group) { g.Next++ },
		"Attempt":           func(g *api.Group) { g.Attempt = "attempT" },
		"no Attempt":        func(g *api.Group) { g.Attempt = "" },
		"one message less":  func(g *api.Group) { g.Kept = g.Kept[:2] },
		"the first is gone": func(g *api.Group) { g.Kept = g.Kept[1:] },
		"no messages":       func(g *api.Group) { g.Kept = nil },
		"one message more":  func(g *api.Group) { g.Kept = append(g.Kept, api.Kept{}) },
		"other order":       func(g *api.Group) { slices.Reverse(g.Kept) },
		"one token less":    func(g *api.Group) { g.Marks = g.Marks[:2] },
		"no tokens":         func(g *api.Group) { g.Marks = []api.Mark{} },
		"one token more":    func(g *api.Group) { g.Marks = append(g.Marks, api.Mark{}) },
		"tokens turned":     func(g *api.Group) { slices.Reverse(g.Marks) },
	}
	for i := range 3 {
		changes[fmt.Sprint("Seq of message ", i)] = func(g *api.Group) { g.Kept[i].Seq++ }
		changes[fmt.Sprint("Sent of message ", i)] = func(g *api.Group) { g.Kept[i].Sent-- }
		changes[fmt.Sprint("Count of message ", i)] = func(g *api.Group) { g.Kept[i].Count++ }
		changes[fmt.Sprint("Until of message ", i)] = func(g *api.Group) { g.Kept[i].Until++ }
		changes[fmt.Sprint("From of message ", i)] = func(g *api.Group) { g.Kept[i].From = 0 }
		changes[fmt.Sprint("Body of message ", i)] = func(g *api.Group) { g.Kept[i].Body += " " }
		changes[fmt.Sprint("Token of token ", i)] = func(g *api.Group) { g.Marks[i].Token += "x" }
		changes[fmt.Sprint("Seq of token ", i)] = func(g *api.Group) { g.Marks[i].Seq += 128 }
		changes[fmt.Sprint("At of token ", i)] = func(g *api.Group) { g.Marks[i].At++ }
	}
	if !group.Same(full(), full()) {
		t.Error("a group is not the same as itself")
	}
	for name, do := range changes {
		g := full()
		do(&g)
		if group.Same(g, full()) || group.Same(full(), g) {
			t.Errorf("%s: the same", name)
		}
		if !group.Same(g, told{g: g}.copy().g) {
			t.Errorf("%s: not the same as its copy", name)
		}
	}
}

// P11.9, rule 5: a list that is nil and one without items are the same; what lies behind a list counts for nothing.
func TestSameOfEmptyLists(t *testing.T) {
	lists := []api.Group{
		{Next: 1}, {Next: 1, Kept: []api.Kept{}}, {Next: 1, Marks: []api.Mark{}}, {Next: 1, Kept: []api.Kept{}, Marks: []api.Mark{}},
		{Next: 1, Kept: waiting(3)[:0], Marks: tokens(3)[:0]}, group.Fresh(),
	}
	for i, a := range lists {
		for j, b := range lists {
			if !group.Same(a, b) {
				t.Errorf("%d and %d are not the same", i, j)
			}
		}
	}
	if !group.Same(api.Group{}, api.Group{}) || group.Same(api.Group{}, group.Fresh()) {
		t.Error("the plain group")
	}
	long, short := full(), full()
	long.Kept, long.Marks = append(long.Kept, strayKept)[:3], append(long.Marks, strayMark)[:3]
	if !group.Same(long, short) || !group.Same(short, long) {
		t.Error("what lies behind counts")
	}
}
