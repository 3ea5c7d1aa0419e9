package wire_test

import (
	"bytes"
	"encoding/hex"
	"fmt"
	"math"
	"math/rand/v2"
	"reflect"
	"slices"
	"strconv"
	"strings"
	"testing"

	"raceway/api"
	"raceway/wire"
)

// The document's limits, apart from the packages that are tested.
const (
	maxKind  = 10
	maxErr   = 255
	maxTime  = 1 << 40
	maxNum   = 1 << 62
	maxName  = 32
	maxBody  = 128
	maxText  = 4096
	maxItems = 1024
	span     = 65536
)

func text(n int) string { return strings.Repeat("x", n) }

func from(lo, hi int) api.Range { return api.Range{Lo: lo, Hi: hi} }

// named is something that a test changes, and its name for what the test tells.
type named[T any] struct {
	name string
	of   func(T) *int
}

type limited[T any] struct {
	name  string
	limit int
	of    func(T) *string
}

var cmdNums = []named[*api.Cmd]{
	{"Client", func(c *api.Cmd) *int { return &c.Client }},
	{"Num", func(c *api.Cmd) *int { return &c.Num }},
	{"Time", func(c *api.Cmd) *int { return &c.Time }},
	{"Queue", func(c *api.Cmd) *int { return &c.Queue }},
	{"Max", func(c *api.Cmd) *int { return &c.Max }},
	{"Secs", func(c *api.Cmd) *int { return &c.Secs }},
	{"To", func(c *api.Cmd) *int { return &c.To }},
	{"Receipt.Queue", func(c *api.Cmd) *int { return &c.Receipt.Queue }},
	{"Receipt.Seq", func(c *api.Cmd) *int { return &c.Receipt.Seq }},
	{"Receipt.Count", func(c *api.Cmd) *int { return &c.Receipt.Count }},
}

var cmdTexts = []limited[*api.Cmd]{
	{"Group", maxName, func(c *api.Cmd) *string { return &c.Group }},
	{"Body", maxBody, func(c *api.Cmd) *string { return &c.Body }},
	{"Token", maxName, func(c *api.Cmd) *string { return &c.Token }},
	{"Attempt", maxName, func(c *api.Cmd) *string { return &c.Attempt }},
	{"Receipt.Group", maxName, func(c *api.Cmd) *string { return &c.Receipt.Group }},
	{"Data", maxText, func(c *api.Cmd) *string { return &c.Data[len(c.Data)-1] }},
}

// The numbers and the texts of a reply: of lists those of the last one.
var replyNums = []named[*api.Reply]{
	{"Seq", func(r *api.Reply) *int { return &r.Seq }},
	{"N", func(r *api.Reply) *int { return &r.N }},
	{"Receipt.Queue", func(r *api.Reply) *int { return &lastGot(r).Receipt.Queue }},
	{"Receipt.Seq", func(r *api.Reply) *int { return &lastGot(r).Receipt.Seq }},
	{"Receipt.Count", func(r *api.Reply) *int { return &lastGot(r).Receipt.Count }},
	{"Sent", func(r *api.Reply) *int { return &lastGot(r).Sent }},
}

var replyTexts = []limited[*api.Reply]{
	{"Receipt.Group", maxName, func(r *api.Reply) *string { return &lastGot(r).Receipt.Group }},
	{"Body", maxBody, func(r *api.Reply) *string { return &lastGot(r).Body }},
	{"Data", maxText, func(r *api.Reply) *string { return &r.Data[len(r.Data)-1] }},
}

func lastGot(r *api.Reply) *api.Got { return &r.Got[len(r.Got)-1] }

// mayRanges and wrongRanges have ranges that may be, and that may not.
var (
	mayRanges   = []api.Range{from(0, span), from(0, 1), from(1, 2), from(span-1, span), from(0, 9), from(300, 40000)}
	wrongRanges = []api.Range{
		from(1, 1), from(5, 5), from(span, span), from(1, 0), from(6, 5), from(span, 0),
		from(0, span+1), from(span-1, span+1), from(span, span+1), from(0, maxTime), from(0, maxTime+1), from(maxTime, maxTime),
		from(-1, 1), from(-1, 0), from(0, -1), from(-2, -1), from(-1, -1), from(-1, span),
		from(math.MinInt, math.MaxInt), from(math.MaxInt, math.MinInt), from(math.MinInt, 5), from(0, math.MaxInt),
	}
	goodNums  = []int{0, 1, 127, 128, 300, maxTime - 1, maxTime}
	wrongNums = []int{-1, -2, -300, math.MinInt, maxTime + 1, maxTime + 2, maxNum, maxNum + 1, math.MaxInt}
)

// Each part of these has a value that no other part has.
func fullCmd() api.Cmd {
	return api.Cmd{
		Kind: 7, Client: 1, Num: 300, Time: 3, Queue: 4, Group: "gr", Body: "bod", Token: "tok", Attempt: "att!",
		Max: 5, Secs: 6, Receipt: api.Receipt{Queue: 8, Group: "rec", Seq: 9, Count: 10}, Range: from(11, 12), To: 13, Data: []string{"d", "", "\x00\xff"},
	}
}

const fullCmdHex = "07 01 ac02 03 04 026772 03626f64 03746f6b 0461747421 05 06 08 03726563 09 0a 0b 0c 0d 03 0164 00 0200ff"

func fullReply() api.Reply {
	return api.Reply{
		Err: 200, Seq: 2, N: 3,
		Got: []api.Got{
			{Receipt: api.Receipt{Queue: 4, Group: "g", Seq: 5, Count: 6}, Body: "one", Sent: 7},
			{Receipt: api.Receipt{Queue: 8, Group: "h", Seq: 9, Count: 10}, Body: "", Sent: 11},
		},
		Data:  []string{"", "data"},
		About: []api.Range{from(12, 13), from(14, span)},
	}
}

const fullReplyHex = "c801 02 03 02 04 0167 05 06 036f6e65 07 08 0168 09 0a 00 0b 02 00 0464617461 02 0c 0d 0e 808004"

func unhex(t *testing.T, s string) []byte {
	t.Helper()
	b, err := hex.DecodeString(strings.ReplaceAll(s, " ", ""))
	if err != nil {
		t.Fatal(err)
	}
	return b
}

// part is a number or a text as the document has it in bytes, whether or not it may be.
type part struct {
	isText bool
	n      int
	s      string
}

func (p part) bytes() []byte {
	if p.isText {
		return append(part{n: len(p.s)}.bytes(), p.s...)
	}
	var b []byte
	n := p.n
	for n > 127 {
		b = append(b, byte(n&127|128))
		n /= 128
	}
	return append(b, byte(n))
}

func nums(l ...int) []part {
	var parts []part
	for _, n := range l {
		parts = append(parts, part{n: n})
	}
	return parts
}

func texts(l ...string) []part {
	var parts []part
	for _, s := range l {
		parts = append(parts, part{isText: true, s: s})
	}
	return parts
}

func receiptParts(r api.Receipt) []part {
	return slices.Concat(nums(r.Queue), texts(r.Group), nums(r.Seq, r.Count))
}

func dataParts(l []string) []part { return append(nums(len(l)), texts(l...)...) }

func cmdParts(c api.Cmd) []part {
	return slices.Concat(
		nums(c.Kind, c.Client, c.Num, c.Time, c.Queue), texts(c.Group, c.Body, c.Token, c.Attempt), nums(c.Max, c.Secs),
		receiptParts(c.Receipt), nums(c.Range.Lo, c.Range.Hi, c.To), dataParts(c.Data))
}

func replyParts(r api.Reply) []part {
	l := nums(int(r.Err), r.Seq, r.N, len(r.Got))
	for _, g := range r.Got {
		l = append(l, receiptParts(g.Receipt)...)
		l = append(l, part{isText: true, s: g.Body}, part{n: g.Sent})
	}
	l = slices.Concat(l, dataParts(r.Data), nums(len(r.About)))
	for _, x := range r.About {
		l = append(l, nums(x.Lo, x.Hi)...)
	}
	return l
}

func join(parts []part) []byte {
	var b []byte
	for _, p := range parts {
		b = append(b, p.bytes()...)
	}
	return b
}

func sameReply(a, b api.Reply) bool {
	return a.Err == b.Err && a.Seq == b.Seq && a.N == b.N &&
		slices.Equal(a.Got, b.Got) && slices.Equal(a.Data, b.Data) && slices.Equal(a.About, b.About)
}

// sameCmd is the library's, so that Same is not what it is tested by.
func sameCmd(a, b api.Cmd) bool {
	if !slices.Equal(a.Data, b.Data) {
		return false
	}
	a.Data, b.Data = nil, nil
	return reflect.DeepEqual(a, b)
}

// brief tells something in one line, whatever it has in it.
func brief(x any) string {
	s := strconv.QuoteToASCII(fmt.Sprintf("%+v", x))
	return s[:min(len(s), 300)]
}

// positive tells whether bytes can say that at all: there are none for a number below 0.
func positive(parts []part) bool {
	return !slices.ContainsFunc(parts, func(p part) bool { return p.n < 0 || p.n > maxNum })
}

// wantCmd asks all that there is about one command: Check, Cmd, and ReadCmd of its bytes.
func wantCmd(t *testing.T, name string, c api.Cmd, want api.Errno) {
	t.Helper()
	if got := wire.Check(c); got != want {
		t.Errorf("%s: Check: error %d, want %d", name, int(got), int(want))
	}
	b, e := wire.Cmd(c)
	if e != want {
		t.Errorf("%s: Cmd: error %d, want %d", name, int(e), int(want))
	}
	if want != api.OK {
		if len(b) > 0 {
			t.Errorf("%s: Cmd: %d bytes beside an error", name, len(b))
		}
	} else if !bytes.Equal(b, join(cmdParts(c))) {
		t.Errorf("%s: Cmd: %s, want %s", name, brief(b), brief(join(cmdParts(c))))
	}
	if !positive(cmdParts(c)) {
		return
	}
	wantReadCmd(t, name, join(cmdParts(c)), c, want)
}

func wantReadCmd(t *testing.T, name string, b []byte, c api.Cmd, want api.Errno) {
	t.Helper()
	got, e := wire.ReadCmd(b)
	if want != api.OK {
		c = api.Cmd{}
	}
	if e != want || !sameCmd(got, c) {
		t.Errorf("%s: ReadCmd: error %d, want %d; %s, want %s", name, int(e), int(want), brief(got), brief(c))
	}
}

func wantReply(t *testing.T, name string, r api.Reply, want api.Errno) {
	t.Helper()
	b, e := wire.Reply(r)
	if e != want {
		t.Errorf("%s: Reply: error %d, want %d", name, int(e), int(want))
	}
	if want != api.OK {
		if len(b) > 0 {
			t.Errorf("%s: Reply: %d bytes beside an error", name, len(b))
		}
	} else if !bytes.Equal(b, join(replyParts(r))) {
		t.Errorf("%s: Reply: %s, want %s", name, brief(b), brief(join(replyParts(r))))
	}
	if !positive(replyParts(r)) {
		return
	}
	wantReadReply(t, name, join(replyParts(r)), r, want)
}

func wantReadReply(t *testing.T, name string, b []byte, r api.Reply, want api.Errno) {
	t.Helper()
	got, e := wire.ReadReply(b)
	if want != api.OK {
		r = api.Reply{}
	}
	if e != want || !sameReply(got, r) {
		t.Errorf("%s: ReadReply: error %d, want %d; %s, want %s", name, int(e), int(want), brief(got), brief(r))
	}
}

// P5.1, P5.2: the chapter's example. Its list of parts makes twelve noughts behind Body, where the example counts fourteen: the list holds.
func TestCmdExample(t *testing.T) {
	c := api.Cmd{Kind: api.CmSend, Client: 1, Num: 2, Time: 3, Queue: 0, Group: "g", Body: "b"}
	want := append([]byte{1, 1, 2, 3, 0, 1, 0x67, 1, 0x62}, make([]byte, 12)...)
	if b, e := wire.Cmd(c); e != api.OK || !bytes.Equal(b, want) {
		t.Errorf("Cmd: % x, error %d", b, int(e))
	}
	wantReadCmd(t, "example", want, c, api.OK)
	wantReadCmd(t, "with two noughts more", append(want, 0, 0), c, api.ErrForm)
}

// P5.1, P5.2: each part at its place.
func TestBytesOfAllParts(t *testing.T) {
	b := unhex(t, fullCmdHex)
	if got, e := wire.Cmd(fullCmd()); e != api.OK || !bytes.Equal(got, b) {
		t.Errorf("Cmd: % x, error %d", got, int(e))
	}
	wantReadCmd(t, "full", b, fullCmd(), api.OK)
	b = unhex(t, fullReplyHex)
	if got, e := wire.Reply(fullReply()); e != api.OK || !bytes.Equal(got, b) {
		t.Errorf("Reply: % x, error %d", got, int(e))
	}
	wantReadReply(t, "full", b, fullReply(), api.OK)
}

// P5.1, P5.4
func TestPlainOnes(t *testing.T) {
	wantCmd(t, "plain", api.Cmd{}, api.OK)
	wantCmd(t, "empty data", api.Cmd{Data: []string{}}, api.OK)
	wantReply(t, "plain", api.Reply{}, api.OK)
	wantReply(t, "empty lists", api.Reply{Got: []api.Got{}, Data: []string{}, About: []api.Range{}}, api.OK)
	wantReply(t, "a plain delivery", api.Reply{Got: []api.Got{{}}}, api.OK)
	b, _ := wire.Cmd(api.Cmd{})
	d, _ := wire.Reply(api.Reply{})
	if !bytes.Equal(b, make([]byte, 19)) || !bytes.Equal(d, make([]byte, 6)) {
		t.Errorf("%x, %x", b, d)
	}
}

// P5.1, P5.2
func TestKinds(t *testing.T) {
	for kind := -2; kind <= 300; kind++ {
		want := api.OK
		if kind < 0 || kind > maxKind {
			want = api.ErrArg
		}
		c := fullCmd()
		c.Kind = kind
		wantCmd(t, "full", c, want)
		wantCmd(t, "plain", api.Cmd{Kind: kind}, want)
	}
	for _, kind := range wrongNums {
		wantCmd(t, "far off", api.Cmd{Kind: kind}, api.ErrArg)
	}
}

// P5.1, P5.2
func TestErrsOfReplies(t *testing.T) {
	for err := -2; err <= 600; err++ {
		want := api.OK
		if err < 0 || err > maxErr {
			want = api.ErrArg
		}
		r := fullReply()
		r.Err = api.Errno(err)
		wantReply(t, "full", r, want)
		wantReply(t, "plain", api.Reply{Err: api.Errno(err)}, want)
	}
	for _, err := range wrongNums {
		wantReply(t, "far off", api.Reply{Err: api.Errno(err)}, api.ErrArg)
	}
}

// P5.1, P5.2
func TestNumbers(t *testing.T) {
	for _, f := range cmdNums {
		for _, n := range goodNums {
			c := fullCmd()
			*f.of(&c) = n
			wantCmd(t, f.name, c, api.OK)
		}
		for _, n := range wrongNums {
			c := fullCmd()
			*f.of(&c) = n
			wantCmd(t, f.name, c, api.ErrArg)
		}
	}
	for _, f := range replyNums {
		for _, n := range goodNums {
			r := fullReply()
			*f.of(&r) = n
			wantReply(t, f.name, r, api.OK)
		}
		for _, n := range wrongNums {
			r := fullReply()
			*f.of(&r) = n
			wantReply(t, f.name, r, api.ErrArg)
		}
	}
}

// P5.1, P5.2
func TestTexts(t *testing.T) {
	for _, f := range cmdTexts {
		for _, n := range []int{0, 1, f.limit - 1, f.limit, f.limit + 1, f.limit + 2, maxText, maxText + 1, 2 * maxText} {
			c := fullCmd()
			*f.of(&c) = text(n)
			wantCmd(t, f.name, c, tooLong(n > f.limit))
		}
	}
	for _, f := range replyTexts {
		for _, n := range []int{0, 1, f.limit - 1, f.limit, f.limit + 1, f.limit + 2, maxText, maxText + 1, 2 * maxText} {
			r := fullReply()
			*f.of(&r) = text(n)
			wantReply(t, f.name, r, tooLong(n > f.limit))
		}
	}
}

func tooLong(is bool) api.Errno {
	if is {
		return api.ErrLong
	}
	return api.OK
}

// P5.1, P5.4: bytes count, not signs, and all bytes may be.
func TestTextsOfAnyBytes(t *testing.T) {
	var all []byte
	for i := range 256 {
		all = append(all, byte(i))
	}
	name, body := string(all[100:100+maxName]), string(all[128:])
	wantCmd(t, "any bytes", api.Cmd{Group: name, Body: body, Token: name, Attempt: name, Receipt: api.Receipt{Group: name}, Data: []string{string(all)}}, api.OK)
	wantReply(t, "any bytes", api.Reply{Got: []api.Got{{Receipt: api.Receipt{Group: name}, Body: body}}, Data: []string{string(all)}}, api.OK)
	wantCmd(t, "signs of two bytes", api.Cmd{Group: strings.Repeat("\u00e4", maxName/2)}, api.OK)
	wantCmd(t, "too many signs of two bytes", api.Cmd{Group: strings.Repeat("\u00e4", maxName/2+1)}, api.ErrLong)
	wantCmd(t, "a body of signs of two bytes", api.Cmd{Body: strings.Repeat("\u00e4", maxBody/2+1)}, api.ErrLong)
}

// P5.1, P5.2
func TestRangesOfCommands(t *testing.T) {
	wantCmd(t, "empty", api.Cmd{Range: from(0, 0)}, api.OK)
	c := fullCmd()
	for _, r := range append(slices.Clone(mayRanges), from(0, 0)) {
		c.Range = r
		wantCmd(t, "may be", c, api.OK)
	}
	for _, r := range wrongRanges {
		c.Range = r
		wantCmd(t, "wrong", c, api.ErrArg)
		wantCmd(t, "wrong alone", api.Cmd{Range: r}, api.ErrArg)
	}
}

// P5.1, P5.2: the empty range may not be here.
func TestRangesOfReplies(t *testing.T) {
	for _, x := range mayRanges {
		wantReply(t, "one", api.Reply{About: []api.Range{x}}, api.OK)
	}
	wantReply(t, "all", api.Reply{About: mayRanges}, api.OK)
	wantReply(t, "twice", api.Reply{About: slices.Concat(mayRanges, mayRanges)}, api.OK)
	for _, x := range append(slices.Clone(wrongRanges), from(0, 0)) {
		wantReply(t, "alone", api.Reply{About: []api.Range{x}}, api.ErrArg)
		wantReply(t, "first", api.Reply{About: append([]api.Range{x}, mayRanges...)}, api.ErrArg)
		wantReply(t, "last", api.Reply{About: append(slices.Clone(mayRanges), x)}, api.ErrArg)
	}
}

// filled gives a list of so many of the same.
func filled[T any](n int, x T) []T {
	l := make([]T, n)
	for i := range l {
		l[i] = x
	}
	return l
}

// P5.1, P5.2
func TestLongLists(t *testing.T) {
	for _, n := range []int{maxItems - 1, maxItems, maxItems + 1, maxItems + 2, 2 * maxItems} {
		want := tooLong(n > maxItems)
		c := fullCmd()
		c.Data = make([]string, n)
		wantCmd(t, "Data", c, want)
		wantReply(t, "Data", api.Reply{Data: make([]string, n)}, want)
		wantReply(t, "Got", api.Reply{Got: make([]api.Got, n)}, want)
		wantReply(t, "About", api.Reply{About: filled(n, from(1, 2))}, want)
	}
	full := fullReply()
	wantReply(t, "full Got", api.Reply{Got: filled(maxItems, full.Got[0]), Data: full.Data, About: full.About}, api.OK)
	wantReply(t, "full Got, and one", api.Reply{Got: filled(maxItems+1, full.Got[0]), Data: full.Data, About: full.About}, api.ErrLong)
	wantReply(t, "Data and one", api.Reply{Got: full.Got, Data: filled(maxItems+1, "d"), About: full.About}, api.ErrLong)
	wantReply(t, "About and one", api.Reply{Got: full.Got, Data: full.Data, About: filled(maxItems+1, from(0, span))}, api.ErrLong)
}

// P5.1, P5.2, P5.4: all that may be, at once.
func TestAllAtTheirLimits(t *testing.T) {
	receipt := api.Receipt{Queue: maxTime, Group: text(maxName), Seq: maxTime, Count: maxTime}
	data := filled(maxItems, text(maxText))
	wantCmd(t, "greatest", api.Cmd{
		Kind: maxKind, Client: maxTime, Num: maxTime, Time: maxTime, Queue: maxTime, Group: text(maxName), Body: text(maxBody), Token: text(maxName), Attempt: text(maxName),
		Max: maxTime, Secs: maxTime, Receipt: receipt, Range: from(span-1, span), To: maxTime, Data: data,
	}, api.OK)
	wantReply(t, "greatest", api.Reply{
		Err: maxErr, Seq: maxTime, N: maxTime, Got: filled(maxItems, api.Got{Receipt: receipt, Body: text(maxBody), Sent: maxTime}),
		Data: data, About: filled(maxItems, from(span-1, span)),
	}, api.OK)
}

// P5.1, P5.2: in lists, each item is looked at, the first, one in the midst and the last.
func TestItemsOfLists(t *testing.T) {
	for _, at := range []int{0, 1, 500, maxItems - 2, maxItems - 1} {
		for _, f := range replyNums[2:] {
			r := api.Reply{Got: make([]api.Got, maxItems)}
			one := api.Reply{Got: r.Got[at : at+1]}
			*f.of(&one) = maxTime
			wantReply(t, f.name, r, api.OK)
			*f.of(&one) = maxTime + 1
			wantReply(t, f.name, r, api.ErrArg)
			*f.of(&one) = -1
			wantReply(t, f.name, r, api.ErrArg)
		}
		got := make([]api.Got, maxItems)
		got[at].Body = text(maxBody + 1)
		wantReply(t, "Body", api.Reply{Got: got}, api.ErrLong)
		got[at] = api.Got{Receipt: api.Receipt{Group: text(maxName + 1)}}
		wantReply(t, "Group", api.Reply{Got: got}, api.ErrLong)
		data := make([]string, maxItems)
		data[at] = text(maxText + 1)
		wantReply(t, "Data", api.Reply{Data: data}, api.ErrLong)
		wantCmd(t, "Data", api.Cmd{Data: data}, api.ErrLong)
		about := filled(maxItems, from(0, 1))
		about[at] = api.Range{}
		wantReply(t, "About", api.Reply{About: about}, api.ErrArg)
	}
}

// longCmds gives commands in which one text or list is too long.
func longCmds() map[string]api.Cmd {
	all := map[string]api.Cmd{}
	for _, f := range cmdTexts {
		c := fullCmd()
		*f.of(&c) = text(f.limit + 1)
		all[f.name] = c
	}
	c := fullCmd()
	c.Data = make([]string, maxItems+1)
	all["list"] = c
	return all
}

func longReplies() map[string]api.Reply {
	all := map[string]api.Reply{}
	for _, f := range replyTexts {
		r := fullReply()
		*f.of(&r) = text(f.limit + 1)
		all[f.name] = r
	}
	for i, name := range []string{"deliveries", "list", "ranges"} {
		r := fullReply()
		switch i {
		case 0:
			r.Got = filled(maxItems+1, r.Got[0])
		case 1:
			r.Data = make([]string, maxItems+1)
		case 2:
			r.About = filled(maxItems+1, from(3, 4))
		}
		all[name] = r
	}
	return all
}

// readErr is what reading says of the bytes of what is wrong and too long at once: octet tells of Data itself, and goes first.
func readErr(long string) api.Errno {
	if long == "Data" || long == "list" {
		return api.ErrLong
	}
	return api.ErrArg
}

func wantBothCmd(t *testing.T, name, long string, c api.Cmd) {
	t.Helper()
	if got := wire.Check(c); got != api.ErrArg {
		t.Errorf("%s, %s: Check: error %d", name, long, int(got))
	}
	if b, e := wire.Cmd(c); e != api.ErrArg || len(b) > 0 {
		t.Errorf("%s, %s: Cmd: error %d, %d bytes", name, long, int(e), len(b))
	}
	if positive(cmdParts(c)) {
		wantReadCmd(t, name+", "+long, join(cmdParts(c)), c, readErr(long))
	}
}

func wantBothReply(t *testing.T, name, long string, r api.Reply) {
	t.Helper()
	if b, e := wire.Reply(r); e != api.ErrArg || len(b) > 0 {
		t.Errorf("%s, %s: Reply: error %d, %d bytes", name, long, int(e), len(b))
	}
	if positive(replyParts(r)) {
		wantReadReply(t, name+", "+long, join(replyParts(r)), r, readErr(long))
	}
}

// P5.1: what is wrong goes ahead of what is too long, wherever both stand.
func TestCommandsThatAreWrongAndTooLong(t *testing.T) {
	for long, c := range longCmds() {
		wantCmd(t, long, c, api.ErrLong)
		for _, f := range cmdNums {
			for _, n := range []int{-1, maxTime + 1} {
				d := c
				*f.of(&d) = n
				wantBothCmd(t, f.name, long, d)
			}
		}
		d := c
		d.Kind = -1
		wantBothCmd(t, "Kind", long, d)
		d.Kind = maxKind + 1
		wantBothCmd(t, "Kind", long, d)
		for _, r := range wrongRanges {
			d = c
			d.Range = r
			wantBothCmd(t, "Range", long, d)
		}
	}
}

// P5.1
func TestRepliesThatAreWrongAndTooLong(t *testing.T) {
	for long, r := range longReplies() {
		wantReply(t, long, r, api.ErrLong)
		for _, f := range replyNums {
			for _, n := range []int{-1, maxTime + 1} {
				d := r
				d.Got = slices.Clone(r.Got)
				*f.of(&d) = n
				wantBothReply(t, f.name, long, d)
			}
		}
		d := r
		d.Err = -1
		wantBothReply(t, "Err", long, d)
		d.Err = maxErr + 1
		wantBothReply(t, "Err", long, d)
		for _, x := range append(slices.Clone(wrongRanges), from(0, 0)) {
			d = r
			d.About = append(slices.Clone(r.About), x)
			wantBothReply(t, "About", long, d)
		}
	}
}

// samples and sampleReplies give some that may be, for tests that take their bytes apart.
func samples() []api.Cmd {
	return []api.Cmd{
		{}, fullCmd(),
		{Kind: maxKind, Client: maxTime, Num: 1 << 35, Time: 128, Group: text(maxName), Body: text(maxBody), Range: from(0, span), Data: filled(130, "")},
		{Kind: api.CmReceive, Queue: 5, Attempt: "a", Max: 10, Secs: 43200},
		{Kind: api.CmImport, Range: from(1, 2), Data: []string{text(200), "", text(1)}},
	}
}

func sampleReplies() []api.Reply {
	return []api.Reply{
		{}, fullReply(),
		{Err: api.ErrMoved}, {Err: maxErr, Seq: maxTime, N: 128},
		{Got: filled(130, api.Got{Receipt: api.Receipt{Seq: 300}})},
		{Data: []string{text(200), "", text(1)}, About: filled(130, from(0, span))},
	}
}

// P5.2, P5.4: what is cut anywhere is short; and what lies behind b's length is not read.
func TestCutBytes(t *testing.T) {
	for i, c := range samples() {
		b := join(cmdParts(c))
		for n := range len(b) {
			if got, e := wire.ReadCmd(b[:n]); e != api.ErrShort || !sameCmd(got, api.Cmd{}) {
				t.Fatalf("command %d, cut at %d of %d: error %d, %+v", i, n, len(b), int(e), got)
			}
		}
	}
	for i, r := range sampleReplies() {
		b := join(replyParts(r))
		for n := range len(b) {
			if got, e := wire.ReadReply(b[:n]); e != api.ErrShort || !sameReply(got, api.Reply{}) {
				t.Fatalf("reply %d, cut at %d of %d: error %d, %+v", i, n, len(b), int(e), got)
			}
		}
	}
	for _, b := range [][]byte{nil, {}, make([]byte, 40)[:0]} {
		wantReadCmd(t, "no bytes", b, api.Cmd{}, api.ErrShort)
		wantReadReply(t, "no bytes", b, api.Reply{}, api.ErrShort)
	}
}

// P5.2, P5.4
func TestBytesWithSomethingBehind(t *testing.T) {
	var behind [][]byte
	for i := range 256 {
		behind = append(behind, []byte{byte(i)})
	}
	behind = append(behind, []byte{0, 0}, []byte{0x80, 0}, []byte("abc"), make([]byte, 5000))
	for _, more := range behind {
		for _, c := range samples() {
			wantReadCmd(t, "behind", append(join(cmdParts(c)), more...), c, api.ErrForm)
		}
		for _, r := range sampleReplies() {
			wantReadReply(t, "behind", append(join(replyParts(r)), more...), r, api.ErrForm)
		}
	}
	wantReadCmd(t, "twice", bytes.Repeat(join(cmdParts(fullCmd())), 2), fullCmd(), api.ErrForm)
	wantReadReply(t, "twice", bytes.Repeat(join(replyParts(fullReply())), 2), fullReply(), api.ErrForm)
}

// P5.2: what stands behind goes ahead of what Check would say.
func TestWrongOnesWithSomethingBehind(t *testing.T) {
	c := fullCmd()
	c.Kind = maxKind + 1
	wantReadCmd(t, "Kind", append(join(cmdParts(c)), 0), c, api.ErrForm)
	c = fullCmd()
	c.Range = from(5, 5)
	wantReadCmd(t, "Range", append(join(cmdParts(c)), 0), c, api.ErrForm)
	c = fullCmd()
	c.Body = text(maxBody + 1)
	wantReadCmd(t, "Body", append(join(cmdParts(c)), 0), c, api.ErrForm)
	r := fullReply()
	r.Err = maxErr + 1
	wantReadReply(t, "Err", append(join(replyParts(r)), 0), r, api.ErrForm)
	r = fullReply()
	r.About[0] = from(0, 0)
	wantReadReply(t, "About", append(join(replyParts(r)), 0), r, api.ErrForm)
	for name, l := range map[string]api.Reply{"deliveries": {Got: make([]api.Got, maxItems+1)}, "ranges": {About: filled(maxItems+1, from(0, 1))}} {
		wantReadReply(t, name, append(join(replyParts(l)), 0), l, api.ErrForm)
	}
}

// partEnds gives where each part begins and ends.
func partEnds(parts []part) [][2]int {
	var l [][2]int
	at := 0
	for _, p := range parts {
		n := len(p.bytes())
		l = append(l, [2]int{at, at + n})
		at += n
	}
	return l
}

// lastBytes gives where the last byte of each part's number stands, of a text that of its count.
func lastBytes(b []byte, parts []part) []int {
	var l []int
	for _, ends := range partEnds(parts) {
		at := ends[0]
		for b[at] > 127 {
			at++
		}
		l = append(l, at)
	}
	return l
}

// P5.2, P5.4: each number, and each text's and list's count, with a byte more than it needs.
func TestNumbersWithAByteMore(t *testing.T) {
	longer := func(b []byte, at int) []byte {
		return slices.Concat(b[:at], []byte{b[at] | 128, 0}, b[at+1:])
	}
	for _, c := range samples() {
		b := join(cmdParts(c))
		for _, at := range lastBytes(b, cmdParts(c)) {
			wantReadCmd(t, "a byte more", longer(b, at), c, api.ErrForm)
			wantReadCmd(t, "a byte more, and cut", longer(b, at)[:at+2], c, api.ErrForm)
			wantReadCmd(t, "cut in the midst", longer(b, at)[:at+1], c, api.ErrShort)
		}
	}
	for _, r := range sampleReplies() {
		b := join(replyParts(r))
		for _, at := range lastBytes(b, replyParts(r)) {
			wantReadReply(t, "a byte more", longer(b, at), r, api.ErrForm)
			wantReadReply(t, "a byte more, and cut", longer(b, at)[:at+2], r, api.ErrForm)
			wantReadReply(t, "cut in the midst", longer(b, at)[:at+1], r, api.ErrShort)
		}
	}
}

// P5.2: in place of each part, what octet tells of; and what follows is not looked at.
func TestPartsThatOctetRefuses(t *testing.T) {
	above := []byte{0x81, 0x80, 0x80, 0x80, 0x80, 0x80, 0x80, 0x80, 0x40}
	ten := bytes.Repeat([]byte{0xff}, 10)
	for _, x := range []struct {
		name  string
		parts []part
		want  func(b []byte, e api.Errno)
	}{
		{"command", cmdParts(fullCmd()), func(b []byte, e api.Errno) { wantReadCmd(t, "spoilt", b, api.Cmd{}, e) }},
		{"reply", replyParts(fullReply()), func(b []byte, e api.Errno) { wantReadReply(t, "spoilt", b, api.Reply{}, e) }},
	} {
		b := join(x.parts)
		for i, ends := range partEnds(x.parts) {
			head := b[:ends[0]]
			for _, bad := range [][]byte{above, ten, {0x80, 0}} {
				for _, behind := range [][]byte{nil, b[ends[1]:], ten} {
					x.want(slices.Concat(head, bad, behind), api.ErrForm)
				}
			}
			if x.parts[i].isText {
				for _, behind := range [][]byte{nil, ten, make([]byte, 9000)} {
					x.want(slices.Concat(head, part{n: maxText + 1}.bytes(), behind), api.ErrLong)
				}
				x.want(slices.Concat(head, part{n: maxText}.bytes(), make([]byte, maxText-1)), api.ErrShort)
			}
			if t.Failed() {
				t.Fatalf("%s: part %d", x.name, i)
			}
		}
	}
}

// P5.2: octet's error goes ahead of all that Check would say of what stands ahead of it.
func TestOctetsErrorsAheadOfChecks(t *testing.T) {
	c := fullCmd()
	c.Kind, c.Range = 11, from(9, 3)
	b := join(cmdParts(c))
	wantReadCmd(t, "whole", b, c, api.ErrArg)
	wantReadCmd(t, "cut", b[:len(b)-1], c, api.ErrShort)
	c = fullCmd()
	c.Group = text(maxName + 1)
	b = join(cmdParts(c))
	wantReadCmd(t, "long, and cut", b[:len(b)-1], c, api.ErrShort)
	c.Kind, c.Data = maxKind+1, []string{text(maxText + 1)}
	wantReadCmd(t, "octet's long behind what is wrong", join(cmdParts(c)), c, api.ErrLong)
	r := fullReply()
	r.Err = maxErr + 1
	b = join(replyParts(r))
	wantReadReply(t, "whole", b, r, api.ErrArg)
	wantReadReply(t, "cut", b[:len(b)-1], r, api.ErrShort)
	r.Data = make([]string, maxItems+1)
	wantReadReply(t, "octet's long behind what is wrong", join(replyParts(r)), r, api.ErrLong)
}

// P5.2: Data is a list of octet, which tells of its count at once; deliveries and ranges are counted by a plain number.
func TestCountsThatAreTooGreat(t *testing.T) {
	cmdHead := join(cmdParts(api.Cmd{}))[:18]
	for _, n := range []int{maxItems + 1, maxTime, maxNum} {
		count := part{n: n}.bytes()
		wantReadCmd(t, "Data", slices.Concat(cmdHead, count), api.Cmd{}, api.ErrLong)
		wantReadReply(t, "Data", slices.Concat(make([]byte, 4), count), api.Reply{}, api.ErrLong)
		wantReadReply(t, "Got, and no more", slices.Concat(make([]byte, 3), count), api.Reply{}, api.ErrShort)
		wantReadReply(t, "Got, cut", slices.Concat(make([]byte, 3), count, make([]byte, 6*maxItems)), api.Reply{}, api.ErrShort)
		wantReadReply(t, "Got, with a wrong number", slices.Concat(make([]byte, 3), count, []byte{0x80, 0}), api.Reply{}, api.ErrForm)
		wantReadReply(t, "About, and no more", slices.Concat(make([]byte, 5), count), api.Reply{}, api.ErrShort)
		wantReadReply(t, "About, with a wrong number", slices.Concat(make([]byte, 5), count, []byte{0, 0x80, 0}), api.Reply{}, api.ErrForm)
	}
	wantReadCmd(t, "Data, cut", slices.Concat(cmdHead, part{n: maxItems}.bytes(), make([]byte, maxItems-1)), api.Cmd{}, api.ErrShort)
}

// reading is the document's words about reading, apart from the package that is tested: parts one by one.
type reading struct {
	b []byte
	e api.Errno
}

func (r *reading) num() int {
	if r.e != api.OK {
		return 0
	}
	n := uint64(0)
	for i, x := range r.b {
		n |= uint64(x&127) << (7 * i)
		if i == 9 || n > maxNum || x == 0 && i > 0 {
			r.e = api.ErrForm
			return 0
		}
		if x < 128 {
			r.b = r.b[i+1:]
			return int(n)
		}
	}
	r.e = api.ErrShort
	if len(r.b) > 8 {
		r.e = api.ErrForm
	}
	return 0
}

func (r *reading) count(limit int) int {
	n := r.num()
	if n > limit {
		r.e = api.ErrLong
		return 0
	}
	return n
}

func (r *reading) text() string {
	n := r.count(maxText)
	if r.e == api.OK && n > len(r.b) {
		r.e = api.ErrShort
	}
	if r.e != api.OK {
		return ""
	}
	s := string(r.b[:n])
	r.b = r.b[n:]
	return s
}

func (r *reading) data() (l []string) {
	for range r.count(maxItems) {
		l = append(l, r.text())
	}
	return l
}

func (r *reading) receipt() (x api.Receipt) {
	x.Queue = r.num()
	x.Group = r.text()
	x.Seq = r.num()
	x.Count = r.num()
	return x
}

func (r *reading) cmd() (c api.Cmd) {
	for _, n := range []*int{&c.Kind, &c.Client, &c.Num, &c.Time, &c.Queue} {
		*n = r.num()
	}
	for _, s := range []*string{&c.Group, &c.Body, &c.Token, &c.Attempt} {
		*s = r.text()
	}
	c.Max = r.num()
	c.Secs = r.num()
	c.Receipt = r.receipt()
	c.Range.Lo = r.num()
	c.Range.Hi = r.num()
	c.To = r.num()
	c.Data = r.data()
	return c
}

func (r *reading) reply() (x api.Reply) {
	x.Err = api.Errno(r.num())
	x.Seq = r.num()
	x.N = r.num()
	for n := r.num(); n > 0 && r.e == api.OK; n-- {
		g := api.Got{Receipt: r.receipt()}
		g.Body = r.text()
		g.Sent = r.num()
		x.Got = append(x.Got, g)
	}
	x.Data = r.data()
	for n := r.num(); n > 0 && r.e == api.OK; n-- {
		lo := r.num()
		x.About = append(x.About, from(lo, r.num()))
	}
	return x
}

// settle tells the error of what was read, whose Check's error is handed in.
func (r *reading) settle(check api.Errno) api.Errno {
	switch {
	case r.e != api.OK:
		return r.e
	case len(r.b) > 0:
		return api.ErrForm
	}
	return check
}

func receiptErr(r api.Receipt) (arg, long bool) {
	return max(r.Queue, r.Seq, r.Count) > maxTime, len(r.Group) > maxName
}

func rangeWrong(r api.Range) bool { return r.Lo >= r.Hi || r.Hi > span }

func verdict(arg, long bool) api.Errno {
	if arg {
		return api.ErrArg
	}
	return tooLong(long)
}

func cmdErr(c api.Cmd) api.Errno {
	arg, long := receiptErr(c.Receipt)
	arg = arg || c.Kind > maxKind || max(c.Client, c.Num, c.Time, c.Queue, c.Max, c.Secs, c.To) > maxTime || c.Range != from(0, 0) && rangeWrong(c.Range)
	long = long || max(len(c.Group), len(c.Token), len(c.Attempt)) > maxName || len(c.Body) > maxBody
	return verdict(arg, long)
}

func replyErr(r api.Reply) api.Errno {
	arg, long := r.Err > maxErr || max(r.Seq, r.N) > maxTime, len(r.Got) > maxItems || len(r.About) > maxItems
	for _, g := range r.Got {
		a, l := receiptErr(g.Receipt)
		arg = arg || a || g.Sent > maxTime
		long = long || l || len(g.Body) > maxBody
	}
	arg = arg || slices.ContainsFunc(r.About, rangeWrong)
	return verdict(arg, long)
}

// holdAgainst reads bytes as both, and holds what comes against the document's words; what is read must have just these bytes.
func holdAgainst(t *testing.T, b []byte) {
	t.Helper()
	r := &reading{b: b}
	c := r.cmd()
	if want := r.settle(cmdErr(c)); want != api.OK {
		wantReadCmd(t, "any", b, c, want)
	} else {
		wantReadCmd(t, "any", b, c, api.OK)
		if again, e := wire.Cmd(c); e != api.OK || !bytes.Equal(again, b) {
			t.Errorf("read from %x, written as %x, error %d", b, again, int(e))
		}
	}
	r = &reading{b: b}
	x := r.reply()
	if want := r.settle(replyErr(x)); want != api.OK {
		wantReadReply(t, "any", b, x, want)
	} else {
		wantReadReply(t, "any", b, x, api.OK)
		if again, e := wire.Reply(x); e != api.OK || !bytes.Equal(again, b) {
			t.Errorf("read from %x, written as %x, error %d", b, again, int(e))
		}
	}
}

// P5.2, P5.4: each byte of some changed to each other one.
func TestOneByteChanged(t *testing.T) {
	all := [][]byte{join(cmdParts(api.Cmd{})), join(replyParts(api.Reply{})), join(cmdParts(fullCmd())), join(replyParts(fullReply()))}
	for _, b := range all {
		for i := range b {
			for x := range 256 {
				d := slices.Clone(b)
				d[i] = byte(x)
				holdAgainst(t, d)
			}
		}
		if t.Failed() {
			return
		}
	}
}

// spoil changes bytes here and there: some other, gone, doubled or put between.
func spoil(chance *rand.Rand, b []byte) []byte {
	b = slices.Clone(b)
	for range chance.IntN(4) {
		at := chance.IntN(len(b) + 1)
		odd := []byte{0, 1, 2, 10, 11, 32, 33, 127, 128, 129, 255, byte(chance.IntN(256))}
		x := odd[chance.IntN(len(odd))]
		switch {
		case chance.IntN(3) == 0:
			b = slices.Insert(b, at, x)
		case at == len(b):
		case chance.IntN(3) == 0:
			b = slices.Delete(b, at, min(len(b), at+1+chance.IntN(3)))
		default:
			b[at] = x
		}
	}
	return b
}

// P5.2, P5.4
func TestSpoiltBytes(t *testing.T) {
	chance := rand.New(rand.NewPCG(5, 2))
	var all [][]byte
	for _, c := range samples() {
		all = append(all, join(cmdParts(c)))
	}
	for _, r := range sampleReplies() {
		all = append(all, join(replyParts(r)))
	}
	for range 30000 {
		holdAgainst(t, spoil(chance, all[chance.IntN(len(all))]))
		if t.Failed() {
			return
		}
	}
}

// P5.2, P5.4: short bytes, small ones among them often.
func TestBytesThatLookLikeChance(t *testing.T) {
	chance := rand.New(rand.NewPCG(5, 4))
	for range 100000 {
		b := make([]byte, chance.IntN(30))
		for i := range b {
			if b[i] = byte(chance.IntN(3)); chance.IntN(20) == 0 {
				b[i] = byte(chance.IntN(256))
			}
		}
		holdAgainst(t, b)
		if t.Failed() {
			return
		}
	}
}

// P5.1, P5.2, P5.4: commands and replies that look like chance, at and about the limits.
func TestManyCommandsAndReplies(t *testing.T) {
	chance := rand.New(rand.NewPCG(5, 1))
	num := func() int {
		some := []int{0, 1, 9, 10, 11, 128, maxTime - 1, maxTime, chance.IntN(maxTime)}
		if chance.IntN(40) == 0 {
			return maxTime + 1
		}
		return some[chance.IntN(len(some))]
	}
	name := func(limit int) string {
		if chance.IntN(40) == 0 {
			return text(limit + 1)
		}
		return text(chance.IntN(limit + 1))
	}
	places := func() api.Range {
		ends := []int{0, 1, 5, span - 1, span, span, span + 1}
		return from(ends[chance.IntN(3)], ends[2+chance.IntN(len(ends)-2)])
	}
	receipt := func() api.Receipt {
		return api.Receipt{Queue: num(), Group: name(maxName), Seq: num(), Count: num()}
	}
	for range 3000 {
		c := api.Cmd{
			Kind: chance.IntN(12), Client: num(), Num: num(), Time: num(), Queue: num(), Group: name(maxName), Body: name(maxBody), Token: name(maxName), Attempt: name(maxName),
			Max: num(), Secs: num(), Receipt: receipt(), Range: places(), To: num(),
		}
		r := api.Reply{Err: api.Errno(chance.IntN(258)), Seq: num(), N: num()}
		for range chance.IntN(4) {
			c.Data = append(c.Data, name(maxBody))
			r.Data = append(r.Data, name(maxBody))
			r.Got = append(r.Got, api.Got{Receipt: receipt(), Body: name(maxBody), Sent: num()})
			r.About = append(r.About, places())
		}
		wantCmd(t, "some", c, cmdErr(c))
		wantReply(t, "some", r, replyErr(r))
	}
}

// P5.3
func TestSame(t *testing.T) {
	for _, c := range append(samples(), longCmds()["list"], api.Cmd{Kind: -1, Client: math.MinInt, Range: from(9, 3), Group: text(9000)}) {
		d := c
		d.Data = slices.Clone(c.Data)
		if !wire.Same(c, c) || !wire.Same(c, d) || !wire.Same(d, c) {
			t.Errorf("not the same as itself: %+v", c)
		}
	}
	without, empty := fullCmd(), fullCmd()
	without.Data, empty.Data = nil, []string{}
	if !wire.Same(without, empty) || !wire.Same(empty, without) || !wire.Same(api.Cmd{}, api.Cmd{Data: []string{}}) {
		t.Error("Data nil and empty are not the same")
	}
	behind := fullCmd()
	behind.Data = behind.Data[:0]
	if !wire.Same(without, behind) {
		t.Error("Data with something behind its length is not the same as none")
	}
}

// P5.3: one part alone is another one.
func TestSameTellsEachPart(t *testing.T) {
	differ := func(name string, a, b api.Cmd) {
		t.Helper()
		if wire.Same(a, b) || wire.Same(b, a) {
			t.Errorf("%s: the same: %+v, %+v", name, a, b)
		}
	}
	for _, c := range []api.Cmd{fullCmd(), {Data: []string{""}}} {
		more := append(slices.Clone(cmdNums),
			named[*api.Cmd]{"Kind", func(c *api.Cmd) *int { return &c.Kind }},
			named[*api.Cmd]{"Lo", func(c *api.Cmd) *int { return &c.Range.Lo }},
			named[*api.Cmd]{"Hi", func(c *api.Cmd) *int { return &c.Range.Hi }})
		for _, f := range more {
			for _, n := range []int{-1, 100, 1 << 32, maxTime + 1, math.MinInt, math.MaxInt} {
				d := c
				*f.of(&d) += n
				differ(f.name, c, d)
			}
		}
		for _, f := range cmdTexts {
			d := c
			d.Data = slices.Clone(c.Data)
			*f.of(&d) += "x"
			differ(f.name, c, d)
			*f.of(&d) = text(9000)
			differ(f.name, c, d)
		}
		d := c
		d.Data = nil
		differ("Data nil", c, d)
		d.Data = append(slices.Clone(c.Data), "")
		differ("Data longer", c, d)
		d.Data = append([]string{""}, c.Data...)
		differ("Data longer at its beginning", c, d)
	}
	differ("order", api.Cmd{Data: []string{"a", "b"}}, api.Cmd{Data: []string{"b", "a"}})
	differ("cut elsewhere", api.Cmd{Data: []string{"ab", ""}}, api.Cmd{Data: []string{"a", "b"}})
	differ("another part", api.Cmd{Group: "a"}, api.Cmd{Token: "a"})
	differ("first one", api.Cmd{Data: []string{"a", "c"}}, api.Cmd{Data: []string{"b", "c"}})
}

// Rule 5: what is handed in stays as it is, and what is handed out is new memory.
func TestMemoryOfCommands(t *testing.T) {
	c := fullCmd()
	long := []string{"a", "b", "behind"}
	c.Data = long[:2]
	b, _ := wire.Cmd(c)
	was := slices.Clone(b)
	first, _ := wire.ReadCmd(b)
	second, e := wire.ReadCmd(b)
	first.Data[0] = "other"
	_ = append(first.Data, "more")
	if !bytes.Equal(b, was) || !slices.Equal(long, []string{"a", "b", "behind"}) {
		t.Error("what was handed in is changed")
	}
	clear(b)
	if e != api.OK || !sameCmd(second, c) {
		t.Errorf("goes with what was handed in or out: %+v", second)
	}
	if again, _ := wire.Cmd(c); !bytes.Equal(again, was) {
		t.Errorf("goes with what was handed out: %x", again)
	}
}

// Rule 5
func TestMemoryOfReplies(t *testing.T) {
	r := fullReply()
	b, _ := wire.Reply(r)
	was := slices.Clone(b)
	first, _ := wire.ReadReply(b)
	second, e := wire.ReadReply(b)
	first.Got[0].Body, first.Data[0], first.About[0].Lo = "other", "other", 1
	if !bytes.Equal(b, was) || !sameReply(r, fullReply()) {
		t.Error("what was handed in is changed")
	}
	clear(b)
	if e != api.OK || !sameReply(second, r) {
		t.Errorf("goes with what was handed in or out: %+v", second)
	}
	if again, _ := wire.Reply(r); !bytes.Equal(again, was) {
		t.Errorf("goes with what was handed out: %x", again)
	}
}
