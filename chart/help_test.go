package chart_test

import (
	"fmt"
	"slices"
	"strconv"
	"testing"

	"raceway/api"
	"raceway/chart"
)

// The document's limits, apart from the packages that are tested.
const (
	span       = 65536
	maxTime    = 1 << 40
	maxNum     = 1 << 62
	maxShards  = 6
	maxClients = 64
	lastKind   = 10
)

func from(lo, hi int) api.Range { return api.Range{Lo: lo, Hi: hi} }

// charted makes a chart of an epoch whose pieces go from one border to the next: {epoch, border, shard, border, shard, .., border}.
func charted(epoch int, l ...int) api.Chart {
	c := api.Chart{Epoch: epoch}
	for i := 0; i+2 < len(l); i += 2 {
		c.Pieces = append(c.Pieces, api.Piece{Range: from(l[i], l[i+2]), Shard: l[i+1]})
	}
	return c
}

// pieces makes a chart of any pieces: {lo, hi, shard, lo, hi, shard, ..}.
func pieces(epoch int, l ...int) api.Chart {
	c := api.Chart{Epoch: epoch}
	for i := 0; i+2 < len(l); i += 3 {
		c.Pieces = append(c.Pieces, api.Piece{Range: from(l[i], l[i+1]), Shard: l[i+2]})
	}
	return c
}

// comb is a chart with as many pieces as there are places.
func comb(epoch int) api.Chart {
	c := api.Chart{Epoch: epoch}
	for p := range span {
		c.Pieces = append(c.Pieces, api.Piece{Range: from(p, p+1), Shard: 1 + p%2})
	}
	return c
}

// rightCharts has charts that may be.
func rightCharts() []api.Chart {
	return []api.Chart{
		charted(1, 0, 1, span),
		charted(1, 0, 6, span),
		charted(2, 0, 1, 32768, 2, span),
		charted(300, 0, 2, 32768, 1, span),
		charted(7, 0, 1, 100, 3, 21845, 1, 30000, 2, 43690, 3, span),
		charted(maxTime-1, 0, 1, 1, 2, 2, 1, 65535, 6, span),
		charted(maxTime, 0, 1, 10922, 2, 21845, 3, 32768, 4, 43690, 5, 54613, 6, span),
		charted(9, 0, 6, 1000, 5, 2000, 4, 3000, 3, 4000, 2, 5000, 1, 6000, 2, 7000, 6, span),
		comb(5),
	}
}

// wrongCharts has charts that may not be, for each reason that the document names.
func wrongCharts() map[string]api.Chart {
	return map[string]api.Chart{
		"nothing":                      {},
		"no pieces":                    {Epoch: 1},
		"no pieces, a list":            {Epoch: 1, Pieces: []api.Piece{}},
		"epoch 0":                      charted(0, 0, 1, span),
		"epoch -1":                     charted(-1, 0, 1, span),
		"epoch 2^40 + 1":               charted(maxTime+1, 0, 1, span),
		"the least epoch":              charted(-1<<63, 0, 1, span),
		"the greatest epoch":           charted(1<<63-1, 0, 1, span),
		"shard 0":                      charted(1, 0, 0, span),
		"shard 7":                      charted(1, 0, 7, span),
		"shard -1":                     charted(1, 0, -1, span),
		"shard 0 at the beginning":     charted(1, 0, 0, 10, 1, span),
		"shard 7 at the end":           charted(1, 0, 1, 10, 7, span),
		"shard 0 in the midst":         charted(1, 0, 1, 10, 0, 20, 1, span),
		"they fall":                    pieces(1, 100, span, 1, 0, 100, 2),
		"the last two fall":            pieces(1, 0, 100, 1, 200, span, 1, 100, 200, 2),
		"a gap":                        pieces(1, 0, 100, 1, 101, span, 2),
		"a gap at the beginning":       pieces(1, 1, span, 1),
		"a gap at the end":             pieces(1, 0, span-1, 1),
		"they meet":                    pieces(1, 0, 101, 1, 100, span, 2),
		"one twice":                    pieces(1, 0, span, 1, 0, span, 2),
		"one within the other":         pieces(1, 0, span, 1, 5, 6, 2),
		"two touch, to one shard":      charted(1, 0, 1, 100, 1, span),
		"the last touch, to one shard": charted(1, 0, 1, 100, 2, 200, 2, span),
		"an empty piece":               pieces(1, 0, 100, 1, 100, 100, 3, 100, span, 2),
		"an empty range ahead":         pieces(1, 0, 0, 3, 0, span, 2),
		"a piece upside down":          pieces(1, 0, 100, 1, 200, 100, 3, 100, span, 2),
		"beyond the last place":        pieces(1, 0, span+1, 1),
		"behind the last place":        pieces(1, 0, span, 1, span, span+1, 2),
		"below the first place":        pieces(1, -1, span, 1),
		"ahead of the first place":     pieces(1, -5, 0, 2, 0, span, 1),
		"as wide as can be":            pieces(1, -1<<63, 1<<63-1, 1),
	}
}

// wrongRanges has ranges that may not be, and that a command may have (the first one) or not.
var wrongRanges = []api.Range{
	from(0, 0), from(7, 7), from(9, 3), from(0, span+1), from(span, span), from(span, span+1), from(span, 0),
	from(-1, 5), from(-5, -1), from(-1<<63, 1<<63-1), from(1<<63-1, -1<<63),
}

// wrongShards has numbers that no shard has.
var wrongShards = []int{0, 7, -1, 8, 300, maxTime, -1 << 63, 1<<63 - 1}

// num is octet's words of a number.
func num(n int) string {
	s := ""
	for ; n > 127; n /= 128 {
		s += string([]byte{byte(128 + n%128)})
	}
	return s + string([]byte{byte(n)})
}

func nums(l ...int) string {
	var b []byte
	for _, n := range l {
		b = append(b, num(n)...)
	}
	return string(b)
}

func text(s string) string { return num(len(s)) + s }

// chartText is the document's words of a chart's Dump, whether or not it may be.
func chartText(c api.Chart) string {
	l := []int{c.Epoch, len(c.Pieces)}
	for _, p := range c.Pieces {
		l = append(l, p.Range.Lo, p.Range.Hi, p.Shard)
	}
	return nums(l...)
}

// value is wire's words of a command, whether or not it may be.
func value(c api.Cmd) []byte {
	s := nums(c.Kind, c.Client, c.Num, c.Time, c.Queue) + text(c.Group) + text(c.Body) + text(c.Token) + text(c.Attempt) +
		nums(c.Max, c.Secs, c.Receipt.Queue) + text(c.Receipt.Group) + nums(c.Receipt.Seq, c.Receipt.Count, c.Range.Lo, c.Range.Hi, c.To, len(c.Data))
	for _, d := range c.Data {
		s += text(d)
	}
	return []byte(s)
}

func sameChart(a, b api.Chart) bool {
	return a.Epoch == b.Epoch && slices.Equal(a.Pieces, b.Pieces)
}

func sameReply(a, b api.Reply) bool {
	return a.Err == b.Err && a.Seq == b.Seq && a.N == b.N && slices.Equal(a.Got, b.Got) && slices.Equal(a.Data, b.Data) && slices.Equal(a.About, b.About)
}

func sameDone(a, b api.Done) bool {
	return a.Slot == b.Slot && a.Time == b.Time && string(value(a.Cmd)) == string(value(b.Cmd)) && sameReply(a.Reply, b.Reply) && a.Fresh == b.Fresh
}

// brief tells something in one line, whatever it has in it.
func brief(x any) string {
	s := strconv.QuoteToASCII(fmt.Sprintf("%+v", x))
	return s[:min(len(s), 600)]
}

func wantError(t *testing.T, name string, got, want api.Errno) {
	t.Helper()
	if got != want {
		t.Errorf("%s: error %d, not %d", name, int(got), int(want))
	}
}

func wantChart(t *testing.T, name string, got, want api.Chart) {
	t.Helper()
	if !sameChart(got, want) {
		t.Errorf("%s: it is\n%s, not\n%s", name, brief(got), brief(want))
	}
}

func wantDone(t *testing.T, name string, got, want api.Done) {
	t.Helper()
	if !sameDone(got, want) {
		t.Errorf("%s: it tells\n%s, not\n%s", name, brief(got), brief(want))
	}
}

func wantTexts(t *testing.T, name string, got []string, want ...string) {
	t.Helper()
	if !slices.Equal(got, want) {
		t.Errorf("%s: it tells\n%s, not\n%s", name, brief(got), brief(want))
	}
}

var strayPiece = api.Piece{Range: from(777, 7777), Shard: 5}

// spare gives a list with memory behind it that is not the callee's.
func spare[T any](l []T, stray T) []T {
	return append(slices.Clone(l), stray, stray)[:len(l)]
}

// isSpare tells whether a list, and the memory behind it, is as spare made it.
func isSpare[T comparable](l, was []T, stray T) bool {
	return slices.Equal(l[:len(l)+2], append(slices.Clone(was), stray, stray))
}

// spoil writes over all the memory that a list has.
func spoil[T any](l []T, with T) {
	l = l[:cap(l)]
	for i := range l {
		l[i] = with
	}
}

// lent hands a chart to a call, checks that the call leaves it as it was, and writes over it then.
func lent(t *testing.T, c api.Chart, call func(api.Chart)) {
	t.Helper()
	handed := api.Chart{Epoch: c.Epoch, Pieces: spare(c.Pieces, strayPiece)}
	call(handed)
	if !isSpare(handed.Pieces, c.Pieces, strayPiece) {
		t.Errorf("%s: what was handed in is changed", brief(c))
	}
	spoil(handed.Pieces, strayPiece)
}

// move moves a range; neither what is handed in nor what lies behind it is in what is told.
func move(t *testing.T, c api.Chart, r api.Range, to int) (got api.Chart, e api.Errno) {
	t.Helper()
	lent(t, c, func(c api.Chart) { got, e = chart.Move(c, r, to) })
	if slices.Contains(got.Pieces[:cap(got.Pieces)], strayPiece) {
		t.Errorf("Move of %v to %d: what lay behind the list is handed out, or the list is kept", r, to)
	}
	return got, e
}

// must moves what may be moved.
func must(t *testing.T, c api.Chart, r api.Range, to int) api.Chart {
	t.Helper()
	got, e := move(t, c, r, to)
	if e != api.OK {
		t.Fatalf("Move of %v to %d in %s: error %d", r, to, brief(c), int(e))
	}
	return got
}

// sheet is a chart in plain words: an epoch, and who serves each place.
type sheet struct {
	epoch  int
	serves []int
}

func sheetOf(c api.Chart) sheet {
	s := sheet{c.Epoch, make([]int, span)}
	for _, p := range c.Pieces {
		for at := p.Range.Lo; at < p.Range.Hi; at++ {
			s.serves[at] = p.Shard
		}
	}
	return s
}

// move tells the sheet behind a move, if its range, its shard and the sheet's epoch let it be.
func (s sheet) move(r api.Range, to int) (sheet, api.Errno) {
	if r.Lo < 0 || r.Hi > span || r.Lo >= r.Hi || to < 1 || to > maxShards {
		return s, api.ErrArg
	}
	next := sheet{s.epoch, slices.Clone(s.serves)}
	for at := r.Lo; at < r.Hi; at++ {
		next.serves[at] = to
	}
	if slices.Equal(next.serves, s.serves) {
		return s, api.OK
	}
	if s.epoch == maxTime {
		return s, api.ErrFull
	}
	next.epoch++
	return next, api.OK
}

func (s sheet) chart() api.Chart {
	c := api.Chart{Epoch: s.epoch}
	lo := 0
	for at := 1; at <= span; at++ {
		if at == span || s.serves[at] != s.serves[lo] {
			c.Pieces = append(c.Pieces, api.Piece{Range: from(lo, at), Shard: s.serves[lo]})
			lo = at
		}
	}
	return c
}
