package chart_test

import (
	"fmt"
	"slices"
	"testing"

	"raceway/api"
	"raceway/chart"
)

// P15.1
func TestFirst(t *testing.T) {
	for shards, want := range map[int]api.Chart{
		1: charted(1, 0, 1, span),
		2: charted(1, 0, 1, 32768, 2, span),
		3: charted(1, 0, 1, 21845, 2, 43690, 3, span),
		4: charted(1, 0, 1, 16384, 2, 32768, 3, 49152, 4, span),
		5: charted(1, 0, 1, 13107, 2, 26214, 3, 39321, 4, 52428, 5, span),
		6: charted(1, 0, 1, 10922, 2, 21845, 3, 32768, 4, 43690, 5, 54613, 6, span),
	} {
		got, e := chart.First(shards)
		wantError(t, fmt.Sprint("First of ", shards), e, api.OK)
		wantChart(t, fmt.Sprint("First of ", shards), got, want)
		if !chart.May(got) {
			t.Errorf("First of %d may not be: %s", shards, brief(got))
		}
		spoil(got.Pieces, strayPiece)
		again, _ := chart.First(shards)
		wantChart(t, fmt.Sprint("First of ", shards, ", once more"), again, want)
	}
}

// P15.1, P15.5: and no machine either.
func TestFirstRefuses(t *testing.T) {
	for _, shards := range wrongShards {
		name := fmt.Sprint("of ", shards, " shards")
		c, e := chart.First(shards)
		wantError(t, name, e, api.ErrArg)
		wantChart(t, name, c, api.Chart{})
		m, e := chart.New(shards)
		wantError(t, name, e, api.ErrArg)
		if m != nil {
			t.Errorf("%s: a machine", name)
		}
	}
}

// P15.2
func TestMay(t *testing.T) {
	for _, c := range rightCharts() {
		lent(t, c, func(c api.Chart) {
			if !chart.May(c) {
				t.Errorf("%s may not be", brief(c))
			}
		})
	}
	for name, c := range wrongCharts() {
		lent(t, c, func(c api.Chart) {
			if chart.May(c) {
				t.Errorf("%s: it may be: %s", name, brief(c))
			}
		})
	}
}

// P15.2: each number of a right chart, one by one, set to others.
func TestMayLooksAtEachNumber(t *testing.T) {
	right := charted(4, 0, 1, 100, 2, 200, 1, span)
	for i := range right.Pieces {
		for _, d := range []int{-1, 1, span, -span, maxTime} {
			for _, change := range []func(*api.Piece){
				func(p *api.Piece) { p.Range.Lo += d },
				func(p *api.Piece) { p.Range.Hi += d },
				func(p *api.Piece) { p.Range.Lo, p.Range.Hi = p.Range.Lo+d, p.Range.Hi+d },
			} {
				c := api.Chart{Epoch: 4, Pieces: slices.Clone(right.Pieces)}
				change(&c.Pieces[i])
				if chart.May(c) {
					t.Errorf("%s may be", brief(c))
				}
			}
		}
		for shard := -1; shard <= 8; shard++ {
			c := api.Chart{Epoch: 4, Pieces: slices.Clone(right.Pieces)}
			c.Pieces[i].Shard = shard
			want := shard >= 1 && shard <= maxShards
			for j, p := range right.Pieces {
				want = want && (j != i-1 && j != i+1 || p.Shard != shard)
			}
			if chart.May(c) != want {
				t.Errorf("%s: May tells %v", brief(c), !want)
			}
		}
	}
}

// P15.2
func TestOf(t *testing.T) {
	for _, c := range rightCharts() {
		s := sheetOf(c)
		places := []int{0, 1, span/2 - 1, span / 2, span - 2, span - 1}
		for _, p := range c.Pieces[:min(len(c.Pieces), 20)] {
			places = append(places, p.Range.Lo, p.Range.Hi-1)
		}
		lent(t, c, func(c api.Chart) {
			for _, p := range places {
				if got := chart.Of(c, p); got != s.serves[p] {
					t.Errorf("%s: %d serves %d, not %d", brief(c), got, p, s.serves[p])
				}
			}
			for _, p := range []int{-1, -2, span, span + 1, maxTime, -1 << 63, 1<<63 - 1} {
				if got := chart.Of(c, p); got != 0 {
					t.Errorf("%s: %d serves %d", brief(c), got, p)
				}
			}
		})
	}
}

// P15.2
func TestShardsAndRanges(t *testing.T) {
	for _, c := range rightCharts() {
		s := sheetOf(c)
		var want []int
		for shard := 1; shard <= maxShards; shard++ {
			if slices.Contains(s.serves, shard) {
				want = append(want, shard)
			}
		}
		lent(t, c, func(c api.Chart) {
			if got := chart.Shards(c); !slices.Equal(got, want) {
				t.Errorf("%s: Shards tells %v, not %v", brief(c), got, want)
			}
		})
		for shard := -1; shard <= maxShards+2; shard++ {
			var want []api.Range
			for _, p := range c.Pieces {
				if p.Shard == shard {
					want = append(want, p.Range)
				}
			}
			lent(t, c, func(c api.Chart) {
				got := chart.Ranges(c, shard)
				spoil(got, from(5, 6))
				if got = chart.Ranges(c, shard); !slices.Equal(got, want) {
					t.Errorf("%s: Ranges of %d tells %s, not %s", brief(c), shard, brief(got), brief(want))
				}
			})
		}
	}
}

// P15.2: of charts that may not be, what their pieces say; where they say nothing, nobody serves anything.
func TestLookingAtWrongCharts(t *testing.T) {
	for name, c := range wrongCharts() {
		lent(t, c, func(c api.Chart) {
			shards := chart.Shards(c)
			if !slices.IsSorted(shards) || len(slices.Compact(slices.Clone(shards))) != len(shards) || slices.Contains(shards, 0) {
				t.Errorf("%s: Shards tells %v", name, shards)
			}
			for shard := -1; shard <= 8; shard++ {
				if (len(chart.Ranges(c, shard)) > 0) != slices.Contains(shards, shard) {
					t.Errorf("%s: Shards tells %v, Ranges of %d %v", name, shards, shard, chart.Ranges(c, shard))
				}
			}
			for _, p := range []int{-1, 0, 5, 100, 150, span - 1, span} {
				if got := chart.Of(c, p); got != 0 && (p < 0 || p >= span || !slices.Contains(shards, got)) {
					t.Errorf("%s: Of tells that %d serves %d", name, got, p)
				}
			}
		})
	}
	gap := pieces(1, 0, 100, 4, 101, span, 2)
	if chart.Of(gap, 99) != 4 || chart.Of(gap, 100) != 0 || chart.Of(gap, 101) != 2 || !slices.Equal(chart.Shards(gap), []int{2, 4}) {
		t.Errorf("a gap: %v, and %d serves it", chart.Shards(gap), chart.Of(gap, 100))
	}
	if falls := pieces(1, 100, span, 1, 0, 100, 2); chart.Of(falls, 99) != 2 || chart.Of(falls, 100) != 1 {
		t.Errorf("pieces that fall: %d serves 99, %d serves 100", chart.Of(falls, 99), chart.Of(falls, 100))
	}
	if nothing := pieces(1, 7, 7, 1, 9, 8, 2); len(chart.Shards(nothing)) > 0 || len(chart.Ranges(nothing, 1)) > 0 || chart.Of(nothing, 7) != 0 {
		t.Errorf("pieces without a place: %v serve something", chart.Shards(nothing))
	}
}

// P15.2
func TestSame(t *testing.T) {
	all := rightCharts()
	for _, c := range wrongCharts() {
		all = append(all, c)
	}
	all = append(all, charted(2, 0, 1, span), charted(1, 0, 2, span), charted(2, 0, 1, 32769, 2, span), charted(2, 0, 1, 32768, 3, span), charted(7, 0, 1, 100, 3, 21845, 1, 30000, 2, 43690, 1, span), pieces(2, 0, 32768, 1))
	for i, a := range all {
		for j, b := range all {
			want := chartText(a) == chartText(b) && a.Epoch == b.Epoch
			lent(t, a, func(a api.Chart) {
				lent(t, b, func(b api.Chart) {
					if got := chart.Same(a, b); got != want || i == j && !got {
						t.Errorf("Same of %s and %s tells %v", brief(a), brief(b), got)
					}
				})
			})
		}
	}
}

// P15.3: each move's chart is written out.
func TestMove(t *testing.T) {
	for _, c := range []struct {
		name string
		is   api.Chart
		r    api.Range
		to   int
		want api.Chart
	}{
		{"the beginning of a piece", charted(1, 0, 1, span), from(0, 10), 2, charted(2, 0, 2, 10, 1, span)},
		{"the end of a piece", charted(1, 0, 1, span), from(10, span), 2, charted(2, 0, 1, 10, 2, span)},
		{"the midst of a piece", charted(1, 0, 1, span), from(10, 20), 2, charted(2, 0, 1, 10, 2, 20, 1, span)},
		{"one place", charted(1, 0, 1, span), from(10, 11), 6, charted(2, 0, 1, 10, 6, 11, 1, span)},
		{"the first place", charted(1, 0, 1, span), from(0, 1), 6, charted(2, 0, 6, 1, 1, span)},
		{"the last place", charted(1, 0, 1, span), from(span-1, span), 6, charted(2, 0, 1, span-1, 6, span)},
		{"all places of one shard", charted(1, 0, 1, span), from(0, span), 2, charted(2, 0, 2, span)},
		{"all places of three", charted(8, 0, 1, 10, 2, 20, 3, span), from(0, span), 5, charted(9, 0, 5, span)},
		{"all places to one of them", charted(8, 0, 1, 10, 2, 20, 3, span), from(0, span), 2, charted(9, 0, 2, span)},
		{"a whole piece to a new shard", charted(3, 0, 1, 10, 2, 20, 3, span), from(10, 20), 4, charted(4, 0, 1, 10, 4, 20, 3, span)},
		{"a whole piece to who is ahead", charted(3, 0, 1, 10, 2, 20, 3, span), from(10, 20), 1, charted(4, 0, 1, 20, 3, span)},
		{"a whole piece to who is behind", charted(3, 0, 1, 10, 2, 20, 3, span), from(10, 20), 3, charted(4, 0, 1, 10, 3, span)},
		{"a whole piece between two of one", charted(3, 0, 1, 10, 2, 20, 1, span), from(10, 20), 1, charted(4, 0, 1, span)},
		{"the first piece", charted(3, 0, 1, 10, 2, 20, 3, span), from(0, 10), 2, charted(4, 0, 2, 20, 3, span)},
		{"the last piece", charted(3, 0, 1, 10, 2, 20, 3, span), from(20, span), 2, charted(4, 0, 1, 10, 2, span)},
		{"the end of one to the next one", charted(3, 0, 1, 10, 2, span), from(5, 10), 2, charted(4, 0, 1, 5, 2, span)},
		{"the beginning of one to the one ahead", charted(3, 0, 1, 10, 2, span), from(10, 15), 1, charted(4, 0, 1, 15, 2, span)},
		{"parts of two to the first", charted(3, 0, 1, 10, 2, span), from(5, 15), 1, charted(4, 0, 1, 15, 2, span)},
		{"parts of two to the second", charted(3, 0, 1, 10, 2, span), from(5, 15), 2, charted(4, 0, 1, 5, 2, span)},
		{"parts of two to a third", charted(3, 0, 1, 10, 2, span), from(5, 15), 3, charted(4, 0, 1, 5, 3, 15, 2, span)},
		{"parts of four, two of them whole", charted(3, 0, 1, 10, 2, 20, 3, 30, 4, span), from(5, 35), 6, charted(4, 0, 1, 5, 6, 35, 4, span)},
		{"parts of four to one in the midst", charted(3, 0, 1, 10, 2, 20, 3, 30, 4, span), from(5, 35), 3, charted(4, 0, 1, 5, 3, 35, 4, span)},
		{"two whole ones, between their next ones", charted(3, 0, 5, 10, 2, 20, 3, 30, 5, span), from(10, 30), 5, charted(4, 0, 5, span)},
		{"that it is elsewhere counts for nothing", charted(3, 0, 1, 10, 2, 20, 1, 30, 2, span), from(12, 18), 1, charted(4, 0, 1, 10, 2, 12, 1, 18, 2, 20, 1, 30, 2, span)},
		{"to the epoch 2^40", charted(maxTime-1, 0, 1, span), from(0, 10), 2, charted(maxTime, 0, 2, 10, 1, span)},
		{"many pieces at once", comb(5), from(0, span), 1, charted(6, 0, 1, span)},
		{"all but the ends of many", comb(5), from(1, span-1), 3, charted(6, 0, 1, 1, 3, span-1, 2, span)},
	} {
		got, e := move(t, c.is, c.r, c.to)
		wantError(t, c.name, e, api.OK)
		wantChart(t, c.name, got, c.want)
		spoil(got.Pieces, strayPiece)
		again, _ := move(t, c.is, c.r, c.to)
		wantChart(t, c.name+", once more", again, c.want)
	}
}

// P15.3: the chart as it was, its epoch, too, even if that could not be one more.
func TestMoveToWhoHasItAlready(t *testing.T) {
	for _, c := range rightCharts() {
		for _, p := range c.Pieces[:min(len(c.Pieces), 9)] {
			r := p.Range
			for _, part := range []api.Range{r, from(r.Lo, r.Lo+1), from(r.Hi-1, r.Hi), from((r.Lo+r.Hi)/2, r.Hi)} {
				got, e := move(t, c, part, p.Shard)
				wantError(t, fmt.Sprint("Move of ", part, " to ", p.Shard), e, api.OK)
				wantChart(t, fmt.Sprint("Move of ", part, " to ", p.Shard), got, c)
				spoil(got.Pieces, strayPiece)
				wantChart(t, "what is told is the caller's list", c, charted(c.Epoch, borders(c)...))
			}
		}
	}
}

// borders tells a right chart as charted is told it.
func borders(c api.Chart) []int {
	var l []int
	for _, p := range c.Pieces {
		l = append(l, p.Range.Lo, p.Shard)
	}
	return append(l, span)
}

// P15.3
func TestMoveRefuses(t *testing.T) {
	refuse := func(name string, c api.Chart, r api.Range, to int, want api.Errno) {
		t.Helper()
		got, e := move(t, c, r, to)
		wantError(t, name, e, want)
		wantChart(t, name, got, api.Chart{})
	}
	for name, c := range wrongCharts() {
		refuse(name, c, from(0, 10), 2, api.ErrArg)
		refuse(name, c, from(0, span), 1, api.ErrArg)
	}
	for _, c := range rightCharts() {
		for _, r := range wrongRanges {
			for _, to := range []int{1, 6, 0, 7} {
				refuse(fmt.Sprint("Move of ", r), c, r, to, api.ErrArg)
			}
		}
		for _, to := range wrongShards {
			refuse(fmt.Sprint("Move to ", to), c, from(0, 10), to, api.ErrArg)
			refuse(fmt.Sprint("Move to ", to), c, from(0, span), to, api.ErrArg)
		}
	}
	last := charted(maxTime, 0, 1, 100, 2, span)
	refuse("at the last epoch", last, from(0, 100), 2, api.ErrFull)
	refuse("at the last epoch", last, from(0, 101), 1, api.ErrFull)
	refuse("at the last epoch", last, from(0, span), 3, api.ErrFull)
	refuse("at the last epoch, a wrong range", last, from(5, 5), 3, api.ErrArg)
	refuse("at the last epoch, a wrong shard", last, from(0, 5), 7, api.ErrArg)
}

// P15.3, P15.7: all ranges whose ends lie at, or beside, a border.
func TestMoveAtAllBorders(t *testing.T) {
	is := charted(3, 0, 1, 100, 2, 200, 3, 201, 1, 300, 2, span)
	was := sheetOf(is)
	ends := []int{0, 1, 99, 100, 101, 199, 200, 201, 202, 299, 300, 301, span - 1, span}
	for i, lo := range ends {
		for _, hi := range ends[i+1:] {
			for to := 1; to <= 4; to++ {
				next, _ := was.move(from(lo, hi), to)
				wantChart(t, fmt.Sprintf("Move of {%d, %d} to %d", lo, hi, to), must(t, is, from(lo, hi), to), next.chart())
			}
		}
	}
}

// The chapter's example.
func TestExample(t *testing.T) {
	c, _ := chart.First(2)
	wantChart(t, "First(2)", c, pieces(1, 0, 32768, 1, 32768, 65536, 2))
	c = must(t, c, from(40000, 65536), 1)
	wantChart(t, "to 1", c, pieces(2, 0, 32768, 1, 32768, 40000, 2, 40000, 65536, 1))
	c = must(t, c, from(40000, 65536), 2)
	wantChart(t, "back to 2", c, pieces(3, 0, 32768, 1, 32768, 65536, 2))
}
