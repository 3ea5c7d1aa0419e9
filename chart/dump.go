package chart

import (
	"slices"

	"raceway/api"
	"raceway/octet"
)

// A chart's text has two numbers ahead of its pieces, and three of each piece.
const (
	chartNums = 2
	pieceNums = 3
)

// Dump writes a chart; Load reads one.
func Dump(c api.Chart) (string, api.Errno) {
	if !May(c) {
		return "", api.ErrArg
	}
	l := []int{c.Epoch, len(c.Pieces)}
	for _, p := range c.Pieces {
		l = append(l, p.Range.Lo, p.Range.Hi, p.Shard)
	}
	return textOf(l), api.OK
}

func Load(s string) (api.Chart, api.Errno) {
	l, ok := numsOf(s)
	if !ok || len(l) < chartNums {
		return api.Chart{}, api.ErrForm
	}
	c := api.Chart{Epoch: l[0]}
	for p := range slices.Chunk(l[chartNums:], pieceNums) {
		if len(p) < pieceNums {
			return api.Chart{}, api.ErrForm
		}
		c.Pieces = append(c.Pieces, api.Piece{Range: api.Range{Lo: p[0], Hi: p[1]}, Shard: p[2]})
	}
	if len(c.Pieces) != l[1] || !May(c) {
		return api.Chart{}, api.ErrForm
	}
	return c, api.OK
}

// textOf writes numbers one behind the other. All that a chart or a machine has may be written.
func textOf(l []int) string {
	var b []byte
	for _, n := range l {
		one, _ := octet.Num(nil, n)
		b = append(b, one...)
	}
	return string(b)
}

// numsOf reads the numbers that a text is made of, and tells whether it is made of such alone.
func numsOf(s string) (l []int, ok bool) {
	for b := []byte(s); len(b) > 0; {
		n, size, e := octet.ReadNum(b)
		if e != api.OK {
			return nil, false
		}
		l, b = append(l, n), b[size:]
	}
	return l, true
}
