package shard

import (
	"slices"

	"raceway/api"
	"raceway/octet"
	"raceway/place"
)

// head is what a dump's first text tells.
type head struct {
	slots, now int
	served     []api.Range
	sessions   int
}

// plainNums is how many numbers a head has beside those of its ranges.
const plainNums = 4

// Dump writes a shard; Load reads one.
func (s *Shard) Dump() ([]string, api.Errno) {
	if !s.isMade() {
		return nil, api.ErrNil
	}
	// What is told of a range is cut out: out of a copy.
	rest := s.state.copy()
	sessions := rest.sessions.All()
	h := head{rest.slots, rest.now, rest.engine.Served(), len(sessions)}
	first, e := writeNums(h.nums()...)
	if e != api.OK {
		return nil, e
	}
	texts := append([]string{first}, sessions...)
	for _, r := range h.served {
		groups, e := rest.engine.Cut(r)
		if e != api.OK {
			return nil, e
		}
		texts = append(texts, groups...)
	}
	return texts, api.OK
}

func Load(confs []api.Queue, data []string) (*Shard, api.Errno) {
	s, e := New(confs, nil)
	if e != api.OK {
		return nil, e
	}
	if !s.state.fill(data) {
		return nil, api.ErrForm
	}
	return s, api.OK
}

// Pack puts sessions and groups into one list; Unpack parts them.
func Pack(sessions, groups []string) []string {
	// No length is too great a number.
	first, _ := writeNums(len(sessions))
	return slices.Concat([]string{first}, sessions, groups)
}

func Unpack(data []string) (sessions, groups []string, e api.Errno) {
	if len(data) == 0 {
		return nil, nil, api.ErrForm
	}
	n, size, e := octet.ReadNum([]byte(data[0]))
	if e != api.OK || size < len(data[0]) || n > len(data)-1 {
		return nil, nil, api.ErrForm
	}
	sessions, groups = apart(data[1:], n)
	return slices.Clone(sessions), slices.Clone(groups), api.OK
}

// fill lets a state without anything have what a dump tells, and tells whether that may be. If not, it has some of it.
func (s *state) fill(data []string) bool {
	if len(data) == 0 {
		return false
	}
	h, ok := readHead(data[0])
	if !ok || h.sessions > len(data)-1 {
		return false
	}
	sessions, groups := apart(data[1:], h.sessions)
	parts, ok := shareOut(h.served, groups)
	if !ok || s.sessions.Merge(sessions) != api.OK {
		return false
	}
	for i, r := range h.served {
		if s.engine.Paste(r, parts[i]) != api.OK {
			return false
		}
	}
	s.slots, s.now = h.slots, h.now
	return true
}

// nums tells a head's numbers in the order of its text.
func (h head) nums() []int {
	l := []int{h.slots, h.now, len(h.served)}
	for _, r := range h.served {
		l = append(l, r.Lo, r.Hi)
	}
	return append(l, h.sessions)
}

// readHead leaves it to the engine whether the ranges may be.
func readHead(text string) (head, bool) {
	l, e := readNums(text)
	if e != api.OK || len(l) < plainNums || slices.Max(l) > api.MaxTime || len(l)-plainNums != 2*l[2] {
		return head{}, false
	}
	last := len(l) - 1
	h := head{slots: l[0], now: l[1], sessions: l[last]}
	for pair := range slices.Chunk(l[3:last:last], 2) {
		h.served = append(h.served, api.Range{Lo: pair[0], Hi: pair[1]})
	}
	return h, true
}

// shareOut gives each group's text to the range in which its place is, and tells whether there is one for each.
func shareOut(ranges []api.Range, texts []string) ([][]string, bool) {
	parts := make([][]string, len(ranges))
	for _, text := range texts {
		name, e := nameOf(text)
		at := place.Find(ranges, place.Of(name))
		if e != api.OK || at < 0 {
			return nil, false
		}
		parts[at] = append(parts[at], text)
	}
	return parts, true
}

// nameOf tells a group's name by the text that an engine has told: a queue stands ahead of it.
func nameOf(text string) (string, api.Errno) {
	b := []byte(text)
	_, size, e := octet.ReadNum(b)
	if e != api.OK {
		return "", e
	}
	name, _, e := octet.ReadText(b[size:])
	return name, e
}

// apart takes the first n texts off a list. Neither piece reaches into the other's memory, whatever is appended to it.
func apart(l []string, n int) (first, rest []string) {
	return l[:n:n], l[n:len(l):len(l)]
}

func writeNums(l ...int) (string, api.Errno) {
	var b []byte
	for _, n := range l {
		part, e := octet.Num(nil, n)
		if e != api.OK {
			return "", e
		}
		b = append(b, part...)
	}
	return string(b), api.OK
}

// readNums reads all the numbers that a text is made of.
func readNums(text string) ([]int, api.Errno) {
	var l []int
	for b := []byte(text); len(b) > 0; {
		n, size, e := octet.ReadNum(b)
		if e != api.OK {
			return nil, e
		}
		l, b = append(l, n), b[size:]
	}
	return l, api.OK
}
