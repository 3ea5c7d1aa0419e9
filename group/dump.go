package group

import (
	"raceway/api"
	"raceway/octet"
)

// Dump writes a group; Load reads one; Same holds two against each other.
func Dump(g api.Group) (string, api.Errno) {
	var w writer
	w.nums(g.Next, len(g.Kept))
	for _, m := range g.Kept {
		w.nums(m.Seq, m.Sent, m.Count, m.Until, m.From)
		w.text(m.Body)
	}
	w.nums(len(g.Marks))
	for _, m := range g.Marks {
		w.text(m.Token)
		w.nums(m.Seq, m.At)
	}
	w.text(g.Attempt)
	// A part's own error goes ahead of what all parts together are.
	if w.fault == api.OK && len(w.bytes) > api.MaxText {
		w.fault = api.ErrLong
	}
	if w.fault != api.OK {
		return "", w.fault
	}
	return string(w.bytes), api.OK
}

func Load(s string) (api.Group, api.Errno) {
	r := reader{rest: []byte(s)}
	// Go calls in the order in which the fields stand here, which is that of the bytes.
	g := api.Group{Next: r.num(), Kept: list(&r, r.message), Marks: list(&r, r.mark), Attempt: r.text()}
	if len(r.rest) > 0 {
		r.stop(api.ErrForm)
	}
	if r.fault != api.OK {
		return api.Group{}, r.fault
	}
	return g, api.OK
}

func Same(a, b api.Group) bool {
	return a.Next == b.Next && a.Attempt == b.Attempt && sameList(a.Kept, b.Kept) && sameList(a.Marks, b.Marks)
}

// sameList holds lists against each other, item by item: one that is nil and one without items are the same.
func sameList[T comparable](a, b []T) bool {
	if len(a) != len(b) {
		return false
	}
	for i, x := range a {
		if x != b[i] {
			return false
		}
	}
	return true
}

// writer keeps the first error, so that Dump can name its parts one behind the other.
type writer struct {
	bytes []byte
	fault api.Errno
}

func (w *writer) add(part []byte, e api.Errno) {
	if w.fault != api.OK {
		return
	}
	w.bytes, w.fault = append(w.bytes, part...), e
}

func (w *writer) nums(l ...int) {
	for _, n := range l {
		w.add(octet.Num(nil, n))
	}
}

func (w *writer) text(s string) {
	w.add(octet.Text(nil, s))
}

// reader keeps the first error; from then on nothing is left to read, and every part is its zero value.
type reader struct {
	rest  []byte
	fault api.Errno
}

func (r *reader) stop(why api.Errno) {
	if r.fault == api.OK {
		r.fault = why
	}
	r.rest = nil
}

func (r *reader) num() int     { return part(r, octet.ReadNum) }
func (r *reader) text() string { return part(r, octet.ReadText) }

func (r *reader) message() api.Kept {
	return api.Kept{Seq: r.num(), Sent: r.num(), Count: r.num(), Until: r.num(), From: r.num(), Body: r.text()}
}

func (r *reader) mark() api.Mark {
	return api.Mark{Token: r.text(), Seq: r.num(), At: r.num()}
}

// part reads one part by a reader of octet.
func part[T any](r *reader, read func([]byte) (T, int, api.Errno)) T {
	x, size, e := read(r.rest)
	if e != api.OK {
		r.stop(e)
		return x
	}
	r.rest = r.rest[size:]
	return x
}

// list reads how many items there are, and each by one.
func list[T any](r *reader, one func() T) []T {
	count := r.num()
	if count > api.MaxItems {
		r.stop(api.ErrLong)
		return nil
	}
	var l []T
	for range count {
		l = append(l, one())
	}
	return l
}
