package wire

import (
	"raceway/api"
	"raceway/octet"
)

// reader is what is left to read. It stops by a panic, so that no part has to hand on an error of the parts in it.
type reader struct{ rest []byte }

// stop is what a reader panics with: a type of its own, so that nothing else is taken for it.
type stop struct{ why api.Errno }

// whole reads what all that is left is the bytes of, if that may be.
func whole[T any](r *reader, read func() T, check func(T) api.Errno) (x T, e api.Errno) {
	defer func() {
		if fault := recover(); fault != nil {
			var none T
			x, e = none, fault.(stop).why
		}
	}()
	x = read()
	r.end()
	stopAt(check(x))
	return x, api.OK
}

func stopAt(e api.Errno) {
	if e != api.OK {
		panic(stop{e})
	}
}

func (r *reader) end() {
	if len(r.rest) > 0 {
		stopAt(api.ErrForm)
	}
}

// part reads one part by a reader of octet.
func part[T any](r *reader, read func([]byte) (T, int, api.Errno)) T {
	x, size, e := read(r.rest)
	stopAt(e)
	r.rest = r.rest[size:]
	return x
}

// many reads a count, and so many items. No room is made for them ahead: the count may be far above what follows.
func many[T any](r *reader, one func() T) []T {
	var l []T
	for range r.num() {
		l = append(l, one())
	}
	return l
}

func (r *reader) num() int       { return part(r, octet.ReadNum) }
func (r *reader) text() string   { return part(r, octet.ReadText) }
func (r *reader) data() []string { return part(r, octet.ReadTexts) }

// The readers of structs name their fields in the order of the bytes, which is that in which Go calls.

func (r *reader) cmd() api.Cmd {
	return api.Cmd{
		Kind: r.num(), Client: r.num(), Num: r.num(), Time: r.num(), Queue: r.num(),
		Group: r.text(), Body: r.text(), Token: r.text(), Attempt: r.text(),
		Max: r.num(), Secs: r.num(),
		Receipt: r.receipt(), Range: r.places(), To: r.num(),
		Data: r.data(),
	}
}

func (r *reader) reply() api.Reply {
	return api.Reply{
		Err: api.Errno(r.num()), Seq: r.num(), N: r.num(),
		Got: many(r, r.delivery), Data: r.data(), About: many(r, r.places),
	}
}

func (r *reader) delivery() api.Got {
	return api.Got{Receipt: r.receipt(), Body: r.text(), Sent: r.num()}
}

func (r *reader) receipt() api.Receipt {
	return api.Receipt{Queue: r.num(), Group: r.text(), Seq: r.num(), Count: r.num()}
}

func (r *reader) places() api.Range {
	return api.Range{Lo: r.num(), Hi: r.num()}
}
