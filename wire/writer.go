package wire

import (
	"raceway/api"
	"raceway/octet"
)

// writer is the bytes so far. It is handed only what was checked, of which octet refuses nothing.
type writer []byte

// add takes what octet wrote by itself: octet behind w would copy all of w for each part.
func (w writer) add(part []byte, _ api.Errno) writer {
	return append(w, part...)
}

func (w writer) nums(l ...int) writer {
	for _, n := range l {
		w = w.add(octet.Num(nil, n))
	}
	return w
}

func (w writer) texts(l ...string) writer {
	for _, s := range l {
		w = w.add(octet.Text(nil, s))
	}
	return w
}

func (w writer) receipt(r api.Receipt) writer {
	return w.nums(r.Queue).texts(r.Group).nums(r.Seq, r.Count)
}

func (w writer) data(l []string) writer {
	return w.add(octet.Texts(nil, l))
}

func (w writer) deliveries(l []api.Got) writer {
	w = w.nums(len(l))
	for _, g := range l {
		w = w.receipt(g.Receipt).texts(g.Body).nums(g.Sent)
	}
	return w
}

func (w writer) ranges(l []api.Range) writer {
	w = w.nums(len(l))
	for _, r := range l {
		w = w.nums(r.Lo, r.Hi)
	}
	return w
}
