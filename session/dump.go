package session

import (
	"maps"

	"raceway/api"
	"raceway/octet"
	"raceway/wire"
)

// noted is what a text tells: a client, and what it was answered.
type noted struct {
	client int
	answer answer
}

// Dump writes what has no Data, All whatever there is; Merge takes what was written.
func (t *Table) Dump() []string {
	return t.texts(func(r api.Reply) bool { return len(r.Data) == 0 })
}

func (t *Table) All() []string {
	return t.texts(func(api.Reply) bool { return true })
}

func (t *Table) Merge(l []string) api.Errno {
	if !t.isMade() {
		return api.ErrNil
	}
	// All texts are read ahead of the first note: a wrong one at the end goes ahead of too many clients.
	more, e := readAll(l)
	if e != api.OK {
		return e
	}
	was := maps.Clone(t.clients)
	for _, x := range more {
		// What the table knows as late, or later, stays: ErrOld is no fault here.
		if t.Note(x.client, x.answer.num, x.answer.reply) == api.ErrFull {
			clear(t.clients)
			maps.Copy(t.clients, was)
			return api.ErrFull
		}
	}
	return api.OK
}

// texts writes, by rising clients, the answers whose replies are wanted and have bytes.
func (t *Table) texts(isWanted func(api.Reply) bool) []string {
	if !t.isMade() {
		return nil
	}
	var l []string
	for client, a := range t.rising() {
		if !isWanted(a.reply) {
			continue
		}
		if text, e := write(client, a); e == api.OK {
			l = append(l, text)
		}
	}
	return l
}

func write(client int, a answer) (string, api.Errno) {
	reply, e := wire.Reply(a.reply)
	if e != api.OK {
		return "", e
	}
	var b []byte
	for _, n := range [...]int{client, a.num} {
		if b, e = octet.Num(b, n); e != api.OK {
			return "", e
		}
	}
	return string(append(b, reply...)), api.OK
}

func readAll(l []string) ([]noted, api.Errno) {
	var all []noted
	for _, text := range l {
		x, e := read(text)
		if e != api.OK {
			return nil, e
		}
		all = append(all, x)
	}
	return all, api.OK
}

// read tells what write has written. Whatever is wrong with a text is one error to the caller.
func read(text string) (noted, api.Errno) {
	b := []byte(text)
	var nums [2]int
	for i := range nums {
		n, size, e := octet.ReadNum(b)
		if e != api.OK || !isNumber(n) {
			return noted{}, api.ErrArg
		}
		nums[i], b = n, b[size:]
	}
	reply, e := wire.ReadReply(b)
	if e != api.OK {
		return noted{}, api.ErrArg
	}
	return noted{nums[0], answer{nums[1], reply}}, api.OK
}
