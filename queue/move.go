package queue

import (
	"maps"
	"slices"

	"raceway/api"
	"raceway/group"
	"raceway/octet"
	"raceway/place"
)

// Cut takes a range out; Paste puts one in.
func (x *Engine) Cut(r api.Range) ([]string, api.Errno) {
	switch {
	case !x.isMade():
		return nil, api.ErrNil
	case !x.servesAll(r):
		return nil, api.ErrArg
	}
	var texts []string
	left := maps.Clone(x.groups)
	for queue := range x.queues {
		for _, name := range x.names(queue, []api.Range{r}) {
			at := key{queue, name}
			text, e := write(at, x.groups[at])
			if e != api.OK {
				return nil, e
			}
			texts = append(texts, text)
			delete(left, at)
		}
	}
	x.served, x.groups = place.Cut(x.served, r), left
	return texts, api.OK
}

func (x *Engine) Paste(r api.Range, data []string) api.Errno {
	switch {
	case !x.isMade():
		return api.ErrNil
	case !place.May(r) || x.servesSome(r):
		return api.ErrArg
	}
	more := map[key]api.Group{}
	for _, text := range data {
		at, g, e := read(text)
		_, isTwice := more[at]
		if e != api.OK || isTwice || !x.hasQueue(at.queue) || !place.In(r, place.Of(at.name)) {
			return api.ErrArg
		}
		more[at] = g
	}
	x.served = place.Join(append(slices.Clone(x.served), r))
	maps.Copy(x.groups, more)
	return api.OK
}

// servesAll: what is served is as few ranges as can be, so that one of them has all of r.
func (x *Engine) servesAll(r api.Range) bool {
	return place.May(r) && slices.ContainsFunc(x.served, func(s api.Range) bool { return place.Meet(s, r) == r })
}

func (x *Engine) servesSome(r api.Range) bool {
	return slices.ContainsFunc(x.served, func(s api.Range) bool { return place.Meet(s, r) != (api.Range{}) })
}

// write tells a group, and where it stands, as a text.
func write(at key, g api.Group) (string, api.Errno) {
	dump, e := group.Dump(g)
	if e != api.OK {
		return "", e
	}
	b, e := octet.Num(nil, at.queue)
	if e != api.OK {
		return "", e
	}
	for _, text := range []string{at.name, dump} {
		if b, e = octet.Text(b, text); e != api.OK {
			return "", e
		}
	}
	return string(b), api.OK
}

// read tells what write has written.
func read(text string) (key, api.Group, api.Errno) {
	b := []byte(text)
	queue, size, e := octet.ReadNum(b)
	if e != api.OK {
		return key{}, api.Group{}, e
	}
	var parts [2]string
	for i := range parts {
		part, more, e := octet.ReadText(b[size:])
		if e != api.OK {
			return key{}, api.Group{}, e
		}
		parts[i], size = part, size+more
	}
	if size < len(b) {
		return key{}, api.Group{}, api.ErrForm
	}
	g, e := group.Load(parts[1])
	return key{queue, parts[0]}, g, e
}
