package shard

import (
	"raceway/api"
	"raceway/wire"
)

// maxImport is the greatest number of bytes of the command that brings in elsewhere what a freeze takes out here.
const maxImport = 1 << 15

// refusal is an error, told alone.
func refusal(e api.Errno) api.Reply {
	return api.Reply{Err: e}
}

// command reads a value, and puts the shard's time and the command's on the later one of both, so that times never fall.
func (s *Shard) command(value []byte) (c api.Cmd, ok bool) {
	c, e := wire.ReadCmd(value)
	if e != api.OK {
		return api.Cmd{}, false
	}
	s.state.now = max(s.state.now, c.Time)
	c.Time = s.state.now
	return c, true
}

// answer does a command, unless its client's table knows that number, or a later one.
func (s *Shard) answer(c api.Cmd) (r api.Reply, isFresh bool) {
	if c.Client == 0 || c.Num == 0 {
		return s.do(c), true
	}
	r, isKnown, e := s.state.sessions.Look(c.Client, c.Num)
	switch {
	case isKnown:
		return r, false
	case e == api.ErrOld:
		return refusal(e), false
	}
	r = s.do(c)
	// Who was told that it is elsewhere asks there, or here again, by the same number.
	if r.Err != api.ErrMoved {
		// A table that is full notes nothing: what was done stays done all the same.
		s.state.sessions.Note(c.Client, c.Num, r)
	}
	return r, true
}

func (s *Shard) do(c api.Cmd) api.Reply {
	switch c.Kind {
	case api.CmFreeze:
		return s.freeze(c.Range)
	case api.CmImport:
		return s.bringIn(c.Range, c.Data)
	case api.CmRelease, api.CmNothing:
		return api.Reply{}
	case api.CmChart:
		return refusal(api.ErrArg)
	}
	return s.state.engine.Do(c, nil)
}

// freeze takes a range out, if one command can bring all of it in elsewhere.
func (s *Shard) freeze(r api.Range) api.Reply {
	next := s.state.copy()
	groups, e := next.engine.Cut(r)
	if e != api.OK {
		return refusal(e)
	}
	data := Pack(next.sessions.Dump(), groups)
	if !canBeBroughtIn(r, data) {
		return refusal(api.ErrLong)
	}
	s.state = next
	return api.Reply{Data: data, About: []api.Range{r}}
}

// canBeBroughtIn looks at the longest command that could do it, whoever asks, and when.
func canBeBroughtIn(r api.Range, data []string) bool {
	b, e := wire.Cmd(api.Cmd{Kind: api.CmImport, Client: api.MaxTime, Num: api.MaxTime, Time: api.MaxTime, Range: r, Data: data})
	return e == api.OK && len(b) <= maxImport
}

// bringIn brings in what a freeze took out elsewhere: all of it, or nothing.
func (s *Shard) bringIn(r api.Range, data []string) api.Reply {
	sessions, groups, e := Unpack(data)
	if e != api.OK {
		return refusal(api.ErrArg)
	}
	next := s.state.copy()
	if next.engine.Paste(r, groups) != api.OK || next.sessions.Merge(sessions) != api.OK {
		return refusal(api.ErrArg)
	}
	s.state = next
	return api.Reply{About: []api.Range{r}}
}
