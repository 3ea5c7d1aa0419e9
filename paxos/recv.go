package paxos

import (
	"bytes"

	"raceway/api"
)

// mayCome tells whether a message is one of another node to this one.
func (r *Replica) mayCome(m api.Msg) bool {
	return m.To == r.conf.Id && m.From != r.conf.Id && isUpTo(m.From, r.conf.Nodes-1) &&
		isUpTo(m.Ballot, maxNumber) && isUpTo(m.N, maxNumber) && isUpTo(m.Slot, api.MaxSlot)
}

func (r *Replica) hearPrepare(m api.Msg) []api.Msg {
	if out := r.objection(m); out != nil {
		return out
	}
	// Who can't write down a promise gives none.
	if r.promise(m.Ballot) != api.OK {
		return nil
	}
	r.heed(m.Ballot)
	return r.answer(m, api.Msg{Kind: api.MsPromise, Ballot: m.Ballot, Slot: m.Slot, N: r.prefix, Votes: r.votesFrom(m.Slot)})
}

func (r *Replica) hearPromise(m api.Msg) []api.Msg {
	if r.role != api.RoCandidate || m.Ballot != r.ballot || m.Slot != r.asked {
		return nil
	}
	return r.note(m.From, m.Votes)
}

func (r *Replica) hearRefuse(m api.Msg) []api.Msg {
	if r.role != api.RoFollower && m.Ballot > r.ballot {
		r.follow()
		r.waited, r.leader = 0, nobody
	}
	return nil
}

func (r *Replica) hearAccept(m api.Msg) []api.Msg {
	if out := r.objection(m); out != nil {
		return out
	}
	if !r.isNear(m.Slot) || r.accept(m.Slot, m.Ballot, m.Value) != api.OK {
		return nil
	}
	r.heed(m.Ballot)
	r.leader = m.From
	return r.answer(m, api.Msg{Kind: api.MsAccepted, Ballot: m.Ballot, Slot: m.Slot})
}

func (r *Replica) hearAccepted(m api.Msg) []api.Msg {
	if r.role != api.RoLeader || m.Ballot != r.ballot {
		return nil
	}
	return r.count(m.Slot, m.From)
}

func (r *Replica) hearBeat(m api.Msg) []api.Msg {
	if out := r.refusal(m); out != nil {
		return out
	}
	r.heed(m.Ballot)
	r.leader = m.From
	if m.N <= r.prefix {
		return nil
	}
	return r.answer(m, api.Msg{Kind: api.MsAsk, Slot: r.prefix})
}

func (r *Replica) hearAsk(m api.Msg) []api.Msg {
	if out := r.tooEarly(m); out != nil {
		return out
	}
	var known []api.Vote
	for slot := m.Slot; slot < min(r.prefix, m.Slot+maxTold); slot++ {
		known = append(known, api.Vote{Slot: slot, Value: r.chosen[slot]})
	}
	if known == nil {
		return nil
	}
	return r.answer(m, api.Msg{Kind: api.MsLearn, Slot: m.Slot, Votes: known})
}

func (r *Replica) hearLearn(m api.Msg) []api.Msg {
	for _, vote := range m.Votes {
		if r.isNear(vote.Slot) {
			r.choose(vote.Slot, vote.Value)
		}
	}
	return nil
}

// objection is why nothing is done for who sent a message: he has no say any more, or is behind. There may be none.
func (r *Replica) objection(m api.Msg) []api.Msg {
	if out := r.refusal(m); out != nil {
		return out
	}
	return r.tooEarly(m)
}

func (r *Replica) refusal(m api.Msg) []api.Msg {
	promised := r.store.Promised()
	if m.Ballot >= promised {
		return nil
	}
	return r.answer(m, api.Msg{Kind: api.MsRefuse, Ballot: promised})
}

func (r *Replica) tooEarly(m api.Msg) []api.Msg {
	base := r.store.Base()
	if m.Slot >= base {
		return nil
	}
	return r.answer(m, api.Msg{Kind: api.MsBehind, Slot: base})
}

// heed gives way to a ballot that is not its own.
func (r *Replica) heed(ballot int) {
	if r.ballot != ballot {
		r.follow()
	}
	r.waited = 0
}

// answer sends a message to who sent m.
func (r *Replica) answer(m, back api.Msg) []api.Msg {
	return []api.Msg{r.send(back, m.From)}
}

// toOthers sends to all others each of the messages, one message behind the other.
func (r *Replica) toOthers(messages ...api.Msg) []api.Msg {
	var out []api.Msg
	for _, m := range messages {
		for node := range r.conf.Nodes {
			if node != r.conf.Id {
				out = append(out, r.send(m, node))
			}
		}
	}
	return out
}

// send makes a message to a node, with lists of its own.
func (r *Replica) send(m api.Msg, to int) api.Msg {
	m.From, m.To = r.conf.Id, to
	m.Value = bytes.Clone(m.Value)
	m.Votes = pick(m.Votes, func(int) bool { return true })
	return m
}

// pick gives copies of the votes whose slots are wanted.
func pick(votes []api.Vote, wanted func(slot int) bool) []api.Vote {
	var l []api.Vote
	for _, vote := range votes {
		if wanted(vote.Slot) {
			vote.Value = bytes.Clone(vote.Value)
			l = append(l, vote)
		}
	}
	return l
}

func isUpTo(n, most int) bool {
	return n >= 0 && n <= most
}
