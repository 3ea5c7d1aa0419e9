package paxos

import (
	"bytes"
	"maps"
	"slices"

	"raceway/api"
	"raceway/ballot"
)

// election is what a candidate has under its ballot.
type election struct {
	asked int                // the slot from which on it asked for votes
	told  map[int][]api.Vote // by nodes, its own too
	last  int                // the greatest slot that it proposes anew as soon as it leads
}

// leadership is what a leader has under its ballot.
type leadership struct {
	next    int
	tallies map[int]*tally // of slots that it proposed and that are not chosen
	owed    map[int][]byte // of slots that it has not proposed yet: values that may be chosen there already
}

// tally is what was proposed in a slot, and who has accepted it.
type tally struct {
	value []byte
	nodes ballot.Set[int]
}

// stand makes it a candidate, if its store takes a ballot above the promise.
func (r *Replica) stand() []api.Msg {
	own, e := ballot.Next(r.store.Promised(), r.conf.Id)
	if e != api.OK || r.promise(own) != api.OK {
		return nil
	}
	r.role, r.ballot, r.leader, r.waited = api.RoCandidate, own, nobody, 0
	r.election = election{asked: r.prefix, told: map[int][]api.Vote{}, last: r.prefix - 1}
	out := r.toOthers(api.Msg{Kind: api.MsPrepare, Ballot: own, Slot: r.asked})
	return append(out, r.note(r.conf.Id, r.votesFrom(r.asked))...)
}

// note takes down what a node voted, once; with a quorum it leads.
func (r *Replica) note(node int, votes []api.Vote) []api.Msg {
	if _, noted := r.told[node]; noted {
		return nil
	}
	// Only near ones are proposed at once, but one that comes near later binds it as well: a node whose base is above its own may have helped to choose a value there. No node's base is above what it was asked from, so none has a vote farther off.
	r.told[node] = pick(votes, func(slot int) bool { return slot >= r.asked && slot-r.asked < api.MaxItems })
	for _, vote := range r.told[node] {
		if r.isNear(vote.Slot) {
			r.last = max(r.last, vote.Slot)
		}
	}
	if len(r.told) < ballot.Quorum(r.conf.Nodes) {
		return nil
	}
	return r.lead()
}

// lead makes it the leader, which proposes anew what may be chosen already.
func (r *Replica) lead() []api.Msg {
	r.role, r.leader = api.RoLeader, r.conf.Id
	r.leadership = leadership{next: r.asked, tallies: map[int]*tally{}, owed: map[int][]byte{}}
	var lists [][]api.Vote
	for _, node := range slices.Sorted(maps.Keys(r.told)) {
		lists = append(lists, r.told[node])
	}
	for _, vote := range ballot.Merge(lists...) {
		r.owed[vote.Slot] = vote.Value
	}
	last := r.last
	r.election = election{}
	var out []api.Msg
	for r.next <= last {
		accepts, e := r.renew()
		if e != api.OK {
			break
		}
		out = append(out, accepts...)
	}
	return out
}

// renew proposes what its next slot is owed; where that is nothing, an empty value.
func (r *Replica) renew() ([]api.Msg, api.Errno) {
	out, e := r.propose(r.owed[r.next])
	if e == api.ErrLong {
		// No store takes such a value, so no replica told of it: what came with it binds nobody.
		clear(r.owed)
	}
	return out, e
}

// isOwed tells whether some value may be chosen in a slot already: no other one may be proposed there, even if the store has room for that one alone.
func (r *Replica) isOwed(slot int) bool {
	_, owed := r.owed[slot]
	return owed
}

// propose proposes a value in its next slot.
func (r *Replica) propose(value []byte) ([]api.Msg, api.Errno) {
	slot := r.next
	if !r.isNear(slot) {
		return nil, api.ErrFull
	}
	if e := r.accept(slot, r.ballot, value); e != api.OK {
		return nil, e
	}
	r.next++
	delete(r.owed, slot)
	out := r.toOthers(r.acceptOf(slot, value))
	if r.isChosen(slot) {
		return out, api.OK
	}
	r.tallies[slot] = &tally{value: bytes.Clone(value)}
	return append(out, r.count(slot, r.conf.Id)...), api.OK
}

// count notes that a node has accepted what was proposed in a slot; with a quorum that is chosen.
func (r *Replica) count(slot, node int) []api.Msg {
	t, open := r.tallies[slot]
	if !open {
		return nil
	}
	t.nodes.Add(node)
	if t.nodes.Len() < ballot.Quorum(r.conf.Nodes) {
		return nil
	}
	r.choose(slot, t.value)
	that := api.Vote{Slot: slot, Ballot: r.ballot, Value: t.value}
	return r.toOthers(api.Msg{Kind: api.MsLearn, Ballot: r.ballot, Slot: slot, Votes: []api.Vote{that}})
}

// remind tells all others that it leads, and what is still to be accepted.
func (r *Replica) remind() []api.Msg {
	// What it owes may have come near since. Its Accepts are told below, when their turn comes.
	for r.isOwed(r.next) {
		if _, e := r.renew(); e != api.OK {
			break
		}
	}
	list := []api.Msg{{Kind: api.MsBeat, Ballot: r.ballot, N: r.prefix}}
	slots := slices.Sorted(maps.Keys(r.tallies))
	for _, slot := range slots[:min(maxTold, len(slots))] {
		list = append(list, r.acceptOf(slot, r.tallies[slot].value))
	}
	return r.toOthers(list...)
}

func (r *Replica) acceptOf(slot int, value []byte) api.Msg {
	return api.Msg{Kind: api.MsAccept, Ballot: r.ballot, Slot: slot, Value: value, N: r.prefix}
}
