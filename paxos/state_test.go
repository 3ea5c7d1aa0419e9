package paxos_test

import (
	"fmt"
	"math"
	"slices"
	"strings"
	"testing"

	"raceway/api"
	"raceway/paxos"
	"raceway/store"
)

// The document's limits, apart from the package that is tested.
const (
	maxNumber = 1 << 40
	maxSlot   = 1 << 30
	maxRound  = 1 << 36
	maxValue  = 1 << 15
	nearSlots = 1024
	manySlots = 16
	nobody    = -1
)

// farOff has numbers that are far from all that may be.
var farOff = []int{math.MinInt, math.MinInt + 1, -1 << 40, -1 << 32, 1 << 41, 1 << 62, math.MaxInt - 1, math.MaxInt}

// longest is a value as long as may be.
var longest = strings.Repeat("l", maxValue)

// state is what the document says of a replica, word by word, apart from the package that is tested; its store's package has tests of its own.
type state struct {
	id, nodes, timeout           int
	st                           *store.Store
	role, ballot, leader, waited int
	known                        map[int]string
	asked                        int
	noted                        map[int][]api.Vote
	next                         int
	proposed                     map[int]string
	accepted                     map[int][]int
}

// renew makes it as a new one over what its store has.
func (s *state) renew() {
	*s = state{id: s.id, nodes: s.nodes, timeout: s.timeout, st: s.st, leader: nobody, known: map[int]string{}}
}

func (s *state) prefix() int {
	slot := s.st.Base()
	for {
		if _, known := s.known[slot]; !known {
			return slot
		}
		slot++
	}
}

func (s *state) near(slot int) bool {
	return slot >= s.st.Base() && slot < s.st.Base()+nearSlots
}

func (s *state) quorum(n int) bool { return 2*n > s.nodes }

// all sends a message to all others, rising.
func (s *state) all(m api.Msg) []api.Msg {
	var out []api.Msg
	for node := range s.nodes {
		if node != s.id {
			out = append(out, s.to(node, m)...)
		}
	}
	return out
}

func (s *state) to(node int, m api.Msg) []api.Msg {
	m.From, m.To = s.id, node
	return []api.Msg{m}
}

func (s *state) choose(slot int, value string) {
	if _, known := s.known[slot]; !known {
		s.known[slot] = value
	}
}

// votes are what the store has from a slot on.
func (s *state) votes(from int) []api.Vote {
	var l []api.Vote
	for slot := from; slot < s.st.Slots(); slot++ {
		if b, value, ok := s.st.Get(slot); ok {
			l = append(l, api.Vote{Slot: slot, Ballot: b, Value: value})
		}
	}
	return l
}

// nextBallot is the least ballot of the replica above its promise; 0: there is none.
func (s *state) nextBallot() int {
	round := max(1, s.st.Promised()/8)
	if 8*round+s.id <= s.st.Promised() {
		round++
	}
	if round > maxRound {
		return 0
	}
	return 8*round + s.id
}

func (s *state) tick() []api.Msg {
	switch {
	case s.st.Down():
		return nil
	case s.role == api.RoLeader:
		return s.remind()
	}
	s.waited++
	if s.waited <= s.timeout+s.id {
		return nil
	}
	b := s.nextBallot()
	if b == 0 || s.st.Promise(b) != api.OK {
		return nil
	}
	s.st.Sync()
	s.ballot, s.waited, s.leader, s.role = b, 0, nobody, api.RoCandidate
	s.asked = s.prefix()
	s.noted = map[int][]api.Vote{s.id: s.votes(s.asked)}
	out := s.all(api.Msg{Kind: api.MsPrepare, Ballot: b, Slot: s.asked})
	if s.quorum(1) {
		out = append(out, s.lead()...)
	}
	return out
}

func (s *state) remind() []api.Msg {
	out := s.all(api.Msg{Kind: api.MsBeat, Ballot: s.ballot, N: s.prefix()})
	told := 0
	for slot := s.st.Base(); slot < s.next; slot++ {
		value, proposed := s.proposed[slot]
		if _, known := s.known[slot]; proposed && !known && told < manySlots {
			out = append(out, s.all(s.accept(slot, value))...)
			told++
		}
	}
	return out
}

func (s *state) accept(slot int, value string) api.Msg {
	return api.Msg{Kind: api.MsAccept, Ballot: s.ballot, Slot: slot, Value: []byte(value), N: s.prefix()}
}

// lead makes it the leader, and proposes what the noted votes have.
func (s *state) lead() []api.Msg {
	s.role, s.leader, s.next = api.RoLeader, s.id, s.asked
	s.proposed, s.accepted = map[int]string{}, map[int][]int{}
	best, last := map[int]api.Vote{}, s.asked-1
	for node := range s.nodes {
		for _, v := range s.noted[node] {
			if old, has := best[v.Slot]; !has || v.Ballot > old.Ballot {
				best[v.Slot] = v
			}
			last = max(last, v.Slot)
		}
	}
	var out []api.Msg
	for slot := s.asked; slot <= last; slot++ {
		_, accepts, e := s.propose(string(best[slot].Value))
		if e != api.OK {
			break
		}
		out = append(out, accepts...)
	}
	return out
}

func (s *state) propose(value string) (int, []api.Msg, api.Errno) {
	switch {
	case s.st.Down():
		return 0, nil, api.ErrDown
	case s.role != api.RoLeader:
		return 0, nil, api.ErrLeader
	case !s.near(s.next):
		return 0, nil, api.ErrFull
	}
	slot := s.next
	if e := s.st.Accept(slot, s.ballot, []byte(value)); e != api.OK {
		return 0, nil, e
	}
	s.st.Sync()
	s.next++
	s.proposed[slot] = value
	out := s.all(s.accept(slot, value))
	if s.quorum(1) {
		s.choose(slot, value)
	}
	return slot, out, api.OK
}

func (s *state) recv(m api.Msg) []api.Msg {
	mayBe := func(n, most int) bool { return n >= 0 && n <= most }
	if s.st.Down() || m.To != s.id || m.From == s.id || !mayBe(m.From, s.nodes-1) {
		return nil
	}
	if !mayBe(m.Ballot, maxNumber) || !mayBe(m.N, maxNumber) || !mayBe(m.Slot, maxSlot) {
		return nil
	}
	late := m.Ballot < s.st.Promised()
	behind := m.Slot < s.st.Base()
	switch kind := m.Kind; {
	case late && (kind == api.MsPrepare || kind == api.MsAccept || kind == api.MsBeat):
		return s.to(m.From, api.Msg{Kind: api.MsRefuse, Ballot: s.st.Promised()})
	case behind && (kind == api.MsPrepare || kind == api.MsAccept || kind == api.MsAsk):
		return s.to(m.From, api.Msg{Kind: api.MsBehind, Slot: s.st.Base()})
	case kind == api.MsPrepare:
		return s.recvPrepare(m)
	case kind == api.MsPromise:
		return s.recvPromise(m)
	case kind == api.MsRefuse && s.role != api.RoFollower && m.Ballot > s.ballot:
		s.role, s.waited, s.leader = api.RoFollower, 0, nobody
	case kind == api.MsAccept:
		return s.recvAccept(m)
	case kind == api.MsAccepted:
		return s.recvAccepted(m)
	case kind == api.MsBeat:
		s.heed(m.Ballot)
		s.leader = m.From
		if m.N > s.prefix() {
			return s.to(m.From, api.Msg{Kind: api.MsAsk, Slot: s.prefix()})
		}
	case kind == api.MsAsk && s.prefix() > m.Slot:
		var l []api.Vote
		for slot := m.Slot; slot < s.prefix() && len(l) < manySlots; slot++ {
			l = append(l, api.Vote{Slot: slot, Value: []byte(s.known[slot])})
		}
		return s.to(m.From, api.Msg{Kind: api.MsLearn, Slot: m.Slot, Votes: l})
	case kind == api.MsLearn:
		for _, v := range m.Votes {
			if s.near(v.Slot) {
				s.choose(v.Slot, string(v.Value))
			}
		}
	}
	return nil
}

// heed gives way to a ballot that is another one's.
func (s *state) heed(b int) {
	if s.ballot != b {
		s.role = api.RoFollower
	}
	s.waited = 0
}

func (s *state) recvPrepare(m api.Msg) []api.Msg {
	if s.st.Promise(m.Ballot) != api.OK {
		return nil
	}
	s.st.Sync()
	s.heed(m.Ballot)
	return s.to(m.From, api.Msg{Kind: api.MsPromise, Ballot: m.Ballot, Slot: m.Slot, N: s.prefix(), Votes: s.votes(m.Slot)})
}

func (s *state) recvPromise(m api.Msg) []api.Msg {
	if s.role != api.RoCandidate || m.Ballot != s.ballot || m.Slot != s.asked {
		return nil
	}
	if _, told := s.noted[m.From]; told {
		return nil
	}
	s.noted[m.From] = []api.Vote{}
	for _, v := range m.Votes {
		if v.Slot >= m.Slot && s.near(v.Slot) {
			s.noted[m.From] = append(s.noted[m.From], v)
		}
	}
	if !s.quorum(len(s.noted)) {
		return nil
	}
	return s.lead()
}

func (s *state) recvAccept(m api.Msg) []api.Msg {
	if !s.near(m.Slot) || s.st.Accept(m.Slot, m.Ballot, m.Value) != api.OK {
		return nil
	}
	s.st.Sync()
	s.heed(m.Ballot)
	s.leader = m.From
	return s.to(m.From, api.Msg{Kind: api.MsAccepted, Ballot: m.Ballot, Slot: m.Slot})
}

func (s *state) recvAccepted(m api.Msg) []api.Msg {
	value, proposed := s.proposed[m.Slot]
	if s.role != api.RoLeader || m.Ballot != s.ballot || !proposed {
		return nil
	}
	if !slices.Contains(s.accepted[m.Slot], m.From) {
		s.accepted[m.Slot] = append(s.accepted[m.Slot], m.From)
	}
	if _, known := s.known[m.Slot]; known || !s.quorum(1+len(s.accepted[m.Slot])) {
		return nil
	}
	s.choose(m.Slot, value)
	v := api.Vote{Slot: m.Slot, Ballot: s.ballot, Value: []byte(value)}
	return s.all(api.Msg{Kind: api.MsLearn, Ballot: s.ballot, Slot: m.Slot, Votes: []api.Vote{v}})
}

func (s *state) chosen(from int) []string {
	var l []string
	if s.st.Down() || from < s.st.Base() {
		return nil
	}
	for slot := from; slot < s.prefix(); slot++ {
		l = append(l, s.known[slot])
	}
	return l
}

// forget lets the store forget all below n, and the state too.
func (s *state) forget(n int) api.Errno {
	if e := s.st.Forget(n); e != api.OK {
		return e
	}
	s.st.Sync()
	for slot := range s.known {
		if slot < n {
			delete(s.known, slot)
		}
	}
	for slot := range s.proposed {
		if slot < n {
			delete(s.proposed, slot)
		}
	}
	return api.OK
}

func (s *state) trim(n int) api.Errno {
	switch {
	case s.st.Down():
		return api.ErrDown
	case n > s.prefix():
		return api.ErrArg
	case n <= s.st.Base():
		return api.OK
	}
	return s.forget(n)
}

func (s *state) install(n int) api.Errno {
	switch {
	case s.st.Down():
		return api.ErrDown
	case n > maxSlot:
		return api.ErrArg
	case n <= s.prefix():
		return api.OK
	}
	if e := s.forget(n); e != api.OK {
		return e
	}
	s.role, s.waited = api.RoFollower, 0
	return api.OK
}

func (s *state) restart() api.Errno {
	e := s.st.Restart()
	if e == api.OK {
		s.renew()
	}
	return e
}

// message tells a message; lists without elements are all the same.
func message(m api.Msg) string {
	return fmt.Sprintf("kind %d from %d to %d: ballot %d, slot %d, n %d, value %s, votes%s", m.Kind, m.From, m.To, m.Ballot, m.Slot, m.N, short(string(m.Value)), votes(m.Votes))
}

func votes(l []api.Vote) string {
	var b strings.Builder
	for _, v := range l {
		fmt.Fprintf(&b, " {%d %d %s}", v.Slot, v.Ballot, short(string(v.Value)))
	}
	return b.String()
}

// short tells a long value by its ends.
func short(value string) string {
	if len(value) > 40 {
		return fmt.Sprintf("%q..%q (%d)", value[:8], value[len(value)-8:], len(value))
	}
	return fmt.Sprintf("%q", value)
}

func messages(l []api.Msg) string {
	var b strings.Builder
	for _, m := range l {
		b.WriteString("\n\t" + message(m))
	}
	return b.String()
}

// storeText tells all that a store has.
func storeText(st *store.Store) string {
	var b strings.Builder
	log := st.Log()
	fmt.Fprintf(&b, "down %v, promise %d, base %d, %d records, %d of them safe:", st.Down(), st.Promised(), st.Base(), log.Len(), log.Safe())
	for slot := st.Base(); slot < st.Slots(); slot++ {
		if ballot, value, ok := st.Get(slot); ok {
			fmt.Fprintf(&b, " {%d %d %s}", slot, ballot, short(string(value)))
		}
	}
	return b.String()
}

func wantErr(t *testing.T, name string, got, e api.Errno) {
	t.Helper()
	if got != e {
		t.Errorf("%s: error %d, not %d", name, int(got), int(e))
	}
}

func wantMessages(t *testing.T, name string, got []api.Msg, want ...api.Msg) {
	t.Helper()
	if a, b := messages(got), messages(want); a != b {
		t.Errorf("%s: told are%.3000s\nnot%.3000s", name, a, b)
	}
}

func wantChosen(t *testing.T, name string, got [][]byte, want ...string) {
	t.Helper()
	var values []string
	for _, value := range got {
		values = append(values, string(value))
	}
	if a, b := fmt.Sprintf("%q", values), fmt.Sprintf("%q", want); a != b {
		t.Errorf("%s: chosen are %.1000s, not %.1000s", name, a, b)
	}
}

// pair is a replica and what the document says of it; each call is done to both, and all that they tell is held against each other.
type pair struct {
	t *testing.T
	r *paxos.Replica
	s *state
}

func begin(t *testing.T, c api.PaxosConf) pair {
	t.Helper()
	r, e := paxos.New(c)
	st, _ := store.New(c.Per)
	if e != api.OK || r == nil || st == nil {
		t.Fatalf("New(%+v): error %d", c, int(e))
	}
	s := &state{id: c.Id, nodes: c.Nodes, timeout: c.Timeout, st: st}
	s.renew()
	return pair{t, r, s}.check("new")
}

func (p pair) tick() []api.Msg {
	p.t.Helper()
	out := p.r.Tick()
	wantMessages(p.t, "Tick", out, p.s.tick()...)
	p.checkSoon("Tick")
	return out
}

func (p pair) recv(m api.Msg) []api.Msg {
	p.t.Helper()
	name := "Recv: " + message(m)
	out := p.r.Recv(m)
	wantMessages(p.t, name, out, p.s.recv(m)...)
	p.checkSoon(name)
	return out
}

func (p pair) propose(value string) (int, []api.Msg, api.Errno) {
	p.t.Helper()
	name := "Propose of " + short(value)
	slot, out, e := p.r.Propose([]byte(value))
	s, l, f := p.s.propose(value)
	wantErr(p.t, name, e, f)
	wantMessages(p.t, name, out, l...)
	if slot != s {
		p.t.Errorf("%s: slot %d, not %d", name, slot, s)
	}
	p.checkSoon(name)
	return slot, out, e
}

func (p pair) trim(n int) api.Errno {
	p.t.Helper()
	e := p.r.Trim(n)
	wantErr(p.t, fmt.Sprintf("Trim(%d)", n), e, p.s.trim(n))
	p.check(fmt.Sprintf("Trim(%d)", n))
	return e
}

func (p pair) install(n int) api.Errno {
	p.t.Helper()
	e := p.r.Install(n)
	wantErr(p.t, fmt.Sprintf("Install(%d)", n), e, p.s.install(n))
	p.check(fmt.Sprintf("Install(%d)", n))
	return e
}

func (p pair) crash(keep, flip int) pair {
	p.t.Helper()
	name := fmt.Sprintf("Crash(%d, %d)", keep, flip)
	wantErr(p.t, name, p.r.Crash(keep, flip), p.s.st.Crash(keep, flip))
	return p.check(name)
}

func (p pair) restart() pair {
	p.t.Helper()
	wantErr(p.t, "Restart", p.r.Restart(), p.s.restart())
	return p.check("Restart")
}

// checkSoon holds all that costs little against the document's words.
func (p pair) checkSoon(name string) {
	p.t.Helper()
	role, ballot, leader, prefix, base := p.s.role, p.s.ballot, p.s.leader, p.s.prefix(), p.s.st.Base()
	if p.s.st.Down() {
		role, ballot, leader, prefix, base = 0, 0, nobody, 0, 0
	}
	got := []int{p.r.Role(), p.r.Ballot(), p.r.Leader(), p.r.Prefix(), p.r.Base()}
	if want := []int{role, ballot, leader, prefix, base}; !slices.Equal(got, want) {
		p.t.Errorf("%s: role, ballot, leader, prefix and base are %d, not %d", name, got, want)
	}
	if p.r.Down() != p.s.st.Down() {
		p.t.Errorf("%s: Down: %v", name, p.r.Down())
	}
	for _, from := range []int{max(base, prefix-20), prefix - 1} {
		wantChosen(p.t, fmt.Sprintf("%s: Chosen(%d)", name, from), p.r.Chosen(from), p.s.chosen(from)...)
	}
}

// check holds all that the replica tells against the document's words.
func (p pair) check(name string) pair {
	p.t.Helper()
	p.checkSoon(name)
	base, prefix := p.s.st.Base(), p.s.prefix()
	for _, from := range append([]int{-1, 0, base - 1, base, base + 1, prefix, prefix + 1}, farOff...) {
		wantChosen(p.t, fmt.Sprintf("%s: Chosen(%d)", name, from), p.r.Chosen(from), p.s.chosen(from)...)
	}
	if got, want := storeText(p.r.Store()), storeText(p.s.st); got != want {
		p.t.Errorf("%s: the store has %.3000s\nnot %.3000s", name, got, want)
	}
	return p
}

// stood gives a replica that has just become a candidate: what it told then.
func (p pair) stood() []api.Msg {
	p.t.Helper()
	for range p.s.timeout + p.s.id {
		wantMessages(p.t, "a tick too early", p.tick())
	}
	return p.tick()
}

// others are the nodes but itself, rising.
func (p pair) others() []int {
	var l []int
	for node := range p.s.nodes {
		if node != p.s.id {
			l = append(l, node)
		}
	}
	return l
}

// toOthers are the messages that all others get, one message behind the other.
func (p pair) toOthers(l ...api.Msg) []api.Msg {
	var out []api.Msg
	for _, m := range l {
		out = append(out, p.s.all(m)...)
	}
	return out
}

// from is a message of a node to the replica.
func (p pair) from(node int, m api.Msg) api.Msg {
	m.From, m.To = node, p.s.id
	return m
}

// lead makes it stand, and lead by promises without votes of the first others.
func (p pair) lead() pair {
	p.t.Helper()
	p.stood()
	for _, node := range p.others()[:p.s.nodes/2] {
		wantMessages(p.t, "a promise without votes", p.recv(p.from(node, promiseOf(p.r.Ballot(), p.r.Prefix()))))
	}
	if p.r.Role() != api.RoLeader || p.r.Leader() != p.s.id {
		p.t.Fatalf("it does not lead: role %d, leader %d", p.r.Role(), p.r.Leader())
	}
	return p
}

// choose lets the leader propose values, which the first others accept.
func (p pair) choose(values ...string) pair {
	p.t.Helper()
	for _, value := range values {
		slot, _, e := p.propose(value)
		wantErr(p.t, "Propose", e, api.OK)
		for _, node := range p.others()[:p.s.nodes/2] {
			p.recv(p.from(node, acceptedOf(p.r.Ballot(), slot)))
		}
		if p.r.Prefix() != slot+1 {
			p.t.Fatalf("slot %d is not chosen: the prefix is %d", slot, p.r.Prefix())
		}
	}
	return p
}

// learn lets it learn values from a slot on.
func (p pair) learn(slot int, values ...string) pair {
	p.t.Helper()
	var l []api.Vote
	for i, value := range values {
		l = append(l, vote(slot+i, 0, value))
	}
	wantMessages(p.t, "a Learn", p.recv(p.from(p.others()[0], api.Msg{Kind: api.MsLearn, Slot: slot, Votes: l})))
	return p
}

func vote(slot, ballot int, value string) api.Vote {
	return api.Vote{Slot: slot, Ballot: ballot, Value: []byte(value)}
}

func prepareOf(ballot, slot int) api.Msg {
	return api.Msg{Kind: api.MsPrepare, Ballot: ballot, Slot: slot}
}

func promiseOf(ballot, slot int, votes ...api.Vote) api.Msg {
	return api.Msg{Kind: api.MsPromise, Ballot: ballot, Slot: slot, Votes: votes}
}

func refuseOf(ballot int) api.Msg { return api.Msg{Kind: api.MsRefuse, Ballot: ballot} }

func acceptOf(ballot, slot int, value string, n int) api.Msg {
	return api.Msg{Kind: api.MsAccept, Ballot: ballot, Slot: slot, Value: []byte(value), N: n}
}

func acceptedOf(ballot, slot int) api.Msg {
	return api.Msg{Kind: api.MsAccepted, Ballot: ballot, Slot: slot}
}

func beatOf(ballot, n int) api.Msg { return api.Msg{Kind: api.MsBeat, Ballot: ballot, N: n} }

func askOf(slot int) api.Msg { return api.Msg{Kind: api.MsAsk, Slot: slot} }

func learnOf(ballot, slot int, votes ...api.Vote) api.Msg {
	return api.Msg{Kind: api.MsLearn, Ballot: ballot, Slot: slot, Votes: votes}
}

func behindOf(slot int) api.Msg { return api.Msg{Kind: api.MsBehind, Slot: slot} }

// values are as many as asked for, unlike each other.
func values(n int) []string {
	var l []string
	for i := range n {
		l = append(l, fmt.Sprintf("v%d", i))
	}
	return l
}
