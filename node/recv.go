package node

import (
	"slices"

	"raceway/api"
	"raceway/wire"
)

func (n *Node) hearPaxos(m *member, p api.Packet) []api.Packet {
	out := n.wrap(m, m.replica.Recv(p.Msg))
	// Who sent that has forgotten what its replica lacks, but his machine has it.
	if p.Msg.Kind == api.MsBehind && n.isOther(p.From) && p.Msg.Slot > m.replica.Prefix() {
		out = append(out, n.packet(m, api.PkPull, p.From))
	}
	return append(out, n.apply(m)...)
}

func (n *Node) hearAsk(m *member, p api.Packet, now int) []api.Packet {
	asked := request{p.Cmd.Client, p.Cmd.Num}
	// A client is a number above 0: what -From is of a From without a counterpart is none.
	if asked.client <= 0 || p.From != -asked.client || asked.num <= 0 {
		return nil
	}
	if m.replica.Role() != api.RoLeader {
		return []api.Packet{n.reply(m, asked, api.Reply{Err: api.ErrLeader, N: 1 + m.replica.Leader()})}
	}
	p.Cmd.Time = now
	out, e := propose(m, p.Cmd)
	if e != api.OK {
		return []api.Packet{n.reply(m, asked, api.Reply{Err: e})}
	}
	m.waiting[asked] = struct{}{}
	return append(n.wrap(m, out), n.apply(m)...)
}

func (n *Node) hearPull(m *member, p api.Packet) []api.Packet {
	if p.From < 0 || m.machine.Slots() == 0 {
		return nil
	}
	data, e := m.machine.Dump()
	if e != api.OK {
		return nil
	}
	snap := n.packet(m, api.PkSnap, p.From)
	snap.Data = data
	return []api.Packet{snap}
}

func (n *Node) hearSnap(m *member, p api.Packet) []api.Packet {
	later, ok := n.load(m.group, p.Data)
	if !ok || later.Slots() <= m.machine.Slots() {
		return nil
	}
	m.machine = later
	// A replica that can't install them gets there slot by slot; the machine takes what lies behind its own.
	m.replica.Install(later.Slots())
	m.writeDown()
	return n.apply(m)
}

func (n *Node) hearMap(m *member, p api.Packet) []api.Packet {
	if p.From >= 0 {
		return nil
	}
	told := n.packet(m, api.PkChart, p.From)
	told.Chart = n.Chart()
	return []api.Packet{told}
}

// propose lets a replica propose a command, and tells what comes of it.
func propose(m *member, c api.Cmd) ([]api.Msg, api.Errno) {
	value, e := wire.Cmd(c)
	if e != api.OK {
		return nil, e
	}
	_, out, e := m.replica.Propose(value)
	return out, e
}

// apply brings a machine up to what its replica knows to be chosen, and answers who waits for that.
func (n *Node) apply(m *member) []api.Packet {
	var out []api.Packet
	for _, value := range m.replica.Chosen(m.machine.Slots()) {
		d := m.machine.Apply(value)
		m.done = append(m.done, d)
		asked := request{d.Cmd.Client, d.Cmd.Num}
		if _, waits := m.waiting[asked]; waits {
			delete(m.waiting, asked)
			out = append(out, n.reply(m, asked, d.Reply))
		}
	}
	if n.conf.Every > 0 && m.machine.Slots()-m.replica.Base() >= n.conf.Every {
		m.writeDown()
	}
	return out
}

func (n *Node) isOther(id int) bool {
	return id >= 0 && id < n.conf.Nodes && id != n.conf.Id
}

// packet is one that goes from the node to somebody, about a group.
func (n *Node) packet(m *member, kind, to int) api.Packet {
	return api.Packet{Kind: kind, From: n.conf.Id, To: to, Group: m.group}
}

// wrap makes packets of what a replica tells.
func (n *Node) wrap(m *member, messages []api.Msg) []api.Packet {
	var out []api.Packet
	for _, message := range messages {
		p := n.packet(m, api.PkPaxos, message.To)
		p.Msg = message
		out = append(out, p)
	}
	return out
}

// reply answers a client. What it holds is apart from what Done tells.
func (n *Node) reply(m *member, asked request, r api.Reply) api.Packet {
	r.Got, r.Data, r.About = slices.Clone(r.Got), slices.Clone(r.Data), slices.Clone(r.About)
	p := n.packet(m, api.PkReply, -asked.client)
	p.Cmd = api.Cmd{Client: asked.client, Num: asked.num}
	p.Reply = r
	return p
}
