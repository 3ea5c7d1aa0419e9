package node

import (
	"raceway/api"
	"raceway/chart"
	"raceway/crc"
	"raceway/shard"
)

// chartGroup is the group that agrees on the chart; all others are shards.
const chartGroup = 0

// machine is what a group's replicas make of chosen values: a chart's machine, or a shard.
type machine interface {
	Apply(value []byte) api.Done
	Slots() int
	Dump() ([]string, api.Errno)
}

// first makes a group's machine as it is at first. New has let through only what these calls have no error of.
func (n *Node) first(group int) machine {
	if group == chartGroup {
		m, _ := chart.New(n.conf.Shards)
		return m
	}
	c, _ := chart.First(n.conf.Shards)
	s, _ := shard.New(n.conf.Queues, chart.Ranges(c, group))
	return s
}

// load makes a group's machine of a dump, and tells whether it is one.
func (n *Node) load(group int, data []string) (machine, bool) {
	if group == chartGroup {
		m, e := chart.Revive(data)
		return m, e == api.OK
	}
	s, e := shard.Load(n.conf.Queues, data)
	return s, e == api.OK
}

// chartOf and shardOf tell what a machine is beside: nothing, if it is of the other type.
func chartOf(m machine) api.Chart {
	c, _ := m.(*chart.Machine)
	return c.Chart()
}

func shardOf(m machine) *shard.Shard {
	s, _ := m.(*shard.Shard)
	return s
}

// writeDown puts what the machine has where a crash leaves it, and lets the replica forget what led to it.
func (m *member) writeDown() {
	b, e := framed(m.machine)
	if e != api.OK || m.disk.Swap(b) != api.OK {
		return
	}
	// A replica that can't trim has more than it needs; what is on the disk is right all the same.
	m.replica.Trim(m.machine.Slots())
}

// framed is a machine's dump, each text as a frame.
func framed(m machine) ([]byte, api.Errno) {
	data, e := m.Dump()
	if e != api.OK {
		return nil, e
	}
	var b []byte
	for _, text := range data {
		frame, e := crc.Frame([]byte(text))
		if e != api.OK {
			return nil, e
		}
		b = append(b, frame...)
	}
	return b, api.OK
}

// recall is what a member remembers behind a restart: the machine that was written down, if there is one.
func (n *Node) recall(m *member) memory {
	kept := n.begin(m.group)
	b, _ := m.disk.Read()
	var data []string
	for _, body := range crc.All(b) {
		data = append(data, string(body))
	}
	if found, ok := n.load(m.group, data); ok {
		kept.machine = found
	}
	return kept
}
