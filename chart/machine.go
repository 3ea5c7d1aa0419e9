package chart

import (
	"maps"
	"slices"

	"raceway/api"
	"raceway/wire"
)

const (
	maxClients = 64      // of whom a machine remembers something
	maxSlots   = 1 << 40 // of a machine that is revived
)

// A machine's dump has three texts; in its last one each client has two numbers.
const (
	machineTexts = 3
	clientNums   = 2
)

// Machine is a chart whose replicas agree on it.
type Machine struct {
	chart api.Chart
	slots int
	// Of each client that is remembered, the greatest number whose move was done. nil: no call made the machine.
	done map[int]int
}

// New makes one; Apply applies a value; Chart and Slots tell what there is.
func New(shards int) (*Machine, api.Errno) {
	c, e := First(shards)
	if e != api.OK {
		return nil, e
	}
	return &Machine{chart: c, done: map[int]int{}}, api.OK
}

func (m *Machine) Apply(value []byte) api.Done {
	if !m.isMade() {
		return api.Done{}
	}
	slot := m.slots
	m.slots++
	c, e := wire.ReadCmd(value)
	if e != api.OK {
		return api.Done{Slot: slot}
	}
	reply, isFresh := m.answer(c)
	return api.Done{Slot: slot, Cmd: c, Reply: reply, Fresh: isFresh}
}

func (m *Machine) Chart() api.Chart {
	if !m.isMade() {
		return api.Chart{}
	}
	return api.Chart{Epoch: m.chart.Epoch, Pieces: slices.Clone(m.chart.Pieces)}
}

func (m *Machine) Slots() int {
	if !m.isMade() {
		return 0
	}
	return m.slots
}

// Dump writes a machine; Revive reads one.
func (m *Machine) Dump() ([]string, api.Errno) {
	if !m.isMade() {
		return nil, api.ErrNil
	}
	chart, e := Dump(m.chart)
	if e != api.OK {
		return nil, e
	}
	var clients []int
	for _, client := range slices.Sorted(maps.Keys(m.done)) {
		clients = append(clients, client, m.done[client])
	}
	return []string{textOf([]int{m.slots}), chart, textOf(clients)}, api.OK
}

func Revive(data []string) (*Machine, api.Errno) {
	if len(data) != machineTexts {
		return nil, api.ErrForm
	}
	slots, ok := readSlots(data[0])
	if !ok {
		return nil, api.ErrForm
	}
	c, e := Load(data[1])
	if e != api.OK {
		return nil, api.ErrForm
	}
	done, ok := readClients(data[2])
	if !ok {
		return nil, api.ErrForm
	}
	return &Machine{chart: c, slots: slots, done: done}, api.OK
}

func (m *Machine) isMade() bool {
	return m != nil && m.done != nil
}

// answer does a command, unless it is a move that its client has behind it.
func (m *Machine) answer(c api.Cmd) (r api.Reply, isFresh bool) {
	switch c.Kind {
	case api.CmNothing:
		return m.tell(), true
	case api.CmChart:
		if m.wasDone(c) {
			return m.tell(), false
		}
		return m.move(c), true
	}
	return api.Reply{Err: api.ErrArg}, true
}

func (m *Machine) move(c api.Cmd) api.Reply {
	next, e := Move(m.chart, c.Range, c.To)
	if e != api.OK {
		return api.Reply{Err: e}
	}
	m.chart = next
	m.remember(c)
	return m.tell()
}

// tell answers what the chart is. That may always be written: Move makes no other.
func (m *Machine) tell() api.Reply {
	text, _ := Dump(m.chart)
	return api.Reply{N: m.chart.Epoch, Data: []string{text}}
}

// wasDone: of who is not remembered 0 is known, which no number above 0 is up to.
func (m *Machine) wasDone(c api.Cmd) bool {
	return c.Num > 0 && c.Num <= m.done[c.Client]
}

func (m *Machine) remember(c api.Cmd) {
	if c.Client == 0 || c.Num == 0 {
		return
	}
	if _, isKnown := m.done[c.Client]; !isKnown && len(m.done) >= maxClients {
		return
	}
	m.done[c.Client] = c.Num
}

func readSlots(s string) (slots int, ok bool) {
	l, ok := numsOf(s)
	if !ok || len(l) != 1 || l[0] > maxSlots {
		return 0, false
	}
	return l[0], true
}

// readClients takes clients that rise and their numbers, above 0 and as great as octet has them: no other bound is named for these.
func readClients(s string) (done map[int]int, ok bool) {
	l, ok := numsOf(s)
	if !ok || len(l) > maxClients*clientNums {
		return nil, false
	}
	done = map[int]int{}
	last := 0
	for pair := range slices.Chunk(l, clientNums) {
		if len(pair) < clientNums || pair[0] <= last || pair[1] < 1 {
			return nil, false
		}
		last = pair[0]
		done[last] = pair[1]
	}
	return done, true
}
