package store_test

import (
	"encoding/binary"
	"fmt"
	"maps"
	"math"
	"slices"
	"strings"
	"testing"

	"raceway/api"
	"raceway/seglog"
	"raceway/store"
)

// The document's limits, apart from the packages that are tested.
const (
	maxNumber   = 1 << 40
	maxValue    = 1 << 15
	maxSlots    = 1024
	maxSnapshot = 1 << 16
	maxSegments = 256
)

// vote is what a slot has.
type vote struct {
	ballot int
	value  string
}

// view is what a store has at one moment.
type view struct {
	promise, base int
	slots         map[int]vote
}

func (v view) copy() view {
	v.slots = maps.Clone(v.slots)
	if v.slots == nil {
		v.slots = map[int]vote{}
	}
	return v
}

func (v view) end() int {
	end := 0
	for slot := range v.slots {
		end = max(end, slot+1)
	}
	return end
}

// String tells a view in the order of its slots.
func (v view) String() string {
	text := fmt.Sprintf("promise %d, base %d", v.promise, v.base)
	for _, slot := range slices.Sorted(maps.Keys(v.slots)) {
		text += fmt.Sprintf(", %d: %d %d bytes %.20q", slot, v.slots[slot].ballot, len(v.slots[slot].value), v.slots[slot].value)
	}
	return text
}

// numbers are written by the library here, apart from the packages that are tested.
func numbers(l ...int) string {
	var b []byte
	for _, n := range l {
		b = binary.AppendUvarint(b, uint64(n))
	}
	return string(b)
}

// body is what the document says of a snapshot's frame.
func (v view) body() string {
	text := numbers(v.promise, v.base, len(v.slots))
	for _, slot := range slices.Sorted(maps.Keys(v.slots)) {
		text += numbers(slot, v.slots[slot].ballot, len(v.slots[slot].value)) + v.slots[slot].value
	}
	return text
}

// state is what the document says of a store, apart from the package that is tested: a log (whose package has tests of its own) and what each of its records does, what the snapshot says, and what the store has.
type state struct {
	per  int
	log  *seglog.Log
	does []func(v *view)
	snap view
	now  view
}

func (s state) copy() *state {
	s.log = s.log.Copy()
	s.does = slices.Clone(s.does)
	s.snap, s.now = s.snap.copy(), s.now.copy()
	return &s
}

func (s *state) write(rec string, does func(v *view)) api.Errno {
	if _, e := s.log.Append([]byte(rec)); e != api.OK {
		return e
	}
	s.does = append(s.does, does)
	does(&s.now)
	return api.OK
}

func mayNotBe(n int) bool { return n < 0 || n > maxNumber }

func (s *state) promise(ballot int) api.Errno {
	switch {
	case s.log.Down():
		return api.ErrDown
	case mayNotBe(ballot):
		return api.ErrArg
	case ballot < s.now.promise:
		return api.ErrOld
	case ballot == s.now.promise:
		return api.OK
	}
	return s.write("\x01"+numbers(ballot), func(v *view) { v.promise = ballot })
}

func (s *state) accept(slot, ballot int, value string) api.Errno {
	_, has := s.now.slots[slot]
	switch {
	case s.log.Down():
		return api.ErrDown
	case mayNotBe(slot) || mayNotBe(ballot):
		return api.ErrArg
	case ballot < s.now.promise || slot < s.now.base:
		return api.ErrOld
	case len(value) > maxValue:
		return api.ErrLong
	case !has && len(s.now.slots) >= maxSlots:
		return api.ErrFull
	}
	return s.write("\x02"+numbers(slot, ballot)+value, func(v *view) {
		v.promise = ballot
		v.slots[slot] = vote{ballot, value}
	})
}

func (s *state) forget(n int) api.Errno {
	switch {
	case s.log.Down():
		return api.ErrDown
	case mayNotBe(n):
		return api.ErrArg
	case n <= s.now.base:
		return api.OK
	}
	return s.write("\x03"+numbers(n), func(v *view) {
		v.base = n
		maps.DeleteFunc(v.slots, func(slot int, _ vote) bool { return slot < n })
	})
}

func (s *state) snapshot() api.Errno {
	if e := s.log.Sync(); e != api.OK {
		return e
	}
	if len(s.now.body()) > maxSnapshot {
		return api.ErrLong
	}
	s.log, _ = seglog.New(s.per)
	s.does, s.snap = nil, s.now.copy()
	return api.OK
}

func (s *state) restart() api.Errno {
	if e := s.log.Restart(); e != api.OK {
		return e
	}
	s.does, s.now = s.does[:s.log.Len()], s.snap.copy()
	for _, does := range s.does {
		does(&s.now)
	}
	return api.OK
}

// logText tells all that a log has, byte by byte.
func logText(l *seglog.Log) string {
	text := fmt.Sprintf("%d %d %d %v", l.Base(), l.Len(), l.Safe(), l.Down())
	for _, d := range l.Segments() {
		kept := d.Kept()
		d.Restart()
		all, e := d.Read()
		text += fmt.Sprintf("\n%d %q %d %q", len(kept), kept, int(e), all)
	}
	return text
}

// viewOf tells what a store has in the slots that are named, and in those at the ends of what there is.
func viewOf(t *testing.T, name string, st *store.Store, slots ...int) view {
	t.Helper()
	v := view{promise: st.Promised(), base: st.Base(), slots: map[int]vote{}}
	slots = append(slots, -1, 0, 1, maxNumber-1, maxNumber, maxNumber+1)
	for _, slot := range append(slots, farOff...) {
		ballot, value, ok := st.Get(slot)
		if ok {
			v.slots[slot] = vote{ballot, string(value)}
		} else if ballot != 0 || len(value) > 0 {
			t.Errorf("%s: Get(%d) has nothing, and tells %d, %q", name, slot, ballot, value)
		}
	}
	return v
}

// near gives the slots of a view and those beside them.
func near(v view) []int {
	var l []int
	for slot := range v.slots {
		l = append(l, slot-1, slot, slot+1)
	}
	return append(l, v.base-1, v.base, v.base+1)
}

// wantView checks what a store has.
func wantView(t *testing.T, name string, st *store.Store, v view) {
	t.Helper()
	got := viewOf(t, name, st, near(v)...)
	if got.String() != v.String() || !maps.Equal(got.slots, v.slots) {
		t.Errorf("%s: %v, not %v", name, got, v)
	}
	if st.Slots() != v.end() {
		t.Errorf("%s: Slots: %d, not %d", name, st.Slots(), v.end())
	}
}

func wantErr(t *testing.T, name string, got, e api.Errno) {
	t.Helper()
	if got != e {
		t.Errorf("%s: error %d, not %d", name, int(got), int(e))
	}
}

// pair is a store and what the document says of it; each call is done to both, and all that they tell is held against each other.
type pair struct {
	t  *testing.T
	st *store.Store
	s  *state
}

func begin(t *testing.T, per int) pair {
	t.Helper()
	st, e := store.New(per)
	log, _ := seglog.New(per)
	if e != api.OK || st == nil || log == nil {
		t.Fatalf("New(%d): error %d", per, int(e))
	}
	return pair{t, st, state{per: per, log: log}.copy()}
}

func (p pair) promise(ballot int) pair {
	p.t.Helper()
	wantErr(p.t, fmt.Sprintf("Promise(%d)", ballot), p.st.Promise(ballot), p.s.promise(ballot))
	return p
}

func (p pair) accept(slot, ballot int, value string) pair {
	p.t.Helper()
	wantErr(p.t, fmt.Sprintf("Accept(%d, %d, %.20q)", slot, ballot, value), p.st.Accept(slot, ballot, []byte(value)), p.s.accept(slot, ballot, value))
	return p
}

func (p pair) forget(n int) pair {
	p.t.Helper()
	wantErr(p.t, fmt.Sprintf("Forget(%d)", n), p.st.Forget(n), p.s.forget(n))
	return p
}

func (p pair) sync() pair {
	p.t.Helper()
	wantErr(p.t, "Sync", p.st.Sync(), p.s.log.Sync())
	return p
}

func (p pair) snapshot() pair {
	p.t.Helper()
	wantErr(p.t, "Snapshot", p.st.Snapshot(), p.s.snapshot())
	return p
}

func (p pair) crash(keep, flip int) pair {
	p.t.Helper()
	wantErr(p.t, fmt.Sprintf("Crash(%d, %d)", keep, flip), p.st.Crash(keep, flip), p.s.log.Crash(keep, flip))
	return p
}

func (p pair) restart() pair {
	p.t.Helper()
	wantErr(p.t, "Restart", p.st.Restart(), p.s.restart())
	return p
}

func (p pair) copy() pair {
	return pair{p.t, p.st.Copy(), p.s.copy()}
}

// check holds all that the store tells against the document's words.
func (p pair) check(name string) pair {
	p.t.Helper()
	wantView(p.t, name, p.st, p.s.now)
	if p.st.Down() != p.s.log.Down() {
		p.t.Errorf("%s: Down: %v", name, p.st.Down())
	}
	if got, text := logText(p.st.Log()), logText(p.s.log); got != text {
		p.t.Errorf("%s: the log is %.300s, not %.300s", name, got, text)
	}
	return p
}

// checkCrashed checks, beside what the store tells, what a copy of it comes back with: the snapshot, too.
func (p pair) checkCrashed(name string) pair {
	p.t.Helper()
	p.check(name)
	q := p.copy()
	if !q.st.Down() {
		q.crash(0, 0)
	}
	q.restart().check(name + ", crashed and restarted")
	return p
}

// having checks what a store has against what is written out.
func (p pair) having(name string, promise, base int, slots map[int]vote) pair {
	p.t.Helper()
	wantView(p.t, name, p.st, view{promise, base, slots})
	return p.check(name)
}

// farOff are numbers at the ends of what there is.
var farOff = []int{math.MinInt, math.MinInt + 1, math.MinInt32, math.MaxInt - 1, math.MaxInt, 1 << 62}

// longest is a value as long as may be.
var longest = strings.Repeat("l", maxValue)
