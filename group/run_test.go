package group_test

import (
	"fmt"
	"math/rand/v2"
	"slices"
	"testing"

	"raceway/api"
	"raceway/group"
)

// watcher knows of a group only what its calls were asked and told.
type watcher struct {
	t     *testing.T
	rng   *rand.Rand
	now   int
	g     api.Group
	kept  []seen // in the order in which they came
	marks []api.Mark
	next  int
}

// seen is a message as far as the answers tell of it.
type seen struct {
	seq, sent, count, until, from int
	body                          string
}

func (s seen) kept() api.Kept {
	return api.Kept{Seq: s.seq, Sent: s.sent, Count: s.count, Until: s.until, From: s.from, Body: s.body}
}

func newWatcher(t *testing.T, seed uint64) *watcher {
	return &watcher{t: t, rng: rand.New(rand.NewPCG(11, seed)), now: 1000, g: group.Fresh(), next: 1}
}

// inFlight tells whether something that was delivered may still be worked on.
func (w *watcher) inFlight() bool {
	return slices.ContainsFunc(w.kept, func(s seen) bool { return s.until > w.now })
}

// pass lets the clock go anywhere, back too.
func (w *watcher) pass() {
	w.now = max(0, w.now+[]int{-300, -10, -1, 0, 1, 1, 2, 5, 9, 10, 11, 30, 100, 299, 300, 301}[w.rng.IntN(16)])
}

func (w *watcher) expire() {
	keep := []int{0, 10, 100, 100, 500, 1000, 1000, 5000}[w.rng.IntN(8)]
	w.g = expire(w.t, w.g, w.now, keep)
	w.kept = slices.DeleteFunc(w.kept, func(s seen) bool { return s.sent+keep <= w.now })
	w.marks = slices.DeleteFunc(w.marks, func(m api.Mark) bool { return m.At+window <= w.now })
}

// send: one message for a token that is remembered, and its number.
func (w *watcher) send() {
	body, token, queue := fmt.Sprint("b", w.rng.IntN(30)), "", w.rng.IntN(3)
	if w.rng.IntN(2) == 0 {
		token = fmt.Sprint("t", w.rng.IntN(60))
	}
	own := token
	if own == "" {
		own = tokenOf(body)
	}
	out, seq, e := send(w.t, w.g, w.now, queue, body, token)
	w.g = out
	for _, m := range w.marks {
		if m.Token == own {
			if seq != m.Seq || e != api.OK {
				w.t.Fatalf("the token %q is of message %d: %d, error %d", own, m.Seq, seq, int(e))
			}
			return
		}
	}
	if len(w.kept) >= maxKept || len(w.marks) >= maxTokens {
		if seq != 0 || e != api.ErrFull {
			w.t.Fatalf("%d messages, %d tokens: %d, error %d", len(w.kept), len(w.marks), seq, int(e))
		}
		return
	}
	if seq != w.next || e != api.OK {
		w.t.Fatalf("the next message is %d: %d, error %d", w.next, seq, int(e))
	}
	w.kept = append(w.kept, seen{seq: seq, sent: w.now, from: queue, body: body})
	w.marks = append(w.marks, api.Mark{Token: own, Seq: seq, At: w.now})
	w.next++
}

// receive: in the order of the numbers, none while one is in flight, and none past one that is kept and not delivered with it.
func (w *watcher) receive() {
	max, secs, most, room := w.rng.IntN(5), []int{0, 1, 10, 30}[w.rng.IntN(4)], w.rng.IntN(4), w.rng.IntN(3)
	out, got, dead := receive(w.t, w.g, w.now, max, secs, most, room)
	w.g = out
	if w.inFlight() && len(got)+len(dead) > 0 {
		w.t.Fatalf("while one is in flight, %v are delivered, and %v die", got, dead)
	}
	if !slices.IsSortedFunc(got, func(a, b api.Kept) int { return a.Seq - b.Seq }) || len(got) > max || len(dead) > room {
		w.t.Fatalf("max %d, room %d: %v, %v", max, room, got, dead)
	}
	left := w.deliver(got, dead, secs, most)
	if w.inFlight() && len(got) == 0 || max == 0 || len(got) == max {
		return
	}
	// It ended ahead of max: there is none left, or the next one should die and can't.
	if first := len(got); len(left) > first && (most == 0 || left[first].count < most || len(dead) < room) {
		w.t.Fatalf("max %d, most %d, room %d: it ends ahead of %v: %v, %v", max, most, room, left[first], got, dead)
	}
}

// deliver checks that those that were told stand first, one behind the other, and marks them; it tells who is left.
func (w *watcher) deliver(got, dead []api.Kept, secs, most int) []seen {
	var left []seen
	told := len(got) + len(dead)
	for i, s := range w.kept {
		switch {
		case i >= told:
			left = append(left, s)
		case len(dead) > 0 && dead[0].Seq == s.seq:
			if dead[0] != s.kept() || most == 0 || s.count < most {
				w.t.Fatalf("most %d: %v dies as %v", most, s, dead[0])
			}
			dead = dead[1:]
		case len(got) > 0 && got[0].Seq == s.seq:
			if most > 0 && s.count >= most {
				w.t.Fatalf("most %d: %v is delivered", most, s)
			}
			s.count, s.until = s.count+1, w.now+secs
			if got[0] != s.kept() {
				w.t.Fatalf("%v is delivered as %v", s, got[0])
			}
			got, left = got[1:], append(left, s)
		default:
			w.t.Fatalf("%v is kept, and not delivered with those behind it: %v, %v", s, got, dead)
		}
	}
	if len(got)+len(dead) > 0 {
		w.t.Fatalf("nobody has sent %v, %v", got, dead)
	}
	w.kept = left
	return left
}

// receipt is one of a message that is kept, or one that is near it.
func (w *watcher) receipt() (seq, count int) {
	if len(w.kept) == 0 {
		return w.rng.IntN(5), 1
	}
	s := w.kept[w.rng.IntN(min(3, len(w.kept)))]
	return s.seq + []int{0, 0, 0, 0, 0, 0, -1}[w.rng.IntN(7)], s.count + []int{0, 0, 0, 0, 0, 0, 1, -1}[w.rng.IntN(8)]
}

// known tells the place of a message, and what a receipt of it is worth.
func (w *watcher) known(seq, count int) (int, api.Errno) {
	for i, s := range w.kept {
		if s.seq == seq {
			switch {
			case s.count != count:
				return i, api.ErrReceipt
			case s.until <= w.now:
				return i, api.ErrLapsed
			}
			return i, api.OK
		}
	}
	return 0, api.ErrNone
}

func (w *watcher) remove() {
	seq, count := w.receipt()
	at, want := w.known(seq, count)
	out, e := remove(w.t, w.g, w.now, seq, count)
	if want == api.OK {
		w.kept = slices.Delete(w.kept, at, at+1)
	}
	if want == api.ErrNone {
		want = api.OK
	}
	w.take(out, e, want)
}

func (w *watcher) change() {
	seq, count := w.receipt()
	secs := []int{0, 1, 20, 100}[w.rng.IntN(4)]
	at, want := w.known(seq, count)
	out, e := change(w.t, w.g, w.now, seq, count, secs)
	if want == api.OK {
		w.kept[at].until = w.now + secs
	}
	w.take(out, e, want)
}

// take goes on with what a call told, if it told no error.
func (w *watcher) take(out api.Group, e, want api.Errno) {
	if e != want {
		w.t.Fatalf("error %d, not %d", int(e), int(want))
	}
	if e == api.OK {
		w.g = out
	}
}

func (w *watcher) again() {
	max, attempt := w.rng.IntN(4), []string{"", "x", "y"}[w.rng.IntN(3)]
	w.g.Attempt = []string{"", "x", "y"}[w.rng.IntN(3)]
	var want []api.Kept
	for _, s := range w.kept {
		if s.until > w.now && attempt != "" && attempt == w.g.Attempt {
			want = append(want, s.kept())
		}
	}
	wantList(w.t, "again", again(w.t, w.g, w.now, max, attempt), want[:min(max, len(want))])
}

// move takes messages out, and puts some of them in again, or purges all.
func (w *watcher) move() {
	if w.rng.IntN(8) == 0 {
		out, n := purge(w.t, w.g)
		if n != len(w.kept) {
			w.t.Fatalf("%d were purged of %d", n, len(w.kept))
		}
		w.g, w.kept = out, nil
		return
	}
	own, n, room := w.rng.IntN(4), w.rng.IntN(4), w.rng.IntN(4)
	out, l, e := take(w.t, w.g, w.now, own, n, room)
	if w.inFlight() && min(n, room) > 0 {
		w.take(out, e, api.ErrBusy)
		return
	}
	w.take(out, e, api.OK)
	for i, m := range l {
		if m != w.kept[i].kept() || m.From == own || i >= min(n, room) {
			w.t.Fatalf("own %d, n %d, room %d: %v of %v", own, n, room, l, w.kept)
		}
	}
	w.kept = w.kept[len(l):]
	if len(l) < min(n, room) && len(w.kept) > 0 && w.kept[0].from != own {
		w.t.Fatalf("own %d, n %d, room %d: %v, and not %v", own, n, room, l, w.kept[0])
	}
	l = l[:w.rng.IntN(len(l)+1)]
	w.g = put(w.t, w.g, w.now, l)
	for _, m := range l {
		w.kept = append(w.kept, seen{seq: w.next, sent: w.now, from: m.From, body: m.Body})
		w.next++
	}
}

// reload goes on from what was written down.
func (w *watcher) reload() {
	s, e := dump(w.t, w.g)
	g, f := load(w.t, s)
	if e != api.OK || f != api.OK || !group.Same(g, w.g) || !same(g, w.g) {
		w.t.Fatalf("%v is read as %v, errors %d and %d", w.g, g, int(e), int(f))
	}
	w.g = g
}

// look holds the group against what the answers told.
func (w *watcher) look() {
	want := api.Group{Next: w.next, Marks: w.marks, Attempt: w.g.Attempt}
	for _, s := range w.kept {
		want.Kept = append(want.Kept, s.kept())
	}
	if !same(w.g, want) {
		w.t.Fatalf("the group is\n%v, not\n%v", w.g, want)
	}
	if flying(w.t, w.g, w.now) != w.inFlight() {
		w.t.Fatalf("in flight at %d: %v, not %v", w.now, !w.inFlight(), w.inFlight())
	}
}

// step does one thing of many.
func (w *watcher) step() {
	switch n := w.rng.IntN(100); {
	case n < 30:
		w.send()
	case n < 50:
		w.receive()
	case n < 65:
		w.remove()
	case n < 75:
		w.change()
	case n < 90:
		w.pass()
	case n < 93:
		w.expire()
	case n < 95:
		w.again()
	case n < 98:
		w.move()
	default:
		w.reload()
	}
	w.look()
}

// P11.10, and each call beside others: runs in any order, held against what the answers tell.
func TestRuns(t *testing.T) {
	for seed := range uint64(200) {
		w := newWatcher(t, seed)
		for range 250 {
			w.step()
		}
	}
}

// P11.10: where the clock goes on, and who gets a message deletes it, all come, each once, in the order in which they were sent.
func TestAllComeInOrder(t *testing.T) {
	rng := rand.New(rand.NewPCG(11, 10))
	for range 100 {
		g, now, sent, want := group.Fresh(), 0, 0, 1
		for rounds := 0; want <= 40; rounds++ {
			if rounds == 5000 {
				t.Fatalf("message %d does not come", want)
			}
			now += rng.IntN(20)
			g = expire(t, g, now, maxTime)
			if rng.IntN(2) == 0 && sent < 40 {
				out, seq, e := send(t, g, now, 0, fmt.Sprint(sent+1), "")
				if e == api.OK {
					g, sent = out, seq
				}
			}
			out, got, _ := receive(t, g, now, 1+rng.IntN(3), 5, 0, 0)
			g = out
			for _, m := range got {
				if rng.IntN(3) == 0 {
					break // the rest comes again behind its time
				}
				if m.Seq != want || m.Body != fmt.Sprint(want) {
					t.Fatalf("message %d, not %d", m.Seq, want)
				}
				g, _ = remove(t, g, now, m.Seq, m.Count)
				want++
			}
		}
	}
}
