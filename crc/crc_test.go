package crc_test

import (
	"bytes"
	"hash/crc32"
	"iter"
	"math"
	"slices"
	"strings"
	"testing"

	"raceway/api"
	"raceway/crc"
)

const head = 12 // bytes of a frame ahead of its body

// told is a frame as All tells it.
type told struct {
	at   int
	body string
}

func collect(all iter.Seq2[int, []byte]) []told {
	var l []told
	for at, body := range all {
		l = append(l, told{at, string(body)})
	}
	return l
}

// noise gives n bytes that look like chance, the same each time.
func noise(n int) []byte {
	b := make([]byte, n)
	x := uint32(n)*2 + 1
	for i := range b {
		x = x*1664525 + 1013904223
		b[i] = byte(x >> 24)
	}
	return b
}

func word(n uint32) []byte {
	return []byte{byte(n), byte(n >> 8), byte(n >> 16), byte(n >> 24)}
}

// raw puts a frame together from a length and sums that may be wrong.
func raw(size, sizeSum, bodySum uint32, body []byte) []byte {
	return slices.Concat(word(size), word(sizeSum), word(bodySum), body)
}

// made puts a frame together without the package that is tested.
func made(body []byte) []byte {
	size := uint32(len(body))
	return raw(size, crc32.ChecksumIEEE(word(size)), crc32.ChecksumIEEE(body), body)
}

// hidden gives b with other bytes behind its length, and a check that these stayed.
func hidden(t *testing.T, b []byte) ([]byte, func()) {
	const behind = "behind"
	long := slices.Concat(b, []byte(behind))
	return long[:len(b)], func() {
		t.Helper()
		if string(long) != string(b)+behind {
			t.Error("what was handed in is changed")
		}
	}
}

// bitwise is the sum as the document words it.
func bitwise(b []byte) uint32 {
	register := uint32(0xffffffff)
	for _, x := range b {
		for bit := range 8 {
			one := register&1 ^ uint32(x)>>bit&1
			register >>= 1
			if one == 1 {
				register ^= 0xedb88320
			}
		}
	}
	return ^register
}

func wantNext(t *testing.T, b []byte, at int, body []byte, next int, e api.Errno) {
	t.Helper()
	gotBody, gotNext, gotE := crc.Next(b, at)
	if !bytes.Equal(gotBody, body) || gotNext != next || gotE != e {
		t.Errorf("Next at %d of %d bytes: %d bytes, %d, error %d; want %d bytes, %d, error %d",
			at, len(b), len(gotBody), gotNext, int(gotE), len(body), next, int(e))
	}
}

func wantGood(t *testing.T, b []byte, end int, e api.Errno) {
	t.Helper()
	if gotEnd, gotE := crc.Good(b); gotEnd != end || gotE != e {
		t.Errorf("Good of %d bytes: %d, error %d; want %d, error %d", len(b), gotEnd, int(gotE), end, int(e))
	}
}

// P2.1

func TestSumOfKnownTexts(t *testing.T) {
	for text, want := range map[string]uint32{
		"":                 0,
		"\x00":             0xd202ef8d,
		"\xff":             0xff000000,
		"a":                0xe8b7be43,
		"abc":              0x352441c2,
		"123456789":        0xcbf43926,
		"\x00\x00\x00\x00": 0x2144df1c,
		"\xff\xff\xff\xff": 0xffffffff,
		"The quick brown fox jumps over the lazy dog": 0x414fa339,
	} {
		if got := crc.Sum([]byte(text)); got != want {
			t.Errorf("Sum(%q) = %08x, want %08x", text, got, want)
		}
	}
}

func TestSumIsTheDocumentsAndTheLibrarys(t *testing.T) {
	for x := range 256 {
		b := []byte{byte(x)}
		if got := crc.Sum(b); got != bitwise(b) || got != crc32.ChecksumIEEE(b) {
			t.Errorf("Sum(%02x) = %08x, want %08x", x, got, bitwise(b))
		}
	}
	for _, n := range []int{2, 3, 4, 5, 7, 8, 9, 63, 64, 65, 255, 256, 257, 1000, 65535, 65536, 65537, 1 << 20} {
		b := noise(n)
		if got := crc.Sum(b); got != bitwise(b) || got != crc32.ChecksumIEEE(b) {
			t.Errorf("Sum of %d bytes = %08x, want %08x", n, got, bitwise(b))
		}
	}
}

func TestSumGoesOverItsParts(t *testing.T) {
	if crc.Sum() != 0 || crc.Sum(nil) != 0 || crc.Sum([]byte{}, nil, []byte{}) != 0 {
		t.Error("the sum of nothing isn't 0")
	}
	b := noise(40)
	want := crc32.ChecksumIEEE(b)
	for i := range len(b) + 1 {
		for j := i; j <= len(b); j++ {
			if got := crc.Sum(b[:i], nil, b[i:j], []byte{}, b[j:]); got != want {
				t.Fatalf("parts cut at %d and %d: %08x, want %08x", i, j, got, want)
			}
		}
	}
	var parts [][]byte
	for i := range b {
		parts = append(parts, b[i:i+1])
	}
	if got := crc.Sum(parts...); got != want {
		t.Errorf("byte by byte: %08x, want %08x", got, want)
	}
	if crc.Sum([]byte("ab"), []byte("c")) == crc.Sum([]byte("c"), []byte("ab")) {
		t.Error("the order of parts has no weight")
	}
}

func TestSumLeavesWhatItIsGiven(t *testing.T) {
	b, stayed := hidden(t, []byte("123456789"))
	if got := crc.Sum(b); got != 0xcbf43926 {
		t.Errorf("%08x", got)
	}
	stayed()
}

// P2.2

func TestFrameOfA(t *testing.T) {
	want := "\x01\x00\x00\x00" + "\x79\xb8\xf8\x99" + "\x43\xbe\xb7\xe8" + "a"
	if got, e := crc.Frame([]byte("a")); string(got) != want || e != api.OK {
		t.Errorf("%x, error %d; want %x", got, int(e), want)
	}
}

func TestFrame(t *testing.T) {
	for _, n := range []int{0, 1, 2, 11, 12, 13, 255, 256, 257, 4096, 65535, api.MaxFrame} {
		body := noise(n)
		if got, e := crc.Frame(body); !bytes.Equal(got, made(body)) || e != api.OK {
			t.Errorf("body of %d bytes: %d bytes, error %d", n, len(got), int(e))
		}
	}
	none, e := crc.Frame(nil)
	if !bytes.Equal(none, made(nil)) || len(none) != head || e != api.OK {
		t.Errorf("no body: %x, error %d", none, int(e))
	}
}

func TestFrameOfTooLongABody(t *testing.T) {
	for _, n := range []int{api.MaxFrame + 1, api.MaxFrame + 2, 1 << 20} {
		if got, e := crc.Frame(make([]byte, n)); len(got) != 0 || e != api.ErrLong {
			t.Errorf("body of %d bytes: %d bytes, error %d", n, len(got), int(e))
		}
	}
}

func TestFrameHasItsOwnMemory(t *testing.T) {
	body, stayed := hidden(t, []byte("body"))
	frame, _ := crc.Frame(body)
	if !bytes.Equal(frame, made([]byte("body"))) {
		t.Errorf("%x", frame)
	}
	for i := range frame {
		frame[i] ^= 0xff
	}
	_ = append(frame, "more"...)
	stayed()
	frame, _ = crc.Frame(body)
	body[0] = 'x'
	if !bytes.Equal(frame, made([]byte("body"))) {
		t.Error("the frame goes with the body that was handed in")
	}
}

// P2.3

func TestNextTellsBodyAndPlace(t *testing.T) {
	ahead, behind := []byte("ahead"), []byte{7, 7, 7, 7, 7, 7, 7, 7, 7, 7, 7, 7, 7}
	for _, n := range []int{0, 1, 2, 12, 255, 256, 65535, api.MaxFrame} {
		body := noise(n)
		frame := made(body)
		wantNext(t, frame, 0, body, len(frame), api.OK)
		wantNext(t, slices.Concat(frame, behind), 0, body, len(frame), api.OK)
		wantNext(t, slices.Concat(ahead, frame), len(ahead), body, len(ahead)+len(frame), api.OK)
		wantNext(t, slices.Concat(ahead, frame, behind), len(ahead), body, len(ahead)+len(frame), api.OK)
	}
}

func TestNextAtAWrongPlace(t *testing.T) {
	for _, b := range [][]byte{nil, {}, made([]byte("a")), slices.Concat(made([]byte("a")), made(nil))} {
		for _, at := range []int{-1, -2, -head, -len(b) - 1, math.MinInt, len(b) + 1, len(b) + 2, math.MaxInt - head, math.MaxInt} {
			wantNext(t, b, at, nil, 0, api.ErrArg)
		}
		wantNext(t, b, len(b), nil, 0, api.ErrShort)
	}
}

func TestNextIsShort(t *testing.T) {
	// Bytes that no frame begins with: that they are too few comes first.
	b := bytes.Repeat([]byte{0xee}, head)
	for at := 1; at <= head; at++ {
		wantNext(t, b, at, nil, 0, api.ErrShort)
	}
	wantNext(t, b, 0, nil, 0, api.ErrSum)
}

func TestNextNamesTheFirstError(t *testing.T) {
	sum := func(n uint32) uint32 { return crc32.ChecksumIEEE(word(n)) }
	body := []byte("body")
	good := crc32.ChecksumIEEE(body)
	for _, c := range []struct {
		name string
		b    []byte
		e    api.Errno
	}{
		{"the length has another sum, and all else is right", raw(4, sum(4)+1, good, body), api.ErrSum},
		{"the length has another sum, and is above the limit", raw(65537, sum(4), good, body), api.ErrSum},
		{"the length has another sum, and b ends ahead of the body's end", raw(5, sum(4), good, body), api.ErrSum},
		{"the length and its sum are 0", raw(0, 0, 0, nil), api.ErrSum},
		{"the length has the body's sum", raw(4, good, good, body), api.ErrSum},
		{"the length is above the limit by one", raw(65537, sum(65537), good, body), api.ErrLong},
		{"the length is above the limit by one, and the body is there", raw(65537, sum(65537), bitwise(make([]byte, 65537)), make([]byte, 65537)), api.ErrLong},
		{"the length is above what 31 bits hold", raw(1<<31, sum(1<<31), good, body), api.ErrLong},
		{"the length is all that four bytes hold", raw(1<<32-1, sum(1<<32-1), good, body), api.ErrLong},
		{"the length is above the limit in its highest byte alone", raw(1<<24, sum(1<<24), 0, nil), api.ErrLong},
		{"the length is the limit, and b ends ahead of the body's end", raw(65536, sum(65536), good, body), api.ErrShort},
		{"b ends one ahead of the body's end", raw(5, sum(5), good, body), api.ErrShort},
		{"b ends with the head", raw(1, sum(1), 0, nil), api.ErrShort},
		{"b ends ahead of the body's end, and the body has another sum", raw(5, sum(5), 0, body), api.ErrShort},
		{"the body has another sum", raw(4, sum(4), good^1, body), api.ErrSum},
		{"the body has the length's sum", raw(4, sum(4), sum(4), body), api.ErrSum},
		{"the body is shorter than its sum was made of", raw(3, sum(3), good, body), api.ErrSum},
		{"an empty body has another sum", raw(0, sum(0), 1, nil), api.ErrSum},
	} {
		t.Run(c.name, func(t *testing.T) {
			wantNext(t, c.b, 0, nil, 0, c.e)
			wantNext(t, slices.Concat([]byte("xyz"), c.b), 3, nil, 0, c.e)
		})
	}
}

func TestNextHasItsOwnMemory(t *testing.T) {
	b, stayed := hidden(t, slices.Concat(made([]byte("one")), made([]byte("two"))))
	at := head + len("one")
	for i, want := range []string{"one", "two"} {
		body, _, e := crc.Next(b, i*at)
		if string(body) != want || e != api.OK {
			t.Errorf("%q, error %d", body, int(e))
		}
		for i := range body {
			body[i] = 'x'
		}
		_ = append(body, "more"...)
		stayed()
	}
	body, _, _ := crc.Next(b, 0)
	again, _, _ := crc.Next(b, 0)
	again[0] = 'x'
	b[head] = 'y'
	if string(body) != "one" {
		t.Errorf("%q goes with what was handed in or out", body)
	}
	none, _, _ := crc.Next(made(nil), 0)
	_ = append(none, "more"...)
}

func TestNextReadsNothingBehindTheLength(t *testing.T) {
	whole := made([]byte("whole"))
	for n := range len(whole) {
		wantNext(t, whole[:n], 0, nil, 0, api.ErrShort)
		wantNext(t, whole[:n], n, nil, 0, api.ErrShort)
		wantNext(t, whole[:n], n+1, nil, 0, api.ErrArg)
		if n > 0 {
			wantGood(t, whole[:n], 0, api.ErrShort)
		}
		if l := collect(crc.All(whole[:n])); len(l) != 0 {
			t.Error(l)
		}
	}
}

// P2.4

// chain is some frames one behind the other, and what All tells of them.
func chain(bodies ...string) (b []byte, want []told) {
	for _, body := range bodies {
		want = append(want, told{len(b), body})
		b = append(b, made([]byte(body))...)
	}
	return b, want
}

var chains = [][]string{
	{},
	{""},
	{"a"},
	{"a", ""},
	{"", "", ""},
	{"a", "bc", "", "def", strings.Repeat("g", 300)},
	{strings.Repeat("h", 65536), "i", strings.Repeat("j", 65536)},
}

func TestAllAndGoodOfFrames(t *testing.T) {
	for _, bodies := range chains {
		b, want := chain(bodies...)
		if got := collect(crc.All(b)); !slices.Equal(got, want) {
			t.Errorf("All of %d frames tells %d others", len(want), len(got))
		}
		wantGood(t, b, len(b), api.OK)
	}
}

func TestAllAndGoodStopAtTheFirstError(t *testing.T) {
	long := raw(65537, crc32.ChecksumIEEE(word(65537)), 0, nil)
	badSize, badBody := made([]byte("x")), made([]byte("x"))
	badSize[0] ^= 2
	badBody[head] ^= 2
	for _, bodies := range chains {
		b, want := chain(bodies...)
		for _, c := range []struct {
			behind []byte
			e      api.Errno
		}{
			{[]byte{7}, api.ErrShort},
			{make([]byte, head-1), api.ErrShort},
			{made([]byte("x"))[:head], api.ErrShort},
			{make([]byte, head), api.ErrSum},
			{badSize, api.ErrSum},
			{badBody, api.ErrSum},
			{long, api.ErrLong},
			// A right frame behind a wrong one isn't looked for.
			{slices.Concat(badSize, made([]byte("y"))), api.ErrSum},
			{slices.Concat(badBody, made([]byte("y"))), api.ErrSum},
			{slices.Concat(long, made([]byte("y"))), api.ErrLong},
			{slices.Concat([]byte{0}, made([]byte("y"))), api.ErrSum},
		} {
			all := slices.Concat(b, c.behind)
			if got := collect(crc.All(all)); !slices.Equal(got, want) {
				t.Errorf("All of %d frames with %x behind tells %d others", len(want), c.behind, len(got))
			}
			wantGood(t, all, len(b), c.e)
			wantNext(t, all, len(b), nil, 0, c.e)
		}
	}
}

func TestAllAndGoodOfEachBeginning(t *testing.T) {
	b, want := chain("a", "bc", "", "def")
	for n := range len(b) + 1 {
		end, count := 0, 0
		for count < len(want) && end+head+len(want[count].body) <= n {
			end += head + len(want[count].body)
			count++
		}
		e := api.ErrShort
		if end == n {
			e = api.OK
		}
		wantGood(t, b[:n], end, e)
		if got := collect(crc.All(b[:n])); !slices.Equal(got, want[:count]) {
			t.Errorf("All of the first %d bytes: %v, want %v", n, got, want[:count])
		}
	}
}

func TestAllStopsWhenItIsToldTo(t *testing.T) {
	b, want := chain("a", "bc", "", "def")
	for stop := 1; stop <= len(want); stop++ {
		var got []told
		crc.All(b)(func(at int, body []byte) bool {
			got = append(got, told{at, string(body)})
			return len(got) < stop
		})
		if !slices.Equal(got, want[:stop]) {
			t.Errorf("stopped at %d: %v, want %v", stop, got, want[:stop])
		}
	}
}

func TestAllTellsTheSameAgain(t *testing.T) {
	b, want := chain("a", "bc", "", "def")
	all := crc.All(b)
	for range all {
		break
	}
	for range 2 {
		if got := collect(all); !slices.Equal(got, want) {
			t.Errorf("%v, want %v", got, want)
		}
	}
}

func TestAllHasItsOwnMemory(t *testing.T) {
	plain, want := chain("one", "", "three")
	b, stayed := hidden(t, plain)
	all := crc.All(b)
	var bodies [][]byte
	for _, body := range all {
		bodies = append(bodies, body)
	}
	for i, body := range bodies {
		if string(body) != want[i].body {
			t.Errorf("%q, want %q", body, want[i].body)
		}
		for j := range body {
			body[j] = 'x'
		}
		_ = append(body, "more"...)
	}
	stayed()
	// What was handed in isn't kept, so that these bytes are no longer All's.
	clear(b)
	if got := collect(all); !slices.Equal(got, want) {
		t.Errorf("%v, want %v", got, want)
	}
}

func TestGoodLeavesWhatItIsGiven(t *testing.T) {
	plain, _ := chain("one", "", "three")
	b, stayed := hidden(t, plain)
	wantGood(t, b, len(plain), api.OK)
	stayed()
	wantGood(t, nil, 0, api.OK)
	wantGood(t, []byte{}, 0, api.OK)
}

// P2.5

func frameOf(t *testing.T, body []byte) []byte {
	t.Helper()
	frame, e := crc.Frame(body)
	if e != api.OK {
		t.Fatalf("Frame of %d bytes: error %d", len(body), int(e))
	}
	return frame
}

func TestWhatIsFramedIsTold(t *testing.T) {
	var b []byte
	var want []told
	for _, n := range []int{0, 1, 2, 3, 4, 7, 8, 11, 12, 13, 100, 255, 256, 1000, 65535, 65536} {
		body := noise(n)
		frame := frameOf(t, body)
		wantNext(t, frame, 0, body, len(frame), api.OK)
		want = append(want, told{len(b), string(body)})
		b = append(b, frame...)
	}
	if got := collect(crc.All(b)); !slices.Equal(got, want) {
		t.Errorf("All tells %d frames, want %d", len(got), len(want))
	}
	wantGood(t, b, len(b), api.OK)
}

// wantTurned holds that the frame with that bit turned has another sum, and turns it back.
func wantTurned(t *testing.T, frame []byte, bit int) {
	t.Helper()
	frame[bit/8] ^= 1 << (bit % 8)
	wantNext(t, frame, 0, nil, 0, api.ErrSum)
	wantGood(t, frame, 0, api.ErrSum)
	frame[bit/8] ^= 1 << (bit % 8)
}

func TestOneBitTurnedAnywhere(t *testing.T) {
	for _, n := range []int{0, 1, 2, 5, 64, 300} {
		frame := frameOf(t, noise(n))
		for bit := range len(frame) * 8 {
			wantTurned(t, frame, bit)
		}
	}
}

func TestOneBitTurnedInTheLongestFrame(t *testing.T) {
	frame := frameOf(t, noise(api.MaxFrame))
	for bit := range head * 8 {
		wantTurned(t, frame, bit)
	}
	for bit := head * 8; bit < len(frame)*8; bit += 7919 {
		wantTurned(t, frame, bit)
	}
	wantTurned(t, frame, len(frame)*8-1)
}

func TestABeginningIsShort(t *testing.T) {
	for _, n := range []int{0, 1, 2, 5, 64, 300} {
		frame := frameOf(t, noise(n))
		for cut := range frame {
			wantNext(t, slices.Clone(frame[:cut]), 0, nil, 0, api.ErrShort)
		}
	}
	frame := frameOf(t, noise(api.MaxFrame))
	for cut := 0; cut < len(frame); cut += 997 {
		wantNext(t, frame[:cut], 0, nil, 0, api.ErrShort)
	}
	wantNext(t, frame[:len(frame)-1], 0, nil, 0, api.ErrShort)
}
