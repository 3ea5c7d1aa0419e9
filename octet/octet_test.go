package octet_test

import (
	"bytes"
	"math"
	"slices"
	"strings"
	"testing"

	"raceway/api"
	"raceway/octet"
)

// form is a writer and a reader of one kind of thing, so that a test can go over all kinds.
type form[T any] struct {
	write func([]byte, T) ([]byte, api.Errno)
	read  func([]byte) (T, int, api.Errno)
	same  func(T, T) bool
}

var (
	numForm   = form[int]{octet.Num, octet.ReadNum, func(a, b int) bool { return a == b }}
	textForm  = form[string]{octet.Text, octet.ReadText, func(a, b string) bool { return a == b }}
	numsForm  = form[[]int]{octet.Nums, octet.ReadNums, slices.Equal[[]int]}
	textsForm = form[[]string]{octet.Texts, octet.ReadTexts, slices.Equal[[]string]}
)

// written is a thing and the bytes that the document gives it.
type written[T any] struct {
	x T
	b string
}

var nums = []written[int]{
	{0, "\x00"},
	{1, "\x01"},
	{127, "\x7f"},
	{128, "\x80\x01"},
	{129, "\x81\x01"},
	{255, "\xff\x01"},
	{256, "\x80\x02"},
	{300, "\xac\x02"},
	{1<<14 - 1, "\xff\x7f"},
	{1 << 14, "\x80\x80\x01"},
	{1<<21 - 1, "\xff\xff\x7f"},
	{1 << 21, "\x80\x80\x80\x01"},
	{1 << 28, "\x80\x80\x80\x80\x01"},
	{1<<31 - 1, "\xff\xff\xff\xff\x07"},
	{1 << 32, "\x80\x80\x80\x80\x10"},
	{1 << 35, "\x80\x80\x80\x80\x80\x01"},
	{1 << 42, "\x80\x80\x80\x80\x80\x80\x01"},
	{1 << 49, "\x80\x80\x80\x80\x80\x80\x80\x01"},
	{1<<56 - 1, "\xff\xff\xff\xff\xff\xff\xff\x7f"},
	{1 << 56, "\x80\x80\x80\x80\x80\x80\x80\x80\x01"},
	{1<<62 - 1, "\xff\xff\xff\xff\xff\xff\xff\xff\x3f"},
	{1 << 62, "\x80\x80\x80\x80\x80\x80\x80\x80\x40"},
}

var texts = []written[string]{
	{"", "\x00"},
	{"a", "\x01a"},
	{"ab", "\x02ab"},
	{"\x00\xff\x80", "\x03\x00\xff\x80"},
	{strings.Repeat("x", 127), "\x7f" + strings.Repeat("x", 127)},
	{strings.Repeat("x", 128), "\x80\x01" + strings.Repeat("x", 128)},
	{strings.Repeat("y", 4095), "\xff\x1f" + strings.Repeat("y", 4095)},
	{strings.Repeat("y", 4096), "\x80\x20" + strings.Repeat("y", 4096)},
}

var numLists = []written[[]int]{
	{nil, "\x00"},
	{[]int{}, "\x00"},
	{[]int{0}, "\x01\x00"},
	{[]int{5, 300, 1 << 62}, "\x03\x05\xac\x02\x80\x80\x80\x80\x80\x80\x80\x80\x40"},
	{make([]int, 1023), "\xff\x07" + strings.Repeat("\x00", 1023)},
	{make([]int, 1024), "\x80\x08" + strings.Repeat("\x00", 1024)},
}

var textLists = []written[[]string]{
	{nil, "\x00"},
	{[]string{}, "\x00"},
	{[]string{""}, "\x01\x00"},
	{[]string{"a", "", "bc"}, "\x03\x01a\x00\x02bc"},
	{[]string{strings.Repeat("z", 4096), "q"}, "\x02\x80\x20" + strings.Repeat("z", 4096) + "\x01q"},
	{make([]string, 1024), "\x80\x08" + strings.Repeat("\x00", 1024)},
}

// P1.1: what is written, behind a copy of b.
func TestWritten(t *testing.T) {
	checkWritten(t, numForm, nums)
	checkWritten(t, textForm, texts)
	checkWritten(t, numsForm, numLists)
	checkWritten(t, textsForm, textLists)
}

func checkWritten[T any](t *testing.T, f form[T], cases []written[T]) {
	t.Helper()
	for i, c := range cases {
		for _, front := range []string{"", "x", "\x80\x80", strings.Repeat("front", 100)} {
			got, e := f.write([]byte(front), c.x)
			if string(got) != front+c.b || e != api.OK {
				t.Errorf("%T %d behind %q: % x, error %d", c.x, i, front, got, e)
			}
		}
		if got, e := f.write(nil, c.x); string(got) != c.b || e != api.OK {
			t.Errorf("%T %d behind nil: % x, error %d", c.x, i, got, e)
		}
	}
}

// P1.1, Rules 5: neither b nor what lies behind it is written to, and what is answered is new memory.
func TestWrittenIsNewMemory(t *testing.T) {
	checkNewMemory(t, numForm, 300)
	checkNewMemory(t, textForm, "ab")
	checkNewMemory(t, numsForm, []int{1, 2})
	checkNewMemory(t, textsForm, []string{"a", "b"})
}

func checkNewMemory[T any](t *testing.T, f form[T], x T) {
	t.Helper()
	memory := bytes.Repeat([]byte{7}, 64)
	for _, size := range []int{0, 1, 10} {
		got, e := f.write(memory[:size], x)
		if e != api.OK {
			t.Fatalf("%T: error %d", x, e)
		}
		for i := range got {
			got[i] = 9
		}
		if !bytes.Equal(memory, bytes.Repeat([]byte{7}, 64)) {
			t.Fatalf("%T behind %d bytes: the caller's memory was written to", x, size)
		}
	}
	one, _ := f.write(nil, x)
	two, _ := f.write(nil, x)
	one[0]++
	if one[0] == two[0] {
		t.Errorf("%T: two answers share memory", x)
	}
}

// P1.1, Rules 5: a list that is handed in is not changed.
func TestListsAreLeftAsTheyWere(t *testing.T) {
	n, s := []int{3, 1, 2}, []string{"c", "a", "b"}
	octet.Nums(nil, n)
	octet.Texts(nil, s)
	if !slices.Equal(n, []int{3, 1, 2}) || !slices.Equal(s, []string{"c", "a", "b"}) {
		t.Error(n, s)
	}
}

// refused is a thing that can't be written, and why.
type refused[T any] struct {
	x T
	e api.Errno
}

// P1.1: what can't be written: nil and an error.
func TestRefused(t *testing.T) {
	long := strings.Repeat("x", 4097)
	checkRefused(t, numForm, []refused[int]{
		{-1, api.ErrArg},
		{math.MinInt, api.ErrArg},
		{1<<62 + 1, api.ErrArg},
		{math.MaxInt, api.ErrArg},
	})
	checkRefused(t, textForm, []refused[string]{
		{long, api.ErrLong},
		{strings.Repeat("x", 1<<20), api.ErrLong},
	})
	checkRefused(t, numsForm, []refused[[]int]{
		{[]int{-1}, api.ErrArg},
		{[]int{1, 2, 1<<62 + 1}, api.ErrArg},
		{make([]int, 1025), api.ErrLong},
		{slices.Repeat([]int{-1}, 1025), api.ErrLong},
		{slices.Repeat([]int{-1}, 1024), api.ErrArg},
		{append(make([]int, 1023), -1), api.ErrArg},
	})
	checkRefused(t, textsForm, []refused[[]string]{
		{[]string{long}, api.ErrLong},
		{[]string{"a", "b", long}, api.ErrLong},
		{make([]string, 1025), api.ErrLong},
		{slices.Repeat([]string{long}, 1025), api.ErrLong},
	})
}

func checkRefused[T any](t *testing.T, f form[T], cases []refused[T]) {
	t.Helper()
	for i, c := range cases {
		for _, front := range [][]byte{nil, []byte("front")} {
			if got, e := f.write(front, c.x); got != nil || e != c.e {
				t.Errorf("%T %d behind %q: % x, error %d, not %d", c.x, i, front, got, e, c.e)
			}
		}
	}
}

// behind is what may stand behind what is read.
var behind = []string{"", "\x00", "\x01", "\x7f", "\x80", "\xff", "\x80\x00", strings.Repeat("\xff", 20)}

// P1.2, P1.3: what is written is read as it was, with its size, whatever stands behind.
func TestReadAsWritten(t *testing.T) {
	checkReadAsWritten(t, numForm, nums)
	checkReadAsWritten(t, textForm, texts)
	checkReadAsWritten(t, numsForm, numLists)
	checkReadAsWritten(t, textsForm, textLists)
}

func checkReadAsWritten[T any](t *testing.T, f form[T], cases []written[T]) {
	t.Helper()
	for i, c := range cases {
		for _, s := range behind {
			b := []byte(c.b + s)
			x, size, e := f.read(b)
			if !f.same(x, c.x) || size != len(c.b) || e != api.OK {
				t.Errorf("%T %d ahead of % x: size %d, error %d", c.x, i, s, size, e)
			}
			if string(b) != c.b+s {
				t.Errorf("%T %d: what was handed in was changed", c.x, i)
			}
		}
	}
}

// P1.3: each number near a power of two, and each length near a limit, comes back.
func TestRoundTrip(t *testing.T) {
	for shift := range 63 {
		for off := -2; off <= 2; off++ {
			if n := 1<<shift + off; n >= 0 && n <= api.MaxNum {
				checkRoundTrip(t, numForm, n)
				checkRoundTrip(t, numsForm, []int{n, 0, n})
			}
		}
	}
	for _, size := range []int{0, 1, 2, 126, 127, 128, 129, 1000, 4094, 4095, 4096} {
		s := strings.Repeat("\xfe", size)
		checkRoundTrip(t, textForm, s)
		checkRoundTrip(t, textsForm, []string{"", s, "end"})
	}
	for _, size := range []int{0, 1, 127, 128, 129, 1023, 1024} {
		n, s := make([]int, size), make([]string, size)
		for i := range size {
			n[i], s[i] = i*i*i, strings.Repeat("k", i%5)
		}
		checkRoundTrip(t, numsForm, n)
		checkRoundTrip(t, textsForm, s)
	}
}

func checkRoundTrip[T any](t *testing.T, f form[T], x T) {
	t.Helper()
	b, e := f.write(nil, x)
	if e != api.OK {
		t.Fatalf("%T: error %d", x, e)
	}
	got, size, e := f.read(append(bytes.Clone(b), "\x81\x02\x03"...))
	if !f.same(got, x) || size != len(b) || e != api.OK {
		t.Errorf("%T % .20x: size %d, error %d", x, b, size, e)
	}
}

// P1.2, P1.3: what is cut anywhere is short, even if the rest lies behind it in memory.
func TestCutIsShort(t *testing.T) {
	checkCuts(t, numForm, nums)
	checkCuts(t, textForm, texts)
	checkCuts(t, numsForm, numLists)
	checkCuts(t, textsForm, textLists)
}

func checkCuts[T any](t *testing.T, f form[T], cases []written[T]) {
	t.Helper()
	var zero T
	for i, c := range cases {
		b := []byte(c.b)
		for size := range len(b) {
			for _, cut := range [][]byte{b[:size], b[:size:size]} {
				if x, k, e := f.read(cut); !f.same(x, zero) || k != 0 || e != api.ErrShort {
					t.Fatalf("%T %d cut at %d: size %d, error %d", c.x, i, size, k, e)
				}
			}
		}
	}
}

// wrong is bytes that can't be read, and why.
type wrong struct {
	b string
	e api.Errno
}

var wrongNums = []wrong{
	{"", api.ErrShort},
	{"\x80", api.ErrShort},
	{"\xff", api.ErrShort},
	{"\x80\x80", api.ErrShort},
	{"\x80\x80\x80\x80\x80\x80\x80\x80", api.ErrShort},
	{"\xff\xff\xff\xff\xff\xff\xff\xff", api.ErrShort},
	{"\x80\x00", api.ErrForm},
	{"\xff\x00", api.ErrForm},
	{"\x80\x80\x00", api.ErrForm},
	{"\x80\x81\x00", api.ErrForm},
	{"\xff\xff\xff\xff\xff\xff\xff\xff\x00", api.ErrForm},
	{"\x80\x80\x80\x80\x80\x80\x80\x80\x41", api.ErrForm},
	{"\x81\x80\x80\x80\x80\x80\x80\x80\x40", api.ErrForm},
	{"\x80\x80\x80\x80\x80\x80\x80\x81\x40", api.ErrForm},
	{"\xff\xff\xff\xff\xff\xff\xff\xff\x40", api.ErrForm},
	{"\xff\xff\xff\xff\xff\xff\xff\xff\x7f", api.ErrForm},
	// above MaxNum at the ninth byte, which asks for more
	{"\x80\x80\x80\x80\x80\x80\x80\x80\xc1", api.ErrForm},
	{"\xff\xff\xff\xff\xff\xff\xff\xff\xff", api.ErrForm},
	// ten bytes
	{"\x80\x80\x80\x80\x80\x80\x80\x80\x80\x00", api.ErrForm},
	{"\x80\x80\x80\x80\x80\x80\x80\x80\x80\x01", api.ErrForm},
	{"\x80\x80\x80\x80\x80\x80\x80\x80\x80\x02", api.ErrForm},
	{"\x80\x80\x80\x80\x80\x80\x80\x80\xc0\x00", api.ErrForm},
	{"\x81\x80\x80\x80\x80\x80\x80\x80\x80\x80", api.ErrForm},
	{"\xff\xff\xff\xff\xff\xff\xff\xff\xff\x01", api.ErrForm},
	{"\x80\x80\x80\x80\x80\x80\x80\x80\x80\x80\x01", api.ErrForm},
	{"\x80\x80\x80\x80\x80\x80\x80\x80\x80\x80\x80\x80\x80\x80\x80\x80\x80\x80\x01", api.ErrForm},
}

// wrongCounts is what no text and no list begins with, and what is wrong as a number.
var wrongCounts = []wrong{
	{"", api.ErrShort},
	{"\x80", api.ErrShort},
	{"\xff", api.ErrShort},
	{"\x80\x00", api.ErrForm},
	{"\xff\x00", api.ErrForm},
}

var wrongTexts = []wrong{
	{"\x01", api.ErrShort},
	{"\x03ab", api.ErrShort},
	{"\x80\x20", api.ErrShort},
	{"\x80\x20" + strings.Repeat("x", 4095), api.ErrShort},
	{"\x81\x20", api.ErrLong},
	{"\x81\x20" + strings.Repeat("x", 4097), api.ErrLong},
	{"\xff\x7f", api.ErrLong},
	{"\x80\x80\x80\x80\x80\x80\x80\x80\x40", api.ErrLong},
}

var wrongNumLists = []wrong{
	{"\x01", api.ErrShort},
	{"\x02\x05", api.ErrShort},
	{"\x02\x05\x80", api.ErrShort},
	{"\x80\x08" + strings.Repeat("\x00", 1023), api.ErrShort},
	{"\x81\x08", api.ErrLong},
	{"\x81\x08" + strings.Repeat("\x00", 1025), api.ErrLong},
	{"\x81\x08\x80\x00", api.ErrLong},
	{"\x80\x80\x80\x80\x80\x80\x80\x80\x40", api.ErrLong},
	{"\x01\x80\x00", api.ErrForm},
	{"\x02\x05\x80\x00", api.ErrForm},
	{"\x03\x80\x00", api.ErrForm},
	{"\x01\x81\x80\x80\x80\x80\x80\x80\x80\x40", api.ErrForm},
	{"\x01\x80\x80\x80\x80\x80\x80\x80\x80\x80\x01", api.ErrForm},
}

var wrongTextLists = []wrong{
	{"\x01", api.ErrShort},
	{"\x02\x01a", api.ErrShort},
	{"\x02\x01a\x02b", api.ErrShort},
	{"\x01\x80", api.ErrShort},
	{"\x81\x08", api.ErrLong},
	{"\x81\x08" + strings.Repeat("\x00", 1025), api.ErrLong},
	{"\x01\x81\x20", api.ErrLong},
	{"\x03\x01a\x81\x20", api.ErrLong},
	{"\x02\x80\x00", api.ErrForm},
	{"\x02\x01a\x80\x00", api.ErrForm},
	{"\x03\x81\x20\x80\x00", api.ErrLong},
	{"\x03\x80\x00\x81\x20", api.ErrForm},
}

// P1.2: what can't be read: zeros and the error of the first byte that is wrong.
func TestWrong(t *testing.T) {
	checkWrong(t, numForm, wrongNums)
	checkWrong(t, textForm, slices.Concat(wrongCounts, wrongTexts))
	checkWrong(t, numsForm, slices.Concat(wrongCounts, wrongNumLists))
	checkWrong(t, textsForm, slices.Concat(wrongCounts, wrongTextLists))
}

func checkWrong[T any](t *testing.T, f form[T], cases []wrong) {
	t.Helper()
	var zero T
	for _, c := range cases {
		x, size, e := f.read([]byte(c.b))
		if !f.same(x, zero) || size != 0 || e != c.e {
			t.Errorf("%T % .20x: %v, size %d, error %d, not %d", x, c.b, x, size, e, c.e)
		}
	}
	if x, size, e := f.read(nil); !f.same(x, zero) || size != 0 || e != api.ErrShort {
		t.Errorf("%T of nil: %v, size %d, error %d", x, x, size, e)
	}
}

// P1.2: once bytes are wrong, not short, nothing that stands behind makes them other.
func TestWrongStaysWrong(t *testing.T) {
	checkStaysWrong(t, numForm, wrongNums)
	checkStaysWrong(t, textForm, wrongTexts)
	checkStaysWrong(t, numsForm, wrongNumLists)
	checkStaysWrong(t, textsForm, wrongTextLists)
}

func checkStaysWrong[T any](t *testing.T, f form[T], cases []wrong) {
	t.Helper()
	for _, c := range cases {
		for _, s := range behind {
			if _, _, e := f.read([]byte(c.b + s)); c.e != api.ErrShort && e != c.e {
				t.Errorf("% .20x ahead of % x: error %d, not %d", c.b, s, e, c.e)
			}
		}
	}
}

// P1.2: a ninth byte that asks for a tenth is the first with which nothing right goes on, so that the end behind it is not what is told.
func TestNinthByteAsksForTenth(t *testing.T) {
	for _, last := range []string{"\x80", "\x81", "\xbf", "\xc0"} {
		if n, size, e := octet.ReadNum([]byte("\x80\x80\x80\x80\x80\x80\x80\x80" + last)); n != 0 || size != 0 || e != api.ErrForm {
			t.Errorf("% x: %d, size %d, error %d", last, n, size, e)
		}
	}
}

// P1.3: nothing but what is written is read as it: whatever is read, its size's bytes are those that it has.
func TestNothingElseIsRead(t *testing.T) {
	alphabet := []byte{0, 1, 2, 3, 8, 0x20, 0x40, 0x7f, 0x80, 0x81, 0xc0, 0xff}
	for size := range 6 {
		eachWord(alphabet, make([]byte, size), 0, func(b []byte) {
			checkOwnBytes(t, numForm, b)
			checkOwnBytes(t, textForm, b)
			checkOwnBytes(t, numsForm, b)
			checkOwnBytes(t, textsForm, b)
		})
	}
	for _, last := range []byte{0, 1, 0x3f, 0x40, 0x41, 0x7f, 0x80, 0xc0, 0xff} {
		for _, first := range []byte{0x80, 0x81, 0xff} {
			b := append([]byte{first}, "\x80\x80\x80\x80\x80\x80\x80"...)
			checkOwnBytes(t, numForm, append(b, last, 1))
		}
	}
}

// eachWord fills b from the place at on in all ways.
func eachWord(alphabet, b []byte, at int, do func([]byte)) {
	if at == len(b) {
		do(b)
		return
	}
	for _, c := range alphabet {
		b[at] = c
		eachWord(alphabet, b, at+1, do)
	}
}

func checkOwnBytes[T any](t *testing.T, f form[T], b []byte) {
	t.Helper()
	x, size, e := f.read(b)
	if e != api.OK {
		return
	}
	if size < 1 || size > len(b) {
		t.Fatalf("%T % x: size %d", x, b, size)
	}
	if own, e := f.write(nil, x); e != api.OK || !bytes.Equal(own, b[:size]) {
		t.Fatalf("% x is read as %v, which has % x", b, x, own)
	}
}

// Rules 5: what is read is new memory.
func TestReadIsNewMemory(t *testing.T) {
	b := []byte("\x02\x01a\x01b")
	s, _, _ := octet.ReadText(b[1:])
	l, _, _ := octet.ReadTexts(b)
	clear(b)
	if s != "a" || !slices.Equal(l, []string{"a", "b"}) {
		t.Error(s, l)
	}
	b = []byte{2, 5, 6}
	one, _, _ := octet.ReadNums(b)
	two, _, _ := octet.ReadNums(b)
	one[0] = 9
	if two[0] != 5 {
		t.Error(two)
	}
}
