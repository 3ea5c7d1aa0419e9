// Package octet is layer 1: see shared/doc/01-octet.md.
package octet

import "raceway/api"

// A number's byte carries the lowest bits that are left; more tells that others follow.
const (
	bitsPerByte = 7
	more        = 1 << bitsPerByte
	longestNum  = 9 // bytes of api.MaxNum
)

// Num, Text, Nums and Texts write behind bytes.
func Num(b []byte, n int) ([]byte, api.Errno)        { return addNum(clone(b), n) }
func Text(b []byte, s string) ([]byte, api.Errno)    { return addText(clone(b), s) }
func Nums(b []byte, l []int) ([]byte, api.Errno)     { return addList(clone(b), l, addNum) }
func Texts(b []byte, l []string) ([]byte, api.Errno) { return addList(clone(b), l, addText) }

// ReadNum, ReadText, ReadNums and ReadTexts read what bytes begin with.
func ReadNum(b []byte) (n, size int, e api.Errno) {
	for i := range longestNum {
		if i == len(b) {
			return 0, 0, api.ErrShort
		}
		// 63 bits fill nine bytes: no sum of them wraps round.
		n += int(b[i]%more) << (i * bitsPerByte)
		if n > api.MaxNum || b[i] == 0 && i > 0 {
			return 0, 0, api.ErrForm
		}
		if b[i] < more {
			return n, i + 1, api.OK
		}
	}
	// The ninth byte asks for a tenth: whatever that is, it can't be right.
	return 0, 0, api.ErrForm
}

func ReadText(b []byte) (s string, size int, e api.Errno) {
	n, head, e := readCount(b, api.MaxText)
	if e != api.OK {
		return "", 0, e
	}
	if n > len(b)-head {
		return "", 0, api.ErrShort
	}
	size = head + n
	return string(b[head:size]), size, api.OK
}

func ReadNums(b []byte) (l []int, size int, e api.Errno)     { return readList(b, ReadNum) }
func ReadTexts(b []byte) (l []string, size int, e api.Errno) { return readList(b, ReadText) }

// clone keeps the writers off their callers' memory, of which some may lie behind b's length.
func clone(b []byte) []byte {
	return append(make([]byte, 0, len(b)+longestNum), b...)
}

func addNum(b []byte, n int) ([]byte, api.Errno) {
	if n < 0 || n > api.MaxNum {
		return nil, api.ErrArg
	}
	for ; n >= more; n >>= bitsPerByte {
		b = append(b, byte(n%more+more))
	}
	return append(b, byte(n)), api.OK
}

func addText(b []byte, s string) ([]byte, api.Errno) {
	b, e := addCount(b, len(s), api.MaxText)
	if e != api.OK {
		return nil, e
	}
	return append(b, s...), api.OK
}

// addList writes a list's items by add, which goes on from b itself: a copy for each item would cost the square of them.
func addList[T any](b []byte, l []T, add func([]byte, T) ([]byte, api.Errno)) ([]byte, api.Errno) {
	b, e := addCount(b, len(l), api.MaxItems)
	if e != api.OK {
		return nil, e
	}
	for _, item := range l {
		if b, e = add(b, item); e != api.OK {
			return nil, e
		}
	}
	return b, api.OK
}

// readList reads as many items as the list's count says, each by read.
func readList[T any](b []byte, read func([]byte) (T, int, api.Errno)) ([]T, int, api.Errno) {
	n, size, e := readCount(b, api.MaxItems)
	if e != api.OK {
		return nil, 0, e
	}
	var l []T
	for range n {
		item, k, e := read(b[size:])
		if e != api.OK {
			return nil, 0, e
		}
		l = append(l, item)
		size += k
	}
	return l, size, api.OK
}

func addCount(b []byte, n, limit int) ([]byte, api.Errno) {
	if n > limit {
		return nil, api.ErrLong
	}
	return addNum(b, n)
}

func readCount(b []byte, limit int) (n, size int, e api.Errno) {
	n, size, e = ReadNum(b)
	if e != api.OK {
		return 0, 0, e
	}
	if n > limit {
		return 0, 0, api.ErrLong
	}
	return n, size, api.OK
}
