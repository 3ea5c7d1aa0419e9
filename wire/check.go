package wire

import (
	"raceway/api"
	"raceway/place"
)

// maxErr is the greatest error that a reply may have.
const maxErr = 255

func checkReply(r api.Reply) api.Errno {
	return judge(rightReply(r), shortReply(r))
}

// judge has one place for the order: whatever is wrong anywhere goes ahead of whatever is too long.
func judge(right, short bool) api.Errno {
	switch {
	case !right:
		return api.ErrArg
	case !short:
		return api.ErrLong
	}
	return api.OK
}

func rightCmd(c api.Cmd) bool {
	return upTo(api.CmChart, c.Kind) &&
		upTo(api.MaxTime, c.Client, c.Num, c.Time, c.Queue, c.Max, c.Secs, c.To) &&
		rightReceipt(c.Receipt) &&
		(c.Range == api.Range{} || place.May(c.Range))
}

func shortCmd(c api.Cmd) bool {
	return fit(api.MaxName, c.Group, c.Token, c.Attempt, c.Receipt.Group) &&
		fit(api.MaxBody, c.Body) &&
		shortData(c.Data)
}

func rightReply(r api.Reply) bool {
	return upTo(maxErr, int(r.Err)) &&
		upTo(api.MaxTime, r.Seq, r.N) &&
		each(r.Got, rightGot) &&
		each(r.About, place.May)
}

func shortReply(r api.Reply) bool {
	return len(r.Got) <= api.MaxItems && each(r.Got, shortGot) &&
		shortData(r.Data) &&
		len(r.About) <= api.MaxItems
}

func rightGot(g api.Got) bool {
	return rightReceipt(g.Receipt) && upTo(api.MaxTime, g.Sent)
}

func shortGot(g api.Got) bool {
	return fit(api.MaxName, g.Receipt.Group) && fit(api.MaxBody, g.Body)
}

func rightReceipt(r api.Receipt) bool {
	return upTo(api.MaxTime, r.Queue, r.Seq, r.Count)
}

func shortData(l []string) bool {
	return len(l) <= api.MaxItems && fit(api.MaxText, l...)
}

// upTo tells whether all numbers are from 0 to a limit.
func upTo(limit int, l ...int) bool {
	return each(l, func(n int) bool { return 0 <= n && n <= limit })
}

// fit tells whether all texts have at most so many bytes.
func fit(limit int, l ...string) bool {
	return each(l, func(s string) bool { return len(s) <= limit })
}

func each[T any](l []T, is func(T) bool) bool {
	for _, x := range l {
		if !is(x) {
			return false
		}
	}
	return true
}
