package field

import "portmanteau/api"

// Reader goes through bytes from the first on, up to the first thing that is wrong.
type Reader struct {
	b  []byte
	at int // the place that comes next; it stays where a fault was
	e  api.Errno
}

// NewReader goes through a copy of b, so that nobody changes what it has yet to tell.
func NewReader(b []byte) *Reader {
	return &Reader{b: fresh(b)}
}

// stopped says that nothing is told any more.
func (r *Reader) stopped() bool {
	return r == nil || r.e != api.OK
}

// Num tells the number that comes next.
func (r *Reader) Num(width int) uint64 {
	if r.stopped() {
		return 0
	}
	n, e := Get(r.b, r.at, width)
	if e != api.OK {
		r.e = inReader(e)
		return 0
	}
	r.at += width
	return n
}

// Bytes tells the n bytes that come next.
func (r *Reader) Bytes(n int) []byte {
	if r.stopped() {
		return nil
	}
	if n < 0 {
		r.e = api.ErrArg
		return nil
	}
	return r.take(0, n)
}

// Text tells the text that comes next, if it has at most so many bytes.
func (r *Reader) Text(most int) []byte {
	if r.stopped() {
		return nil
	}
	if most < 0 {
		r.e = api.ErrArg
		return nil
	}
	n, e := Get(r.b, r.at, textWidth)
	if e != api.OK {
		r.e = inReader(e)
		return nil
	}
	if n > uint64(most) {
		r.e = api.ErrLong
		return nil
	}
	return r.take(textWidth, int(n))
}

// take tells n bytes behind head bytes that are told already, and goes behind all of them.
func (r *Reader) take(head, n int) []byte {
	out, e := Part(r.b, r.at+head, n)
	if e != api.OK {
		r.e = inReader(e)
		return nil
	}
	r.at += head + n
	return out
}

// inReader is what a reader tells of an error: its place is never wrong, so bytes that end too early are.
func inReader(e api.Errno) api.Errno {
	if e == api.ErrRange {
		return api.ErrForm
	}
	return e
}

// Left tells how many bytes there are from Err's place on.
func (r *Reader) Left() int {
	if r == nil {
		return 0
	}
	return len(r.b) - r.at
}

// Err tells the first thing that was wrong and where it began, or the place that comes next.
func (r *Reader) Err() (at int, e api.Errno) {
	if r == nil {
		return 0, api.ErrNil
	}
	return r.at, r.e
}
