package field

import "portmanteau/api"

// A text begins with a number of textWidth bytes that says how many follow, so it has at most textMost.
const (
	textWidth = 2
	textMost  = 65535
)

// Writer takes numbers, bytes and texts, up to the first thing that is wrong.
type Writer struct {
	b    []byte
	most int
	e    api.Errno
}

// NewWriter takes at most so many bytes in all.
func NewWriter(most int) *Writer {
	return &Writer{most: max(most, 0)}
}

// stopped says that nothing is taken any more.
func (w *Writer) stopped() bool {
	return w == nil || w.e != api.OK
}

// grow makes room for n further bytes and hands it out, or stops and hands out nothing.
func (w *Writer) grow(n int) []byte {
	if n > w.most-len(w.b) {
		w.e = api.ErrLong
		return nil
	}
	from := len(w.b)
	w.b = append(w.b, make([]byte, n)...)
	return w.b[from:]
}

// Num takes a number.
func (w *Writer) Num(n uint64, width int) {
	if w.stopped() {
		return
	}
	if w.e = checkNumber(n, width); w.e != api.OK {
		return
	}
	lay(w.grow(width), n)
}

// Bytes takes some bytes.
func (w *Writer) Bytes(b []byte) {
	if w.stopped() {
		return
	}
	copy(w.grow(len(b)), b)
}

// Text takes a text: how many bytes it has, and these.
func (w *Writer) Text(b []byte) {
	if w.stopped() {
		return
	}
	if len(b) > textMost {
		w.e = api.ErrRange
		return
	}
	room := w.grow(textWidth + len(b))
	if w.e != api.OK {
		return
	}
	lay(room[:textWidth], uint64(len(b)))
	copy(room[textWidth:], b)
}

// Len tells how many bytes were taken.
func (w *Writer) Len() int {
	if w == nil {
		return 0
	}
	return len(w.b)
}

// Done tells the bytes that were taken, or what was wrong; the writer may go on behind that.
func (w *Writer) Done() ([]byte, api.Errno) {
	if w == nil {
		return nil, api.ErrNil
	}
	if w.e != api.OK {
		return nil, w.e
	}
	return fresh(w.b), api.OK
}
