package field_test

import (
	"bytes"
	"math"
	"testing"

	"portmanteau/api"
	"portmanteau/field"
)

// wantPlace holds a reader's Err and Left against what they must be.
func wantPlace(t *testing.T, what string, r *field.Reader, at, left int, e api.Errno) {
	t.Helper()
	if gotAt, got := r.Err(); gotAt != at || got != e || r.Left() != left {
		t.Errorf("%s: at %d, %d left, error %d; not at %d, %d left, error %d", what, gotAt, r.Left(), got, at, left, e)
	}
}

// wantStopped calls whatever a reader has and holds what it answers against nothing, and Err and Left against what they were.
func wantStopped(t *testing.T, what string, r *field.Reader) {
	t.Helper()
	at, e := r.Err()
	left := r.Left()
	for _, n := range []int{0, 1, 2, 4, 8, 3, -1, 65535, math.MaxInt, math.MinInt} {
		if k, b, s := r.Num(n), r.Bytes(n), r.Text(n); k != 0 || len(b) != 0 || len(s) != 0 {
			t.Errorf("%s, behind the fault, %d: %d %v %v", what, n, k, b, s)
		}
		wantPlace(t, what+", behind the fault", r, at, left, e)
	}
}

func TestReaderGoesThroughBytes(t *testing.T) {
	r := field.NewReader([]byte{1, 2, 1, 4, 3, 2, 1, 8, 7, 6, 5, 4, 3, 2, 1, 'x', 'y', 2, 0, 'a', 'b', 0, 0, 9})
	wantPlace(t, "new", r, 0, 24, api.OK)
	if n := r.Num(1); n != 1 {
		t.Error(n)
	}
	wantPlace(t, "behind Num(1)", r, 1, 23, api.OK)
	if n := r.Num(2); n != 0x0102 {
		t.Error(n)
	}
	wantPlace(t, "behind Num(2)", r, 3, 21, api.OK)
	if n := r.Num(4); n != 0x01020304 {
		t.Error(n)
	}
	wantPlace(t, "behind Num(4)", r, 7, 17, api.OK)
	if n := r.Num(8); n != 0x0102030405060708 {
		t.Error(n)
	}
	wantPlace(t, "behind Num(8)", r, 15, 9, api.OK)
	if b := r.Bytes(2); string(b) != "xy" {
		t.Error(b)
	}
	wantPlace(t, "behind Bytes(2)", r, 17, 7, api.OK)
	if b := r.Bytes(0); len(b) != 0 {
		t.Error(b)
	}
	wantPlace(t, "behind Bytes(0)", r, 17, 7, api.OK)
	if s := r.Text(2); string(s) != "ab" {
		t.Error(s)
	}
	wantPlace(t, "behind Text(2)", r, 21, 3, api.OK)
	if s := r.Text(0); len(s) != 0 {
		t.Error(s)
	}
	wantPlace(t, "behind Text(0)", r, 23, 1, api.OK)
	if n := r.Num(1); n != 9 {
		t.Error(n)
	}
	wantPlace(t, "behind all", r, 24, 0, api.OK)
	if b := r.Bytes(0); len(b) != 0 {
		t.Error(b)
	}
	wantPlace(t, "none behind all", r, 24, 0, api.OK)
}

func TestReaderOfNothing(t *testing.T) {
	for _, b := range [][]byte{nil, {}} {
		r := field.NewReader(b)
		if x := r.Bytes(0); len(x) != 0 {
			t.Error(x)
		}
		wantPlace(t, "nothing", r, 0, 0, api.OK)
		if n := r.Num(1); n != 0 {
			t.Error(n)
		}
		wantPlace(t, "nothing", r, 0, 0, api.ErrForm)
		wantStopped(t, "nothing", r)
	}
}

func TestReaderFaults(t *testing.T) {
	text := func(most int) func(*field.Reader) int {
		return func(r *field.Reader) int { return len(r.Text(most)) }
	}
	some := func(n int) func(*field.Reader) int {
		return func(r *field.Reader) int { return len(r.Bytes(n)) }
	}
	num := func(width int) func(*field.Reader) int {
		return func(r *field.Reader) int { return int(r.Num(width)) }
	}
	for _, c := range []struct {
		what string
		rest []byte // behind three bytes that were read
		do   func(*field.Reader) int
		want api.Errno
	}{
		{"a number of 1 byte, none there", nil, num(1), api.ErrForm},
		{"a number of 2 bytes, 1 there", []byte{1}, num(2), api.ErrForm},
		{"a number of 4 bytes, 3 there", []byte{1, 1, 1}, num(4), api.ErrForm},
		{"a number of 8 bytes, 7 there", []byte{1, 1, 1, 1, 1, 1, 1}, num(8), api.ErrForm},
		{"5 bytes, 4 there", []byte{1, 1, 1, 1}, some(5), api.ErrForm},
		{"1 byte, none there", nil, some(1), api.ErrForm},
		{"far too many bytes", []byte{1}, some(math.MaxInt), api.ErrForm},
		{"bytes below 0", []byte{1}, some(-1), api.ErrArg},
		{"bytes far below 0", []byte{1}, some(math.MinInt), api.ErrArg},
		{"bytes below 0, none there", nil, some(-1), api.ErrArg},
		{"a text, none there", nil, text(9), api.ErrForm},
		{"a text, 1 byte there", []byte{0}, text(9), api.ErrForm},
		{"a text, 1 byte there, of none at most", []byte{7}, text(0), api.ErrForm},
		{"a text with 1 byte less than it tells", []byte{3, 0, 'a', 'b'}, text(9), api.ErrForm},
		{"a text with 1 byte less than it tells, just most", []byte{3, 0, 'a', 'b'}, text(3), api.ErrForm},
		{"a text without the bytes it tells", []byte{255, 255}, text(math.MaxInt), api.ErrForm},
		{"a text of 1 more than most", []byte{3, 0, 'a', 'b', 'c'}, text(2), api.ErrLong},
		{"a text of 1 more than none", []byte{1, 0, 'a'}, text(0), api.ErrLong},
		{"a text of more than most, and than there are", []byte{3, 0, 'a'}, text(2), api.ErrLong},
		{"a text of 256 bytes, 255 at most", []byte{0, 1, 'a'}, text(255), api.ErrLong},
		{"a text of most below 0", []byte{1, 0, 'a'}, text(-1), api.ErrArg},
		{"a text of most far below 0", []byte{0, 0}, text(math.MinInt), api.ErrArg},
		{"a text of most below 0, none there", nil, text(-1), api.ErrArg},
	} {
		r := field.NewReader(append([]byte{7, 8, 9}, c.rest...))
		r.Bytes(3)
		if n := c.do(r); n != 0 {
			t.Errorf("%s: answers %d", c.what, n)
		}
		wantPlace(t, c.what, r, 3, len(c.rest), c.want)
		wantStopped(t, c.what, r)
	}
}

func TestReaderWidths(t *testing.T) {
	for _, width := range noWidths {
		for _, rest := range [][]byte{nil, {1}, make([]byte, 300)} {
			r := field.NewReader(append([]byte{5}, rest...))
			r.Num(1)
			if n := r.Num(width); n != 0 {
				t.Errorf("width %d: %d", width, n)
			}
			wantPlace(t, "a width that is none", r, 1, len(rest), api.ErrArg)
			wantStopped(t, "a width that is none", r)
		}
	}
}

// A fault stays, also where something else is wrong later on.
func TestReaderKeepsItsFirstFault(t *testing.T) {
	r := field.NewReader([]byte{1, 0, 'a', 'b'})
	r.Text(0)
	r.Num(3)
	r.Bytes(99)
	wantPlace(t, "first ErrLong", r, 0, 4, api.ErrLong)
	r = field.NewReader([]byte{1, 0, 'a', 'b'})
	r.Bytes(5)
	r.Text(0)
	r.Num(3)
	wantPlace(t, "first ErrForm", r, 0, 4, api.ErrForm)
	r = field.NewReader([]byte{1, 0, 'a', 'b'})
	r.Num(3)
	r.Text(0)
	r.Bytes(5)
	wantPlace(t, "first ErrArg", r, 0, 4, api.ErrArg)
}

func TestReaderLongTexts(t *testing.T) {
	b := append([]byte{255, 255}, bytes.Repeat([]byte("z"), 65535)...)
	for _, most := range []int{65535, 65536, math.MaxInt} {
		r := field.NewReader(b)
		if s := r.Text(most); !bytes.Equal(s, b[2:]) {
			t.Errorf("at most %d: %d bytes", most, len(s))
		}
		wantPlace(t, "a text of 65535 bytes", r, 65537, 0, api.OK)
	}
	r := field.NewReader(b)
	if s := r.Text(65534); len(s) != 0 {
		t.Errorf("at most 65534: %d bytes", len(s))
	}
	wantPlace(t, "a text of 65535 bytes, 65534 at most", r, 0, 65537, api.ErrLong)
	r = field.NewReader(b[:65536])
	if s := r.Text(65535); len(s) != 0 {
		t.Errorf("of 65534 bytes that are there: %d bytes", len(s))
	}
	wantPlace(t, "a text of 65535 bytes, 65534 there", r, 0, 65536, api.ErrForm)
}

func TestReaderKeepsNoForeignMemory(t *testing.T) {
	was := []byte{2, 0, 'a', 'b', 'c', 'd', 1}
	b := withRoom(was)
	r := field.NewReader(b)
	spoil(b)
	s := r.Text(2)
	x := r.Bytes(2)
	if string(s) != "ab" || string(x) != "cd" || r.Num(1) != 1 {
		t.Error("the reader told what was changed behind NewReader:", s, x)
	}
	b = withRoom(was)
	r = field.NewReader(b)
	s = r.Text(2)
	spoil(s)
	x = r.Bytes(2)
	if string(x) != "cd" {
		t.Error("a text shares memory with the reader:", x)
	}
	spoil(x)
	if r.Num(1) != 1 || !sameRoom(b, was) {
		t.Error("an answer shares memory with the reader, or with what it was handed")
	}
}

// Spare room behind what a reader is handed is not read.
func TestReaderEndsAtTheLastByte(t *testing.T) {
	r := field.NewReader(withRoom([]byte{1, 2}))
	if n := r.Num(4); n != 0 {
		t.Error(n)
	}
	wantPlace(t, "spare room", r, 0, 2, api.ErrForm)
}

func TestNilReader(t *testing.T) {
	var r *field.Reader
	for _, n := range []int{1, 2, 4, 8, 0, 3, -1, math.MaxInt, math.MinInt} {
		if k, b, s := r.Num(n), r.Bytes(n), r.Text(n); k != 0 || len(b) != 0 || len(s) != 0 {
			t.Error(n, k, b, s)
		}
		wantPlace(t, "nil", r, 0, 0, api.ErrNil)
	}
}

// The zero value's answers are open, but none of them panics.
func TestZeroReaderEnds(t *testing.T) {
	for _, n := range []int{0, 1, -1, math.MaxInt} {
		var r field.Reader
		r.Num(n)
		r = field.Reader{}
		r.Bytes(n)
		r = field.Reader{}
		r.Text(n)
		r.Left()
		r.Err()
	}
}
