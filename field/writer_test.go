package field_test

import (
	"bytes"
	"math"
	"testing"

	"portmanteau/api"
	"portmanteau/field"
)

// wantDone holds a writer's Done and Len against the bytes it must have taken.
func wantDone(t *testing.T, what string, w *field.Writer, want []byte) {
	t.Helper()
	if b, e := w.Done(); !bytes.Equal(b, want) || e != api.OK || w.Len() != len(want) {
		t.Errorf("%s: %v, error %d, Len %d; not %v", what, b, e, w.Len(), want)
	}
}

// wantFault holds a writer's Done and Len against an error, also behind further calls.
func wantFault(t *testing.T, what string, w *field.Writer, size int, want api.Errno) {
	t.Helper()
	further := []func(){
		func() {},
		func() { w.Num(0, 1) },
		func() { w.Num(0, 3) },
		func() { w.Num(256, 1) },
		func() { w.Bytes(nil) },
		func() { w.Bytes([]byte{1}) },
		func() { w.Bytes(make([]byte, 100)) },
		func() { w.Text(nil) },
		func() { w.Text(make([]byte, 65536)) },
	}
	for i, do := range further {
		do()
		if b, e := w.Done(); len(b) != 0 || e != want || w.Len() != size {
			t.Errorf("%s, %d: %v, error %d, Len %d; not error %d, Len %d", what, i, b, e, w.Len(), want, size)
		}
	}
}

func TestWriterTakesOneBehindTheOther(t *testing.T) {
	w := field.NewWriter(100)
	wantDone(t, "new", w, nil)
	w.Num(1, 1)
	wantDone(t, "Num of 1", w, []byte{1})
	w.Num(0x0102, 2)
	w.Num(0x01020304, 4)
	w.Num(0x0102030405060708, 8)
	want := []byte{1, 2, 1, 4, 3, 2, 1, 8, 7, 6, 5, 4, 3, 2, 1}
	wantDone(t, "numbers", w, want)
	w.Bytes([]byte("xy"))
	want = append(want, 'x', 'y')
	wantDone(t, "bytes", w, want)
	w.Bytes(nil)
	wantDone(t, "no bytes", w, want)
	w.Text([]byte("ab"))
	want = append(want, 2, 0, 'a', 'b')
	wantDone(t, "a text", w, want)
	w.Text(nil)
	want = append(want, 0, 0)
	wantDone(t, "an empty text", w, want)
	w.Text(bytes.Repeat([]byte("q"), 0x101))
	wantFault(t, "a text that is too much", w, len(want), api.ErrLong)
}

func TestWriterFaults(t *testing.T) {
	for _, c := range []struct {
		what string
		most int
		do   func(w *field.Writer)
		want api.Errno
	}{
		{"width 3", 100, func(w *field.Writer) { w.Num(1, 3) }, api.ErrArg},
		{"width 0", 100, func(w *field.Writer) { w.Num(0, 0) }, api.ErrArg},
		{"width 3, no room", 2, func(w *field.Writer) { w.Num(1, 3) }, api.ErrArg},
		{"width 3, a great number", 100, func(w *field.Writer) { w.Num(math.MaxUint64, 3) }, api.ErrArg},
		{"256 in 1 byte", 100, func(w *field.Writer) { w.Num(256, 1) }, api.ErrRange},
		{"2^16 in 2 bytes", 100, func(w *field.Writer) { w.Num(1<<16, 2) }, api.ErrRange},
		{"2^32 in 4 bytes", 100, func(w *field.Writer) { w.Num(1<<32, 4) }, api.ErrRange},
		{"256 in 1 byte, no room", 2, func(w *field.Writer) { w.Num(256, 1) }, api.ErrRange},
		{"a number, no room", 2, func(w *field.Writer) { w.Num(255, 1) }, api.ErrLong},
		{"8 bytes, room for 7", 9, func(w *field.Writer) { w.Num(1, 8) }, api.ErrLong},
		{"5 bytes, room for 4", 6, func(w *field.Writer) { w.Bytes(make([]byte, 5)) }, api.ErrLong},
		{"1 byte, no room", 2, func(w *field.Writer) { w.Bytes([]byte{1}) }, api.ErrLong},
		{"a text of 2 bytes, room for 3", 5, func(w *field.Writer) { w.Text([]byte("ab")) }, api.ErrLong},
		{"a text of no bytes, room for 1", 3, func(w *field.Writer) { w.Text(nil) }, api.ErrLong},
		{"a text of 65536 bytes", 1 << 20, func(w *field.Writer) { w.Text(make([]byte, 65536)) }, api.ErrRange},
		{"a text of 65536 bytes, no room", 2, func(w *field.Writer) { w.Text(make([]byte, 65536)) }, api.ErrRange},
		{"a text of 65535 bytes, no room", 65538, func(w *field.Writer) { w.Text(make([]byte, 65535)) }, api.ErrLong},
	} {
		w := field.NewWriter(c.most)
		w.Bytes([]byte{8, 9})
		wantDone(t, c.what, w, []byte{8, 9})
		c.do(w)
		wantFault(t, c.what, w, 2, c.want)
	}
}

func TestWriterWidths(t *testing.T) {
	for _, width := range noWidths {
		w := field.NewWriter(math.MaxInt)
		w.Num(0, width)
		wantFault(t, "a width that is none", w, 0, api.ErrArg)
	}
}

func TestWriterUpToMost(t *testing.T) {
	w := field.NewWriter(19)
	w.Num(math.MaxUint64, 8)
	w.Num(math.MaxUint32, 4)
	w.Num(math.MaxUint16, 2)
	w.Num(math.MaxUint8, 1)
	w.Text([]byte("ab"))
	want := append(bytes.Repeat([]byte{0xff}, 15), 2, 0, 'a', 'b')
	wantDone(t, "just most", w, want)
	w.Bytes(nil)
	wantDone(t, "just most, and nothing", w, want)
	w.Bytes([]byte{0})
	wantFault(t, "one more than most", w, 19, api.ErrLong)
	for width, n := range map[int]uint64{1: 3, 2: 1 << 15, 4: 1 << 31, 8: 1 << 63} {
		w := field.NewWriter(width)
		w.Num(n, width)
		want, _ := field.Put(nil, n, width)
		wantDone(t, "a number of most bytes", w, want)
	}
}

func TestWriterMostBelowNought(t *testing.T) {
	for _, most := range []int{0, -1, -100, math.MinInt} {
		w := field.NewWriter(most)
		w.Bytes(nil)
		wantDone(t, "of 0 bytes at most", w, nil)
		w.Bytes([]byte{1})
		wantFault(t, "of 0 bytes at most", w, 0, api.ErrLong)
		w = field.NewWriter(most)
		w.Text(nil)
		wantFault(t, "of 0 bytes at most, a text", w, 0, api.ErrLong)
		w = field.NewWriter(most)
		w.Num(0, 1)
		wantFault(t, "of 0 bytes at most, a number", w, 0, api.ErrLong)
	}
}

func TestWriterLongTexts(t *testing.T) {
	text := bytes.Repeat([]byte("z"), 65535)
	for _, most := range []int{65537, math.MaxInt} {
		w := field.NewWriter(most)
		w.Text(text)
		wantDone(t, "a text of 65535 bytes", w, append([]byte{255, 255}, text...))
	}
	w := field.NewWriter(65536)
	w.Text(text)
	wantFault(t, "a text of 65535 bytes, room for 65534", w, 0, api.ErrLong)
}

// Bytes may be more than a text's.
func TestWriterManyBytes(t *testing.T) {
	w := field.NewWriter(70000)
	w.Bytes(make([]byte, 70000))
	wantDone(t, "70000 bytes", w, make([]byte, 70000))
}

func TestWriterKeepsNoForeignMemory(t *testing.T) {
	w := field.NewWriter(1 << 20)
	was := []byte("abc")
	b := withRoom(was)
	w.Bytes(b)
	w.Text(b)
	w.Num(7, 4)
	if !sameRoom(b, was) {
		t.Error("what was handed in is changed:", b[:cap(b)])
	}
	spoil(b)
	want := []byte("abc\x03\x00abc\x07\x00\x00\x00")
	wantDone(t, "behind a change of what was handed in", w, want)
	x, _ := w.Done()
	y, _ := w.Done()
	spoil(x)
	wantDone(t, "behind a change of an answer", w, want)
	w.Bytes([]byte("more"))
	if !bytes.Equal(y, want) {
		t.Error("an answer changes with the writer, or with another answer:", y)
	}
	spoil(y)
	wantDone(t, "further bytes", w, append(bytes.Clone(want), "more"...))
}

// An answer has no room that the writer goes on in.
func TestWriterSharesNoSpareRoom(t *testing.T) {
	w := field.NewWriter(100)
	w.Bytes([]byte("abc"))
	x, _ := w.Done()
	w.Bytes([]byte("def"))
	spoil(x)
	wantDone(t, "spare room", w, []byte("abcdef"))
	x, _ = w.Done()
	_ = append(x, "xyz"...)
	w.Bytes([]byte("ghi"))
	wantDone(t, "spare room", w, []byte("abcdefghi"))
}

func TestNilWriter(t *testing.T) {
	var w *field.Writer
	for _, do := range []func(){
		func() {},
		func() { w.Num(1, 1) },
		func() { w.Num(math.MaxUint64, 3) },
		func() { w.Bytes([]byte{1}) },
		func() { w.Bytes(nil) },
		func() { w.Text([]byte{1}) },
		func() { w.Text(make([]byte, 65536)) },
	} {
		do()
		if b, e := w.Done(); len(b) != 0 || e != api.ErrNil || w.Len() != 0 {
			t.Error(b, e, w.Len())
		}
	}
}

// The zero value's answers are open, but none of them panics.
func TestZeroWriterEnds(t *testing.T) {
	var w field.Writer
	w.Bytes(nil)
	w.Text([]byte("a"))
	w.Num(1, 1)
	w.Len()
	w.Done()
}

// told is one thing that a writer takes: a number if width is not 0, a text or else bytes.
type told struct {
	width int
	n     uint64
	text  bool
	b     []byte
}

// mixed makes up things of all kinds, the same ones for the same seed.
func mixed(seed uint64) []told {
	var l []told
	n := seed*2 + 1
	for range 60 {
		n = n*6364136223846793005 + 1442695040888963407
		b := bytes.Repeat([]byte{byte(n >> 24)}, int(n>>34)%300)
		switch width := 1 << (n >> 40 % 4); n >> 60 % 3 {
		case 0:
			l = append(l, told{width: width, n: n & greatest(width)})
		case 1:
			l = append(l, told{text: true, b: b})
		default:
			l = append(l, told{b: b})
		}
	}
	return l
}

// size is how many bytes a thing has.
func (x told) size() int {
	if x.text {
		return 2 + len(x.b)
	}
	return x.width + len(x.b)
}

// What a writer took a reader tells (P1.4).
func TestReaderTellsWhatAWriterTook(t *testing.T) {
	for seed := range uint64(50) {
		l := mixed(seed)
		size := 0
		w := field.NewWriter(1 << 20)
		for _, x := range l {
			switch {
			case x.width != 0:
				w.Num(x.n, x.width)
			case x.text:
				w.Text(x.b)
			default:
				w.Bytes(x.b)
			}
			size += x.size()
		}
		b, e := w.Done()
		if e != api.OK || len(b) != size || w.Len() != size {
			t.Fatal(seed, len(b), size, e)
		}
		r := field.NewReader(b)
		for i, x := range l {
			switch {
			case x.width != 0:
				if n := r.Num(x.width); n != x.n {
					t.Fatal(seed, i, n, x)
				}
			case x.text:
				if s := r.Text(len(x.b)); !bytes.Equal(s, x.b) {
					t.Fatal(seed, i, s, x)
				}
			default:
				if s := r.Bytes(len(x.b)); !bytes.Equal(s, x.b) {
					t.Fatal(seed, i, s, x)
				}
			}
			size -= x.size()
			wantPlace(t, "behind each thing", r, len(b)-size, size, api.OK)
		}
		if size != 0 {
			t.Fatal(seed, size)
		}
	}
}
