package field_test

import (
	"bytes"
	"encoding/binary"
	"math"
	"testing"

	"portmanteau/api"
	"portmanteau/field"
)

var noWidths = []int{math.MinInt, -8, -2, -1, 0, 3, 5, 6, 7, 9, 16, 64, 257, 1<<32 + 1, math.MaxInt}

// withRoom is a copy of b that has spare room, whose bytes are all aa.
func withRoom(b []byte) []byte {
	all := bytes.Repeat([]byte{0xaa}, len(b)+16)
	copy(all, b)
	return all[:len(b)]
}

// sameRoom says whether b, made by withRoom of was, and its spare room are as they were.
func sameRoom(b, was []byte) bool {
	return bytes.Equal(b[:cap(b)], withRoom(was)[:len(was)+16])
}

// spoil changes all bytes of b, spare room included.
func spoil(b []byte) {
	b = b[:cap(b)]
	for i := range b {
		b[i] ^= 0xff
	}
}

// greatest is the greatest number of a width.
func greatest(width int) uint64 {
	return math.MaxUint64 >> (64 - 8*width)
}

func TestGetLowestByteFirst(t *testing.T) {
	b := []byte{0xf0, 0xf1, 0xf2, 0xf3, 0xf4, 0xf5, 0xf6, 0xf7, 0xf8}
	for _, c := range []struct {
		at, width int
		want      uint64
	}{
		{0, 1, 0xf0},
		{8, 1, 0xf8},
		{0, 2, 0xf1f0},
		{7, 2, 0xf8f7},
		{3, 4, 0xf6f5f4f3},
		{5, 4, 0xf8f7f6f5},
		{0, 8, 0xf7f6f5f4f3f2f1f0},
		{1, 8, 0xf8f7f6f5f4f3f2f1},
	} {
		if n, e := field.Get(b, c.at, c.width); n != c.want || e != api.OK {
			t.Errorf("Get at %d of %d bytes: %x %d, not %x", c.at, c.width, n, e, c.want)
		}
	}
}

func TestGetPlaces(t *testing.T) {
	for _, width := range []int{1, 2, 4, 8} {
		for size := range 20 {
			b := bytes.Repeat([]byte{0xff}, size)
			for at := -3; at < size+3; at++ {
				n, e := field.Get(b, at, width)
				if at >= 0 && at+width <= size {
					if n != greatest(width) || e != api.OK {
						t.Errorf("%d bytes, at %d, width %d: %x %d", size, at, width, n, e)
					}
				} else if n != 0 || e != api.ErrRange {
					t.Errorf("%d bytes, at %d, width %d: %x %d, not ErrRange", size, at, width, n, e)
				}
			}
			for _, at := range []int{math.MinInt, math.MinInt + 1, math.MaxInt - width, math.MaxInt - width + 1, math.MaxInt} {
				if n, e := field.Get(b, at, width); n != 0 || e != api.ErrRange {
					t.Errorf("%d bytes, at %d, width %d: %x %d, not ErrRange", size, at, width, n, e)
				}
			}
		}
	}
}

func TestWidthIsAskedFirst(t *testing.T) {
	for _, width := range noWidths {
		for _, at := range []int{-1, 0, 4, 5, math.MaxInt, math.MinInt} {
			if n, e := field.Get([]byte{1, 2, 3, 4}, at, width); n != 0 || e != api.ErrArg {
				t.Errorf("Get at %d, width %d: %x %d, not ErrArg", at, width, n, e)
			}
			for _, n := range []uint64{0, 1, math.MaxUint64} {
				if x, e := field.Set([]byte{1, 2, 3, 4}, at, n, width); len(x) != 0 || e != api.ErrArg {
					t.Errorf("Set at %d, width %d: %x %d, not ErrArg", at, width, x, e)
				}
			}
		}
		for _, n := range []uint64{0, 1, math.MaxUint64} {
			if x, e := field.Put([]byte{1, 2, 3, 4}, n, width); len(x) != 0 || e != api.ErrArg {
				t.Errorf("Put, width %d: %x %d, not ErrArg", width, x, e)
			}
		}
	}
}

func TestPut(t *testing.T) {
	for _, c := range []struct {
		b     []byte
		n     uint64
		width int
		want  []byte
	}{
		{[]byte{9}, 258, 2, []byte{9, 2, 1}},
		{nil, 0, 1, []byte{0}},
		{[]byte{}, 255, 1, []byte{255}},
		{[]byte{1, 2}, 0, 2, []byte{1, 2, 0, 0}},
		{nil, 1<<16 - 1, 2, []byte{255, 255}},
		{nil, 1 << 16, 4, []byte{0, 0, 1, 0}},
		{[]byte{7}, 1<<32 - 1, 4, []byte{7, 255, 255, 255, 255}},
		{nil, 0x0102030405060708, 8, []byte{8, 7, 6, 5, 4, 3, 2, 1}},
		{[]byte{0}, math.MaxUint64, 8, []byte{0, 255, 255, 255, 255, 255, 255, 255, 255}},
	} {
		if x, e := field.Put(c.b, c.n, c.width); !bytes.Equal(x, c.want) || e != api.OK {
			t.Errorf("Put(%v, %d, %d): %v %d, not %v", c.b, c.n, c.width, x, e, c.want)
		}
	}
}

func TestNumbersThatJustDoNotFit(t *testing.T) {
	for _, width := range []int{1, 2, 4} {
		fits, over := greatest(width), greatest(width)+1
		if _, e := field.Put(nil, fits, width); e != api.OK {
			t.Errorf("Put of %d in %d bytes: %d", fits, width, e)
		}
		if _, e := field.Set(make([]byte, 8), 1, fits, width); e != api.OK {
			t.Errorf("Set of %d in %d bytes: %d", fits, width, e)
		}
		for _, n := range []uint64{over, over << 1, over + 1, 1 << 63, math.MaxUint64} {
			if x, e := field.Put([]byte{1}, n, width); len(x) != 0 || e != api.ErrRange {
				t.Errorf("Put of %d in %d bytes: %v %d, not ErrRange", n, width, x, e)
			}
			if x, e := field.Set(make([]byte, 8), 1, n, width); len(x) != 0 || e != api.ErrRange {
				t.Errorf("Set of %d in %d bytes: %v %d, not ErrRange", n, width, x, e)
			}
		}
	}
}

func TestSetPlaces(t *testing.T) {
	for _, width := range []int{1, 2, 4, 8} {
		n := greatest(width) - 1
		for size := range 20 {
			b := bytes.Repeat([]byte{0x55}, size)
			for at := -3; at < size+3; at++ {
				x, e := field.Set(b, at, n, width)
				if at < 0 || at+width > size {
					if len(x) != 0 || e != api.ErrRange {
						t.Errorf("%d bytes, at %d, width %d: %v %d, not ErrRange", size, at, width, x, e)
					}
					continue
				}
				want := bytes.Clone(b)
				for i := range width {
					want[at+i] = byte(n >> (8 * i))
				}
				if !bytes.Equal(x, want) || e != api.OK {
					t.Errorf("%d bytes, at %d, width %d: %v %d, not %v", size, at, width, x, e, want)
				}
			}
			for _, at := range []int{math.MinInt, math.MaxInt - width, math.MaxInt} {
				if x, e := field.Set(b, at, n, width); len(x) != 0 || e != api.ErrRange {
					t.Errorf("%d bytes, at %d, width %d: %v %d, not ErrRange", size, at, width, x, e)
				}
			}
		}
	}
}

func TestPart(t *testing.T) {
	b := []byte{10, 11, 12, 13}
	for at := -2; at <= 6; at++ {
		for n := -2; n <= 6; n++ {
			x, e := field.Part(b, at, n)
			if at < 0 || n < 0 || at+n > len(b) {
				if len(x) != 0 || e != api.ErrRange {
					t.Errorf("Part at %d of %d: %v %d, not ErrRange", at, n, x, e)
				}
			} else if !bytes.Equal(x, b[at:at+n]) || e != api.OK {
				t.Errorf("Part at %d of %d: %v %d", at, n, x, e)
			}
		}
	}
	for _, far := range []int{math.MinInt, math.MinInt + 1, math.MaxInt - 1, math.MaxInt} {
		for _, c := range [][2]int{{far, 0}, {far, 1}, {far, far}, {0, far}, {1, far}, {4, far}, {far, 2}, {far, math.MinInt}, {far, math.MaxInt}} {
			if x, e := field.Part(b, c[0], c[1]); len(x) != 0 || e != api.ErrRange {
				t.Errorf("Part at %d of %d: %v %d, not ErrRange", c[0], c[1], x, e)
			}
		}
	}
	if x, e := field.Part(nil, 0, 0); len(x) != 0 || e != api.OK {
		t.Error("Part of nothing:", x, e)
	}
	if x, e := field.Part(nil, 0, 1); len(x) != 0 || e != api.ErrRange {
		t.Error("Part of nothing:", x, e)
	}
}

// Spare room holds no bytes of a list.
func TestSpareRoomIsNotThere(t *testing.T) {
	b := withRoom([]byte{1, 2})
	if n, e := field.Get(b, 1, 2); n != 0 || e != api.ErrRange {
		t.Error(n, e)
	}
	if x, e := field.Set(b, 1, 0, 2); len(x) != 0 || e != api.ErrRange {
		t.Error(x, e)
	}
	if x, e := field.Part(b, 1, 2); len(x) != 0 || e != api.ErrRange {
		t.Error(x, e)
	}
}

func TestAnswersAreNewMemory(t *testing.T) {
	was := []byte{1, 2, 3, 4, 5, 6, 7, 8, 9}
	for _, c := range []struct {
		call string
		do   func(b []byte) ([]byte, api.Errno)
	}{
		{"Put 1", func(b []byte) ([]byte, api.Errno) { return field.Put(b, 77, 1) }},
		{"Put 8", func(b []byte) ([]byte, api.Errno) { return field.Put(b, 77, 8) }},
		{"Set", func(b []byte) ([]byte, api.Errno) { return field.Set(b, 1, 77, 4) }},
		{"Set the same", func(b []byte) ([]byte, api.Errno) { return field.Set(b, 1, 2, 1) }},
		{"Part", func(b []byte) ([]byte, api.Errno) { return field.Part(b, 2, 3) }},
		{"Part, all", func(b []byte) ([]byte, api.Errno) { return field.Part(b, 0, 9) }},
		{"Part, none", func(b []byte) ([]byte, api.Errno) { return field.Part(b, 4, 0) }},
	} {
		b := withRoom(was)
		x, e := c.do(b)
		if e != api.OK || !sameRoom(b, was) {
			t.Errorf("%s: %d, b is %v", c.call, e, b[:cap(b)])
		}
		y, _ := c.do(b)
		told := bytes.Clone(x)
		spoil(x)
		if !sameRoom(b, was) || !bytes.Equal(y, told) {
			t.Errorf("%s: its answer is shared: b is %v, another answer %v", c.call, b[:cap(b)], y)
		}
		spoil(b)
		if !bytes.Equal(y, told) {
			t.Errorf("%s: its answer is b's memory", c.call)
		}
	}
	b := withRoom(was)
	if field.Get(b, 0, 8); !sameRoom(b, was) {
		t.Error("Get changed b")
	}
}

// What is put is got (P1.4), as another packer of numbers has it.
func TestPutIsGot(t *testing.T) {
	n := uint64(0x9e3779b97f4a7c15)
	for round := range 500 {
		n = n*6364136223846793005 + 1442695040888963407
		before := bytes.Repeat([]byte{byte(n >> 40)}, round%11)
		for _, width := range []int{1, 2, 4, 8} {
			k := n & greatest(width)
			x, e := field.Put(before, k, width)
			want := append(bytes.Clone(before), binary.LittleEndian.AppendUint64(nil, k)[:width]...)
			if e != api.OK || !bytes.Equal(x, want) {
				t.Fatalf("Put of %x in %d bytes: %v %d", k, width, x, e)
			}
			if got, e := field.Get(x, len(before), width); got != k || e != api.OK {
				t.Fatalf("%x put in %d bytes, %x got, %d", k, width, got, e)
			}
		}
	}
}

// What is set is got, and Set changes no other byte (P1.4).
func TestSetIsGotAndNoOtherByteChanges(t *testing.T) {
	n := uint64(1)
	b := make([]byte, 24)
	for range 500 {
		n = n*6364136223846793005 + 1442695040888963407
		for i := range b {
			b[i] = byte(n >> (i % 57))
		}
		for _, width := range []int{1, 2, 4, 8} {
			at := int(n>>33) % (len(b) - width + 1)
			k := ^n & greatest(width)
			x, e := field.Set(b, at, k, width)
			if e != api.OK || len(x) != len(b) || !bytes.Equal(x[:at], b[:at]) || !bytes.Equal(x[at+width:], b[at+width:]) {
				t.Fatalf("Set at %d of %x in %d bytes: %v of %v, %d", at, k, width, x, b, e)
			}
			if got, e := field.Get(x, at, width); got != k || e != api.OK {
				t.Fatalf("%x set in %d bytes, %x got, %d", k, width, got, e)
			}
		}
	}
}
