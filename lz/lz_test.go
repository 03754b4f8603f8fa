package lz_test

import (
	"bytes"
	"encoding/hex"
	"math"
	"math/rand"
	"slices"
	"strings"
	"testing"

	"portmanteau/api"
	"portmanteau/lz"
)

// block is bytes by their hexadecimal digits, with spaces between for the eye.
func block(digits string) []byte {
	b, err := hex.DecodeString(strings.ReplaceAll(digits, " ", ""))
	if err != nil {
		panic(err)
	}
	return b
}

// join is pieces one behind the other, in new memory.
func join(pieces ...[]byte) []byte {
	return bytes.Join(pieces, nil)
}

// as is n times the letter a.
func as(n int) []byte {
	return bytes.Repeat([]byte("a"), n)
}

// row is n bytes that do not repeat themselves soon.
func row(n int) []byte {
	b := make([]byte, n)
	for i := range b {
		b[i] = byte(i ^ i>>8*37)
	}
	return b
}

// seq is a sequence in the order in which the document writes it.
func seq(lit []byte, off, long int) api.Seq {
	return api.Seq{Lit: lit, Off: off, Len: long}
}

// sameSeqs says whether two lists tell the same sequences.
func sameSeqs(a, b []api.Seq) bool {
	return slices.EqualFunc(a, b, func(x, y api.Seq) bool {
		return bytes.Equal(x.Lit, y.Lit) && x.Off == y.Off && x.Len == y.Len
	})
}

// unpacked is what sequences stand for.
func unpacked(l []api.Seq) []byte {
	var out []byte
	for _, s := range l {
		out = append(out, s.Lit...)
		for i := 0; i < s.Len; i++ {
			out = append(out, out[len(out)-s.Off])
		}
	}
	return out
}

// machine takes a block in byte by byte, as P5.1 and P5.2 tell it, and knows at each what must follow.
type machine struct {
	most  int
	want  string // what the next byte is
	token byte
	start int // the token's place
	left  int // of a length, of literals
	off   int
	place int // the offset's place
	out   []byte
	seqs  []api.Seq
}

// tokenAt, litsKnown and copyKnown say what follows once a part is whole.
func (m *machine) tokenAt(at int, c byte) api.Errno {
	m.token, m.start = c, at
	m.seqs = append(m.seqs, api.Seq{})
	m.left = int(c / 16)
	if m.left == 15 {
		m.want = "a byte of the literals' length"
		return api.OK
	}
	return m.litsKnown()
}

func (m *machine) litsKnown() api.Errno {
	if len(m.out)+m.left > m.most {
		return api.ErrLong
	}
	m.want = "a literal"
	if m.left == 0 {
		m.want = "an offset, or nothing"
	}
	return api.OK
}

func (m *machine) copyKnown() api.Errno {
	long := m.left + 4
	if len(m.out)+long > m.most {
		return api.ErrLong
	}
	s := &m.seqs[len(m.seqs)-1]
	s.Off, s.Len = m.off, long
	for ; long > 0; long-- {
		m.out = append(m.out, m.out[len(m.out)-m.off])
	}
	m.want = "a token"
	return api.OK
}

// take takes the byte at a place in.
func (m *machine) take(at int, c byte) api.Errno {
	switch m.want {
	case "a token":
		return m.tokenAt(at, c)
	case "a byte of the literals' length":
		m.left += int(c)
		if c < 255 {
			return m.litsKnown()
		}
	case "a literal":
		m.out = append(m.out, c)
		s := &m.seqs[len(m.seqs)-1]
		s.Lit = append(s.Lit, c)
		m.left--
		if m.left == 0 {
			m.want = "an offset, or nothing"
		}
	case "an offset, or nothing":
		m.off, m.place, m.want = int(c), at, "an offset's second byte"
	case "an offset's second byte":
		m.off += 256 * int(c)
		if m.off == 0 || m.off > len(m.out) {
			return api.ErrRange
		}
		m.left = int(m.token % 16)
		if m.left < 15 {
			return m.copyKnown()
		}
		m.want = "a byte of the copy's length"
	case "a byte of the copy's length":
		m.left += int(c)
		if c < 255 {
			return m.copyKnown()
		}
	}
	return api.OK
}

// modelled is what the machine makes of b: what it unpacks to, its sequences, the fault and its place.
func modelled(b []byte, most int) (out []byte, l []api.Seq, e api.Errno, at int) {
	m := machine{most: most, want: "a token"}
	for i, c := range b {
		switch e := m.take(i, c); e {
		case api.ErrLong:
			return nil, nil, e, m.start
		case api.ErrRange:
			return nil, nil, e, m.place
		}
	}
	if m.want != "an offset, or nothing" {
		return nil, nil, api.ErrForm, len(b)
	}
	return m.out, m.seqs, api.OK, len(b)
}

// unpacks holds what Decode, Size and Cut tell of a sound block against what they should.
func unpacks(t *testing.T, b, want []byte) {
	t.Helper()
	if out, e, at := lz.Decode(b, api.MaxBlock); !bytes.Equal(out, want) || e != api.OK || at != len(b) {
		t.Errorf("Decode(%.40x): %d bytes %.40x, %d at %d, not %d bytes %.40x", b, len(out), out, e, at, len(want), want)
	}
	if n, e, at := lz.Size(b); n != len(want) || e != api.OK || at != len(b) {
		t.Errorf("Size(%.40x): %d, %d at %d, not %d", b, n, e, at, len(want))
	}
	if l, e, at := lz.Cut(b); !bytes.Equal(unpacked(l), want) || e != api.OK || at != len(b) {
		t.Errorf("Cut(%.40x): %d sequences, %d at %d", b, len(l), e, at)
	}
}

// fails holds Decode's fault within a bound, and nothing beside it, against what it should be.
func fails(t *testing.T, b []byte, most int, want api.Errno, place int) {
	t.Helper()
	if out, e, at := lz.Decode(b, most); len(out) != 0 || e != want || at != place {
		t.Errorf("Decode(%.40x of %d bytes, %d): %d bytes, %d at %d, not %d at %d", b, len(b), most, len(out), e, at, want, place)
	}
}

// failsAll holds the fault that Decode with the greatest bound, Size and Cut tell against what it should be.
func failsAll(t *testing.T, b []byte, want api.Errno, place int) {
	t.Helper()
	fails(t, b, api.MaxBlock, want, place)
	if n, e, at := lz.Size(b); n != 0 || e != want || at != place {
		t.Errorf("Size(%.40x of %d bytes): %d, %d at %d, not %d at %d", b, len(b), n, e, at, want, place)
	}
	if l, e, at := lz.Cut(b); len(l) != 0 || e != want || at != place {
		t.Errorf("Cut(%.40x of %d bytes): %d sequences, %d at %d, not %d at %d", b, len(b), len(l), e, at, want, place)
	}
}

// P5.1

func TestFormat(t *testing.T) {
	for _, c := range []struct {
		block, want string
	}{
		{"20 61 62 02 00 10 63", "abababc"},
		{"00", ""},
		{"10 61", "a"},
		{"30 61 62 63", "abc"},
		{"10 61 01 00 00", "aaaaa"},                                            // the last sequence has no literal
		{"40 61 62 63 64 04 00 10 65", "abcdabcde"},                            // what is copied lies just ahead
		{"40 61 62 63 64 02 00 10 65", "abcdcdcde"},                            // into what the copy makes itself
		{"32 61 62 63 02 00 10 64", "abcbcbcbcd"},                              // 6 bytes by 2
		{"31 61 62 63 03 00 00", "abcabcab"},                                   // 5 bytes by 3
		{"10 61 01 00 00 01 00 00", "aaaaaaaaa"},                               // a sequence between without literals
		{"20 61 62 02 00 10 63 01 00 10 64", "abababcccccd"},                   // of the literal just ahead
		{"20 61 62 02 00 10 63 07 00 10 64", "abababcababd"},                   // of the very first byte
		{"20 61 62 02 00 20 63 64 08 00 20 65 66", "abababcdababef"},           // and with two literals
		{"50 68 65 6c 6c 6f", "hello"},                                         // literals alone
		{"10 ff 01 00 10 00", "\xff\xff\xff\xff\xff\x00"},                      // bytes that look like lengths, and a 0
		{"20 00 00 01 00 10 00", "\x00\x00\x00\x00\x00\x00\x00"},               // all noughts
		{"40 01 00 02 00 01 00 10 0f", "\x01\x00\x02\x00\x00\x00\x00\x00\x0f"}, // literals that look like offsets
	} {
		unpacks(t, block(c.block), []byte(c.want))
	}
}

// lengths is how a length is told: the token's four bits, and the bytes that follow.
var lengths = []struct {
	n    int
	bits byte
	more string
}{
	{0, 0, ""}, {1, 1, ""}, {13, 13, ""}, {14, 14, ""}, {15, 15, "00"}, {16, 15, "01"}, {250, 15, "eb"}, {251, 15, "ec"}, {252, 15, "ed"},
	{265, 15, "fa"}, {266, 15, "fb"}, {267, 15, "fc"}, {268, 15, "fd"}, {269, 15, "fe"}, {270, 15, "ff 00"}, {271, 15, "ff 01"}, {272, 15, "ff 02"},
	{524, 15, "ff fe"}, {525, 15, "ff ff 00"}, {526, 15, "ff ff 01"}, {779, 15, "ff ff fe"}, {780, 15, "ff ff ff 00"},
}

func TestLengths(t *testing.T) {
	for _, c := range lengths {
		lits := row(c.n)
		last := join([]byte{c.bits << 4}, block(c.more), lits)
		unpacks(t, last, lits)
		between := join([]byte{c.bits << 4}, block(c.more), lits, block("01 00 10 7a"))
		if c.n > 0 {
			unpacks(t, between, join(lits, bytes.Repeat(lits[c.n-1:], 4), []byte("z")))
		}
		copied := join([]byte{0x10 | c.bits}, block("61 01 00"), block(c.more), block("10 7a"))
		unpacks(t, copied, join(as(c.n+5), []byte("z")))
		both := join([]byte{c.bits<<4 | c.bits}, block(c.more), lits, block("01 00"), block(c.more), block("10 7a"))
		if c.n > 0 {
			unpacks(t, both, join(lits, bytes.Repeat(lits[c.n-1:], c.n+4), []byte("z")))
		}
	}
}

// TestCopies has copies of just so many bytes as the edges ask for.
func TestCopies(t *testing.T) {
	for _, c := range []struct {
		n     int
		block string
	}{
		{4, "10 61 01 00"}, {14, "1a 61 01 00"}, {15, "1b 61 01 00"}, {16, "1c 61 01 00"}, {18, "1e 61 01 00"}, {19, "1f 61 01 00 00"}, {20, "1f 61 01 00 01"},
		{269, "1f 61 01 00 fa"}, {270, "1f 61 01 00 fb"}, {271, "1f 61 01 00 fc"}, {273, "1f 61 01 00 fe"}, {274, "1f 61 01 00 ff 00"}, {275, "1f 61 01 00 ff 01"},
	} {
		b := join(block(c.block), block("10 62"))
		unpacks(t, b, join(as(1+c.n), []byte("b")))
		if l, _, _ := lz.Cut(b); !sameSeqs(l, []api.Seq{seq(as(1), 1, c.n), seq([]byte("b"), 0, 0)}) {
			t.Errorf("Cut(%x): %v", b, l)
		}
	}
}

// TestOffsets asks for the lower byte first, up to the greatest one.
func TestOffsets(t *testing.T) {
	lits := row(65535)
	head := join([]byte{0xf0}, bytes.Repeat([]byte{255}, 256), []byte{240}, lits)
	for off, told := range map[int]string{1: "01 00", 2: "02 00", 255: "ff 00", 256: "00 01", 257: "01 01", 512: "00 02", 4660: "34 12", 65279: "ff fe", 65280: "00 ff", 65534: "fe ff", 65535: "ff ff"} {
		unpacks(t, join(head, block(told), block("10 7a")), unpacked([]api.Seq{seq(lits, off, 4), seq([]byte("z"), 0, 0)}))
	}
	two := join([]byte{0xf0}, bytes.Repeat([]byte{255}, 256), []byte{241, 'q'}, lits) // the first of all is out of every offset's reach
	unpacks(t, join(two, block("ff ff 10 7a")), join([]byte("q"), lits, lits[:4], []byte("z")))
}

func TestLastTokensLowerBits(t *testing.T) {
	for bits := range byte(16) {
		unpacks(t, []byte{bits}, nil)
		unpacks(t, []byte{0x20 | bits, 'a', 'b'}, []byte("ab"))
		unpacks(t, join([]byte{0xf0 | bits, 0}, as(15)), as(15))
		unpacks(t, []byte{0x20, 'a', 'b', 2, 0, 0x10 | bits, 'c'}, []byte("abababc"))
		if l, e, _ := lz.Cut([]byte{0x20, 'a', 'b', 2, 0, 0x10 | bits, 'c'}); e != api.OK || !sameSeqs(l, []api.Seq{seq([]byte("ab"), 2, 4), seq([]byte("c"), 0, 0)}) {
			t.Errorf("%d: %v, %d", bits, l, e)
		}
	}
}

// P5.2

// TestFaults asks each of them alone, at its place.
func TestFaults(t *testing.T) {
	for _, c := range []struct {
		block string
		e     api.Errno
		at    int
	}{
		{"", api.ErrForm, 0},      // no token
		{"10", api.ErrForm, 1},    // no literal
		{"20 61", api.ErrForm, 2}, // one of two
		{"f0", api.ErrForm, 1},    // no byte of the length
		{"f0 ff", api.ErrForm, 2}, // a length's 255 that is the last byte
		{"f0 ff ff ff", api.ErrForm, 4},
		{"f0 00", api.ErrForm, 2},          // 15 literals, none there
		{"f0 01 61 61 61", api.ErrForm, 5}, // 16, 3 there
		{"10 61 01", api.ErrForm, 3},       // within an offset
		{"10 61 00", api.ErrForm, 3},       // within an offset that may be wrong
		{"10 61 09", api.ErrForm, 3},
		{"00 01", api.ErrForm, 2},
		{"10 61 01 00", api.ErrForm, 4},    // behind a copy
		{"1f 61 01 00", api.ErrForm, 4},    // no byte of the copy's length
		{"1f 61 01 00 ff", api.ErrForm, 5}, // a 255 that is the last byte
		{"1f 61 01 00 ff ff", api.ErrForm, 6},
		{"1f 61 01 00 00", api.ErrForm, 5},       // behind a copy with a longer length
		{"10 61 01 00 00 01 00", api.ErrForm, 7}, // behind the second copy
		{"10 61 01 00 20 62", api.ErrForm, 6},    // within the second literals
		{"10 61 00 00", api.ErrRange, 2},         // an offset of 0
		{"10 61 00 00 10 62", api.ErrRange, 2},
		{"10 61 02 00", api.ErrRange, 2}, // one more than was unpacked
		{"10 61 02 00 10 62", api.ErrRange, 2},
		{"00 01 00", api.ErrRange, 1}, // of nothing at all
		{"00 00 00", api.ErrRange, 1},
		{"10 61 ff ff", api.ErrRange, 2},
		{"10 61 00 01", api.ErrRange, 2},                                 // 256: both bytes count
		{"10 61 01 01", api.ErrRange, 2},                                 // 257
		{"f0 00 616161616161616161616161616161 10 00", api.ErrRange, 17}, // behind a longer length
		{"20 61 62 02 00 10 63 08 00 10 64", api.ErrRange, 7},            // 7 bytes were unpacked
		{"10 61 01 00 00 06 00 00", api.ErrRange, 5},                     // 5 bytes were
		{"10 61 01 00 00 00 00 00", api.ErrRange, 5},
	} {
		failsAll(t, block(c.block), c.e, c.at)
	}
	unpacks(t, block("20 61 62 02 00 10 63 07 00 10 64"), []byte("abababcababd")) // just what was unpacked
	unpacks(t, block("10 61 01 00 00 05 00 00"), as(9))
}

// TestGreatestOffset goes to the edge of what was unpacked, and one beyond it.
func TestGreatestOffset(t *testing.T) {
	for n, more := range map[int]byte{65534: 239, 65535: 240, 65536: 241} {
		b := join([]byte{0xf0}, bytes.Repeat([]byte{255}, 256), []byte{more}, row(n), block("ff ff 10 7a"))
		if n < 65535 {
			failsAll(t, b, api.ErrRange, 258+n)
		} else {
			unpacks(t, b, join(row(n), row(n)[n-65535:][:4], []byte("z")))
		}
	}
}

// TestPrefixes cuts a block short at each byte: it ends well behind literals alone.
func TestPrefixes(t *testing.T) {
	b := join(block("20 61 62 02 00 1f 63 01 00 ff 00 f2 02"), row(17), block("11 00 21 7a 7a"))
	well := map[int]int{3: 2, 7: 7, 30: 298, len(b): 306} // of a length what it unpacks to
	for n := range len(b) + 1 {
		if size, ok := well[n]; ok {
			out, _, _, _ := modelled(b[:n], api.MaxBlock)
			if len(out) != size {
				t.Fatalf("the model's first %d bytes unpack to %d, not %d", n, len(out), size)
			}
			unpacks(t, b[:n], out)
		} else {
			failsAll(t, b[:n], api.ErrForm, n)
		}
	}
}

func TestBoundsThatMayNotBe(t *testing.T) {
	for _, b := range [][]byte{nil, {0}, {0x10}, {0x10, 'a'}, {0x10, 'a', 0, 0}, block("20 61 62 02 00 10 63"), join([]byte{0xf0}, bytes.Repeat([]byte{255}, 5000))} {
		for _, most := range []int{math.MinInt, math.MinInt + 1, -1 << 32, -api.MaxBlock, -2, -1, api.MaxBlock + 1, 2 * api.MaxBlock, 1 << 31, 1 << 32, 1<<32 + 9, math.MaxInt - 1, math.MaxInt} {
			fails(t, b, most, api.ErrArg, 0)
		}
	}
	for _, most := range []int{api.MaxBlock, api.MaxBlock - 1, 0} {
		if out, e, at := lz.Decode([]byte{0}, most); len(out) != 0 || e != api.OK || at != 1 {
			t.Errorf("%d: %x, %d at %d", most, out, e, at)
		}
		fails(t, nil, most, api.ErrForm, 0)
	}
	fails(t, []byte{0x10, 'a'}, 0, api.ErrLong, 0)
}

// TestBounds has each block with all bounds around its size: the sequence that goes beyond is told.
func TestBounds(t *testing.T) {
	for _, c := range []struct {
		block string
		size  int
		from  map[int]int // from so many bytes on a bound is enough for what stands ahead of this token
	}{
		{"00", 0, map[int]int{}},
		{"30 61 62 63", 3, map[int]int{0: 0}},
		{"20 61 62 02 00 10 63", 7, map[int]int{0: 0, 6: 5}},
		{"10 61 01 00 00", 5, map[int]int{0: 0}},
		{"10 61 01 00 02 01 00 20 62 62", 13, map[int]int{0: 0, 5: 4, 11: 7}},
		{"1f 61 01 00 01 f0 00 626262626262626262626262626262", 36, map[int]int{0: 0, 21: 5}},
	} {
		b := block(c.block)
		token := 0
		for most := range c.size {
			if at, ok := c.from[most]; ok {
				token = at
			}
			fails(t, b, most, api.ErrLong, token)
		}
		want, _, _, _ := modelled(b, api.MaxBlock)
		if len(want) != c.size {
			t.Fatalf("%s: the model's %d bytes, not %d", c.block, len(want), c.size)
		}
		for most := c.size; most < c.size+3; most++ {
			if out, e, at := lz.Decode(b, most); !bytes.Equal(out, want) || e != api.OK || at != len(b) {
				t.Errorf("Decode(%x, %d): %x, %d at %d", b, most, out, e, at)
			}
		}
	}
}

// TestTwoFaults asks which of two is told: the one that is known first.
func TestTwoFaults(t *testing.T) {
	for _, c := range []struct {
		block string
		most  int
		e     api.Errno
		at    int
	}{
		{"20", 1, api.ErrLong, 0}, // literals that are too many and not there
		{"20", 2, api.ErrForm, 1},
		{"20 61", 1, api.ErrLong, 0},
		{"f0 ff", 9, api.ErrForm, 2}, // a length that would be too great, but is not known
		{"f0 ff ff ff ff", 0, api.ErrForm, 5},
		{"f0", 0, api.ErrForm, 1}, // known to be 15 at least is not known
		{"f0 00", 14, api.ErrLong, 0},
		{"f0 00", 15, api.ErrForm, 2},
		{"f0 ff 00", 269, api.ErrLong, 0},
		{"f0 ff 00", 270, api.ErrForm, 3},
		{"10 61 00 00", 0, api.ErrLong, 0},     // literals too many, and an offset behind them
		{"10 61 00 00", 1, api.ErrRange, 2},    // an offset, and a copy too long behind it
		{"1f 61 00 00 ff", 1, api.ErrRange, 2}, // an offset, and a length that ends too early
		{"1f 61 00 00", 9, api.ErrRange, 2},
		{"10 61 02", 1, api.ErrForm, 3}, // half an offset, and a copy too long
		{"10 61", 0, api.ErrLong, 0},
		{"10 61 01 00", 4, api.ErrLong, 0}, // a copy too long, and nothing behind it
		{"10 61 01 00", 5, api.ErrForm, 4},
		{"1f 61 01 00", 4, api.ErrForm, 4}, // a copy's length that is not known
		{"1f 61 01 00 ff", 4, api.ErrForm, 5},
		{"1f 61 01 00 00", 19, api.ErrLong, 0},
		{"1f 61 01 00 00", 20, api.ErrForm, 5},
		{"10 61 01 00 20 62", 6, api.ErrLong, 4}, // the second sequence's literals
		{"10 61 01 00 20 62", 7, api.ErrForm, 6},
		{"10 61 01 00 10 62 07 00", 6, api.ErrRange, 6}, // its offset, ahead of its copy
		{"10 61 01 00 10 62 06 00", 6, api.ErrLong, 4},
		{"10 61 01 00 10 62 06 00", 9, api.ErrLong, 4},
		{"10 61 01 00 10 62 06 00", 10, api.ErrForm, 8},
		{"10 61 01 00 10 62 00 00", 4, api.ErrLong, 0}, // the first sequence's fault, not the second's
		{"10 61 02 00 20 62", 1, api.ErrRange, 2},
	} {
		fails(t, block(c.block), c.most, c.e, c.at)
	}
}

// TestGreatLengths has lengths beyond all bounds, ahead of and behind sound sequences.
func TestGreatLengths(t *testing.T) {
	head := block("10 61 01 00")
	for _, n := range []int{4113, 5000, 1 << 16, 1 << 20} {
		great := bytes.Repeat([]byte{255}, n)
		failsAll(t, join([]byte{0xf0}, great, []byte{0}), api.ErrLong, 0)
		failsAll(t, join([]byte{0xf0}, great), api.ErrForm, n+1)
		failsAll(t, join(head, []byte{0xf0}, great, []byte{254}), api.ErrLong, 4)
		failsAll(t, join(block("1f 61 01 00"), great, []byte{0}), api.ErrLong, 0)
		failsAll(t, join(block("1f 61 01 00"), great), api.ErrForm, n+4)
		failsAll(t, join(head, block("0f 05 00"), great, []byte{0}), api.ErrLong, 4)
		failsAll(t, join(head, block("0f 06 00"), great, []byte{0}), api.ErrRange, 5)
	}
}

// P5.3

// told is a length as bytes behind a token's 15.
func told(n int) []byte {
	return append(bytes.Repeat([]byte{255}, (n-15)/255), byte((n-15)%255))
}

// TestGreatestBlock goes to MaxBlock bytes, and one beyond it, in literals, in a copy and in what stands behind it.
func TestGreatestBlock(t *testing.T) {
	lits := row(api.MaxBlock + 1)
	unpacks(t, join([]byte{0xf0}, told(api.MaxBlock), lits[1:]), lits[1:])
	failsAll(t, join([]byte{0xf0}, told(api.MaxBlock+1), lits), api.ErrLong, 0)
	head := block("1f 61 01 00")
	unpacks(t, join(head, told(api.MaxBlock-5), []byte{0}), as(api.MaxBlock))
	unpacks(t, join(head, told(api.MaxBlock-6), block("10 61")), as(api.MaxBlock))
	failsAll(t, join(head, told(api.MaxBlock-4), []byte{0}), api.ErrLong, 0)
	n := len(told(api.MaxBlock - 5))
	failsAll(t, join(head, told(api.MaxBlock-5), block("10 61")), api.ErrLong, 4+n)
	failsAll(t, join(head, told(api.MaxBlock-5), block("10")), api.ErrLong, 4+n)
	failsAll(t, join(head, told(api.MaxBlock-8), block("00 01 00 00")), api.ErrLong, 4+n)
	failsAll(t, join(head, told(api.MaxBlock-8), block("00 00 00 00")), api.ErrRange, 5+n)
	failsAll(t, join(head, told(api.MaxBlock-4), block("10")), api.ErrLong, 0)
	unpacks(t, join(head, told(api.MaxBlock-9), block("00 01 00 00")), as(api.MaxBlock))
}

func TestCut(t *testing.T) {
	for _, c := range []struct {
		block string
		want  []api.Seq
	}{
		{"00", []api.Seq{{}}},
		{"0f", []api.Seq{{}}},
		{"20 61 62 02 00 10 63", []api.Seq{seq([]byte("ab"), 2, 4), seq([]byte("c"), 0, 0)}},
		{"10 61 01 00 01 05 00 00", []api.Seq{seq([]byte("a"), 1, 4), seq(nil, 5, 5), {}}},
		{"1f 61 01 00 00 2f 62 63 03 00 ff 00 05", []api.Seq{seq([]byte("a"), 1, 19), seq([]byte("bc"), 3, 274), {}}},
		{"f0 00 616161616161616161616161616161", []api.Seq{seq(as(15), 0, 0)}},
	} {
		if l, e, at := lz.Cut(block(c.block)); !sameSeqs(l, c.want) || e != api.OK || at != len(block(c.block)) {
			t.Errorf("Cut(%s): %v, %d at %d", c.block, l, e, at)
		}
	}
}

func TestJoin(t *testing.T) {
	for _, c := range []struct {
		l    []api.Seq
		want string
	}{
		{[]api.Seq{{}}, "00"},
		{[]api.Seq{seq([]byte{}, 0, 0)}, "00"},
		{[]api.Seq{seq([]byte("abc"), 0, 0)}, "30 61 62 63"},
		{[]api.Seq{seq([]byte("ab"), 2, 4), seq([]byte("c"), 0, 0)}, "20 61 62 02 00 10 63"},
		{[]api.Seq{seq([]byte("a"), 1, 5), seq(nil, 6, 4), {}}, "11 61 01 00 00 06 00 00"},
		{[]api.Seq{seq([]byte("a"), 1, 18), {}}, "1e 61 01 00 00"},
		{[]api.Seq{seq([]byte("a"), 1, 19), {}}, "1f 61 01 00 00 00"},
		{[]api.Seq{seq([]byte("a"), 1, 20), {}}, "1f 61 01 00 01 00"},
		{[]api.Seq{seq([]byte("a"), 1, 273), {}}, "1f 61 01 00 fe 00"},
		{[]api.Seq{seq([]byte("a"), 1, 274), {}}, "1f 61 01 00 ff 00 00"},
		{[]api.Seq{seq([]byte("a"), 1, 528), {}}, "1f 61 01 00 ff fe 00"},
		{[]api.Seq{seq([]byte("a"), 1, 529), {}}, "1f 61 01 00 ff ff 00 00"},
		{[]api.Seq{seq(as(15), 15, 19), seq([]byte("b"), 0, 0)}, "ff 00 616161616161616161616161616161 0f 00 00 10 62"},
	} {
		if b, e := lz.Join(c.l); !bytes.Equal(b, block(c.want)) || e != api.OK {
			t.Errorf("Join(%v): %x, %d, not %s", c.l, b, e, c.want)
		}
	}
}

// TestJoinLengths asks that each length is told as shortly as may be.
func TestJoinLengths(t *testing.T) {
	for _, c := range lengths {
		lits := row(c.n)
		want := join([]byte{c.bits << 4}, block(c.more), lits)
		if b, e := lz.Join([]api.Seq{seq(lits, 0, 0)}); !bytes.Equal(b, want) || e != api.OK {
			t.Errorf("%d literals: %.20x, %d, not %.20x", c.n, b, e, want)
		}
		want = join([]byte{0x20 | c.bits}, block("61 62 02 00"), block(c.more), []byte{0})
		if b, e := lz.Join([]api.Seq{seq([]byte("ab"), 2, c.n+4), {}}); !bytes.Equal(b, want) || e != api.OK {
			t.Errorf("a copy of %d: %x, %d, not %x", c.n+4, b, e, want)
		}
	}
}

func TestJoinOffsets(t *testing.T) {
	lits := row(70000)
	for off, pair := range map[int]string{1: "01 00", 255: "ff 00", 256: "00 01", 65534: "fe ff", 65535: "ff ff"} {
		b, e := lz.Join([]api.Seq{seq(lits, off, 4), {}})
		if want := join([]byte{0xf0}, told(70000), lits, block(pair), []byte{0}); e != api.OK || !bytes.Equal(b, want) {
			t.Errorf("an offset of %d: %x ..., %d", off, b[max(0, len(b)-3):], e)
		}
	}
}

// TestJoinFaults asks each fault alone, at its edges.
func TestJoinFaults(t *testing.T) {
	a, last := []byte("a"), api.Seq{}
	most := row(api.MaxBlock)
	for _, c := range []struct {
		what string
		l    []api.Seq
		want api.Errno
	}{
		{"no list", nil, api.ErrArg},
		{"an empty list", []api.Seq{}, api.ErrArg},
		{"a last Off", []api.Seq{seq(a, 1, 0)}, api.ErrArg},
		{"a last Off below 0", []api.Seq{seq(a, -1, 0)}, api.ErrArg},
		{"a last Len", []api.Seq{seq(a, 0, 4)}, api.ErrArg},
		{"a last Len of 1", []api.Seq{seq(a, 0, 1)}, api.ErrArg},
		{"a last Len below 0", []api.Seq{seq(a, 0, -4)}, api.ErrArg},
		{"a last copy", []api.Seq{seq(a, 1, 4)}, api.ErrArg},
		{"a last copy behind another", []api.Seq{seq(a, 1, 4), seq(a, 1, 4)}, api.ErrArg},
		{"a last Off out of reach", []api.Seq{seq(a, 1, 4), seq(a, 99, 0)}, api.ErrArg},
		{"Off 0", []api.Seq{seq(a, 0, 4), last}, api.ErrArg},
		{"Off 0 and Len 0", []api.Seq{seq(a, 0, 0), last}, api.ErrArg},
		{"Off -1", []api.Seq{seq(a, -1, 4), last}, api.ErrArg},
		{"the least Off", []api.Seq{seq(a, math.MinInt, 4), last}, api.ErrArg},
		{"Off 65535", []api.Seq{seq(most[:65535], 65535, 4), last}, api.OK},
		{"Off 65536", []api.Seq{seq(most[:65536], 65536, 4), last}, api.ErrArg},
		{"the greatest Off", []api.Seq{seq(a, math.MaxInt, 4), last}, api.ErrArg},
		{"Len 4", []api.Seq{seq(a, 1, 4), last}, api.OK},
		{"Len 3", []api.Seq{seq(a, 1, 3), last}, api.ErrArg},
		{"Len 0", []api.Seq{seq(a, 1, 0), last}, api.ErrArg},
		{"Len -1", []api.Seq{seq(a, 1, -1), last}, api.ErrArg},
		{"the least Len", []api.Seq{seq(a, 1, math.MinInt), last}, api.ErrArg},
		{"just what is unpacked", []api.Seq{seq([]byte("ab"), 2, 4), seq(a, 7, 4), last}, api.OK},
		{"one more than the literals", []api.Seq{seq([]byte("ab"), 3, 4), last}, api.ErrRange},
		{"of nothing at all", []api.Seq{seq(nil, 1, 4), last}, api.ErrRange},
		{"one more than is unpacked", []api.Seq{seq([]byte("ab"), 2, 4), seq(a, 8, 4), last}, api.ErrRange},
		{"65535 of 65534", []api.Seq{seq(most[:65534], 65535, 4), last}, api.ErrRange},
		{"as many literals as may be", []api.Seq{seq(most, 0, 0)}, api.OK},
		{"one more literal", []api.Seq{seq(row(api.MaxBlock+1), 0, 0)}, api.ErrLong},
		{"as long a copy as may be", []api.Seq{seq(a, 1, api.MaxBlock-1), last}, api.OK},
		{"a copy one longer", []api.Seq{seq(a, 1, api.MaxBlock), last}, api.ErrLong},
		{"a literal behind the longest", []api.Seq{seq(a, 1, api.MaxBlock-1), seq(a, 0, 0)}, api.ErrLong},
		{"a copy behind the longest", []api.Seq{seq(a, 1, api.MaxBlock-1), seq(nil, 1, 4), last}, api.ErrLong},
		{"a copy behind as many literals", []api.Seq{seq(most, 1, 4), last}, api.ErrLong},
		{"just room for a copy", []api.Seq{seq(most[4:], 1, 4), last}, api.OK},
		{"one too few for a copy", []api.Seq{seq(most[3:], 1, 4), last}, api.ErrLong},
		{"the greatest Len", []api.Seq{seq(a, 1, math.MaxInt), last}, api.ErrLong},
		{"the greatest Len behind others", []api.Seq{seq(a, 1, 4), seq(a, 1, math.MaxInt), last}, api.ErrLong},
		{"the greatest Len without literals", []api.Seq{seq(a, 1, 4), seq(nil, 1, math.MaxInt-3), last}, api.ErrLong},
	} {
		b, e := lz.Join(c.l)
		if e != c.want || e != api.OK && len(b) != 0 {
			t.Errorf("%s: %d bytes, %d, not %d", c.what, len(b), e, c.want)
		}
		if e == api.OK {
			unpacks(t, b, unpacked(c.l))
		}
	}
}

// TestJoinFirstFault has two faults: the first sequence's is told, and of one sequence ErrArg, ErrRange, ErrLong in turn.
func TestJoinFirstFault(t *testing.T) {
	a, last := []byte("a"), api.Seq{}
	arg, far, long := seq(a, 0, 4), seq(a, 60000, 4), seq(a, 1, api.MaxBlock)
	for _, c := range []struct {
		what string
		l    []api.Seq
		want api.Errno
	}{
		{"far, then arg", []api.Seq{far, arg, last}, api.ErrRange},
		{"long, then arg", []api.Seq{long, arg, last}, api.ErrLong},
		{"arg, then far", []api.Seq{arg, far, last}, api.ErrArg},
		{"arg, then long", []api.Seq{arg, long, last}, api.ErrArg},
		{"far, then long", []api.Seq{far, long, last}, api.ErrRange},
		{"long, then far", []api.Seq{long, far, last}, api.ErrLong},
		{"far, then a last Off", []api.Seq{far, seq(nil, 1, 0)}, api.ErrRange},
		{"long, then a last Len", []api.Seq{long, seq(nil, 0, 4)}, api.ErrLong},
		{"arg and far", []api.Seq{seq(a, 60000, 3), last}, api.ErrArg},
		{"arg and long: Off", []api.Seq{seq(a, 0, math.MaxInt), last}, api.ErrArg},
		{"arg and long: Off too great", []api.Seq{seq(a, 65536, math.MaxInt), last}, api.ErrArg},
		{"arg and long: literals", []api.Seq{seq(row(api.MaxBlock+1), 1, 3), last}, api.ErrArg},
		{"far and long", []api.Seq{seq(a, 2, math.MaxInt), last}, api.ErrRange},
		{"far and long behind another", []api.Seq{seq(a, 1, 4), seq(a, 7, api.MaxBlock), last}, api.ErrRange},
		{"a last Len and long", []api.Seq{seq(row(api.MaxBlock+1), 0, 4)}, api.ErrArg},
		{"a last Off and long", []api.Seq{seq(row(api.MaxBlock+1), 1, 0)}, api.ErrArg},
	} {
		if b, e := lz.Join(c.l); e != c.want || len(b) != 0 {
			t.Errorf("%s: %d bytes, %d, not %d", c.what, len(b), e, c.want)
		}
	}
}

// P5.4, and all of it against the machine

// against holds all that is told of b within a bound against the machine.
func against(t *testing.T, b []byte, most int) {
	t.Helper()
	want, _, e1, at1 := modelled(b, most)
	out, e, at := lz.Decode(b, most)
	if !bytes.Equal(out, want) || e != e1 || at != at1 {
		t.Fatalf("Decode(%x, %d): %x, %d at %d, not %x, %d at %d", b, most, out, e, at, want, e1, at1)
	}
	want, seqs, e1, at1 := modelled(b, api.MaxBlock)
	if n, e, at := lz.Size(b); n != len(want) || e != e1 || at != at1 {
		t.Fatalf("Size(%x): %d, %d at %d, not %d, %d at %d", b, n, e, at, len(want), e1, at1)
	}
	if e != api.ErrLong && (e != e1 || !bytes.Equal(out, want)) {
		t.Fatalf("Decode(%x, %d): %x, %d, without a bound %x, %d", b, most, out, e, want, e1)
	}
	l, e, at := lz.Cut(b)
	if !sameSeqs(l, seqs) || e != e1 || at != at1 {
		t.Fatalf("Cut(%x): %v, %d at %d, not %v, %d at %d", b, l, e, at, seqs, e1, at1)
	}
	if e == api.OK {
		thereAndBack(t, b, l, want)
	}
}

// thereAndBack joins the sequences of b, which unpacks to want: the block does too, is no longer, and is cut as it was.
func thereAndBack(t *testing.T, b []byte, l []api.Seq, want []byte) {
	t.Helper()
	j, e := lz.Join(l)
	if e != api.OK || len(j) > len(b) {
		t.Fatalf("Join(%v) of %x: %x, %d", l, b, j, e)
	}
	if out, e, at := lz.Decode(j, len(want)); !bytes.Equal(out, want) || e != api.OK || at != len(j) {
		t.Fatalf("Decode(%x) of %x: %x, %d at %d, not %x", j, b, out, e, at, want)
	}
	if again, e, _ := lz.Cut(j); !sameSeqs(again, l) || e != api.OK {
		t.Fatalf("Cut(%x) of %x: %v, %d, not %v", j, b, again, e, l)
	}
}

// TestShortBlocks has all blocks of up to 5 bytes of those that mean something.
func TestShortBlocks(t *testing.T) {
	letters := []byte{0x00, 0x01, 0x02, 0x05, 0x0f, 0x10, 0x1f, 0x20, 0xf0, 0xff}
	var all func(b []byte, left int)
	all = func(b []byte, left int) {
		for _, most := range []int{0, 1, 4, 5, 6, 15, 20, 300} {
			against(t, b, most)
		}
		for _, c := range letters {
			if left > 0 {
				all(append(b[:len(b):len(b)], c), left-1)
			}
		}
	}
	all(nil, 4)
	for _, c := range letters {
		all(join(block("10 61 01 00"), []byte{c}), 3)
		all(join(block("1f 61 01 00"), []byte{c}), 3)
	}
}

// randomSeqs is sequences that make a block.
func randomSeqs(r *rand.Rand) []api.Seq {
	edges := []int{0, 1, 2, 3, 4, 13, 14, 15, 16, 17, 18, 19, 20, 250, 254, 255, 256, 269, 270, 271, 273, 274, 275, 525}
	length := func() int {
		if r.Intn(2) == 0 {
			return r.Intn(30)
		}
		return edges[r.Intn(len(edges))]
	}
	var l []api.Seq
	n := 0
	for range r.Intn(8) {
		lit := make([]byte, length())
		if n == 0 {
			lit = make([]byte, 1+length())
		}
		r.Read(lit)
		n += len(lit)
		l = append(l, seq(lit, 1+r.Intn(min(n, 65535)), 4+length()))
		n += l[len(l)-1].Len
	}
	lit := make([]byte, length())
	r.Read(lit)
	return append(l, seq(lit, 0, 0))
}

// TestRandomBlocks joins random sequences, then spoils what comes of it, here and there.
func TestRandomBlocks(t *testing.T) {
	r := rand.New(rand.NewSource(5))
	for range 4000 {
		l := randomSeqs(r)
		b, e := lz.Join(l)
		want := unpacked(l)
		if e != api.OK {
			t.Fatalf("Join(%v): %d", l, e)
		}
		unpacks(t, b, want)
		thereAndBack(t, b, l, want)
		for range 6 {
			against(t, b, min(api.MaxBlock, r.Intn(len(want)+3)))
			bad := bytes.Clone(b)
			bad[r.Intn(len(bad))] = byte(r.Intn(256))
			against(t, bad, r.Intn(2*len(want)+3))
			against(t, bad[:r.Intn(len(bad)+1)], r.Intn(2*len(want)+3))
		}
		against(t, b, len(want))
	}
}

// TestLastBitsAreDropped: the last token's lower bits are 0 in Join's block, whatever they were.
func TestLastBitsAreDropped(t *testing.T) {
	for bits := range byte(16) {
		l, _, _ := lz.Cut(join(block("ff 00"), as(15), block("01 00 00"), []byte{0x10 | bits, 'b'}))
		b, e := lz.Join(l)
		if want := join(block("ff 00"), as(15), block("01 00 00 10 62")); e != api.OK || !bytes.Equal(b, want) {
			t.Errorf("%d: %x, %d", bits, b, e)
		}
	}
}

// TestLowerBounds: with a lower bound what is unpacked is the same, or ErrLong.
func TestLowerBounds(t *testing.T) {
	r := rand.New(rand.NewSource(6))
	for range 200 {
		l := randomSeqs(r)
		b, _ := lz.Join(l)
		want, places := unpacked(l), tokens(l)
		most := 0
		for i := range l {
			for ; most < len(unpacked(l[:i+1])); most++ {
				fails(t, b, most, api.ErrLong, places[i])
			}
		}
		for _, most := range []int{len(want), len(want) + 1, api.MaxBlock} {
			if out, e, at := lz.Decode(b, most); !bytes.Equal(out, want) || e != api.OK || at != len(b) {
				t.Fatalf("Decode(%x, %d): %x, %d at %d", b, most, out, e, at)
			}
		}
	}
}

// tokens is the places of the tokens in the block of l.
func tokens(l []api.Seq) (places []int) {
	at := 0
	for _, s := range l {
		places = append(places, at)
		at += 1 + len(s.Lit) + 2
		for _, n := range []int{len(s.Lit), s.Len - 4} {
			if n >= 15 {
				at += len(told(n))
			}
		}
	}
	return places
}

// Memory

// withRoom is a copy of b with spare room behind it, all of it aa.
func withRoom(b []byte) []byte {
	all := bytes.Repeat([]byte{0xaa}, len(b)+16)
	copy(all, b)
	return all[:len(b)]
}

// spoil changes all bytes of b, spare room included.
func spoil(b []byte) {
	b = b[:cap(b)]
	for i := range b {
		b[i] ^= 0xff
	}
}

func TestBlocksAreLeftAlone(t *testing.T) {
	for _, digits := range []string{"20 61 62 02 00 10 63", "30 61 62 63", "00", "", "10 61 00 00", "10 61 01 00", "20 61"} {
		b := withRoom(block(digits))
		for _, most := range []int{-1, 0, 6, 7, 100} {
			lz.Decode(b, most)
		}
		lz.Size(b)
		lz.Cut(b)
		if want := withRoom(block(digits)); !bytes.Equal(b[:cap(b)], want[:cap(want)]) {
			t.Errorf("%s: it is %x now", digits, b[:cap(b)])
		}
	}
}

func TestSequencesAreLeftAlone(t *testing.T) {
	list := func() []api.Seq {
		l := []api.Seq{seq(withRoom([]byte("ab")), 2, 4), seq(withRoom([]byte("c")), 0, 0), seq(withRoom([]byte("room")), 7, 7)}
		return l[:2]
	}
	l := list()
	j, e := lz.Join(l)
	if e != api.OK {
		t.Fatal(e)
	}
	other, _ := lz.Join(l)
	spoil(j)
	for i, s := range list()[:3] {
		got := l[:3][i]
		if got.Off != s.Off || got.Len != s.Len || len(got.Lit) != len(s.Lit) || !bytes.Equal(got.Lit[:cap(got.Lit)], s.Lit[:cap(s.Lit)]) {
			t.Errorf("sequence %d is %v now", i, got)
		}
	}
	if !bytes.Equal(other, block("20 61 62 02 00 10 63")) {
		t.Errorf("two answers share memory: %x", other)
	}
	for _, s := range l {
		spoil(s.Lit)
	}
	if !bytes.Equal(other, block("20 61 62 02 00 10 63")) {
		t.Errorf("it shares memory with the list: %x", other)
	}
}

func TestAnswersAreNew(t *testing.T) {
	for _, digits := range []string{"20 61 62 02 00 10 63", "70 61 62 61 62 61 62 63", "30 61 62 63 01 00 30 64 65 66"} {
		b := withRoom(block(digits))
		want, seqs, _, _ := modelled(b, 99)
		out, _, _ := lz.Decode(b, 99)
		l, _, _ := lz.Cut(b)
		out2, _, _ := lz.Decode(b, 99)
		l2, _, _ := lz.Cut(b)
		spoil(out)
		for i := range l { // each list of an answer by itself
			for k := i + 1; k < len(l); k++ {
				if !bytes.Equal(l[k].Lit, seqs[k].Lit) {
					t.Errorf("%s: literals %d share memory with literals %d", digits, k, i)
				}
			}
			spoil(l[i].Lit)
			for k := range l2 {
				if !bytes.Equal(l2[k].Lit, seqs[k].Lit) {
					t.Errorf("%s: literals %d are shared with another answer", digits, k)
				}
			}
		}
		l[0] = api.Seq{}
		if again := withRoom(block(digits)); !bytes.Equal(b[:cap(b)], again[:cap(again)]) {
			t.Errorf("%s: the block is shared: %x", digits, b[:cap(b)])
		}
		if !bytes.Equal(out2, want) || !sameSeqs(l2, seqs) {
			t.Errorf("%s: another answer is shared", digits)
		}
		spoil(b)
		if !bytes.Equal(out2, want) || !sameSeqs(l2, seqs) {
			t.Errorf("%s: the block is kept", digits)
		}
	}
}

// TestArgumentsAlone asks the same again behind other calls.
func TestArgumentsAlone(t *testing.T) {
	good, bad := block("20 61 62 02 00 10 63"), block("10 61 00 00")
	for range 3 {
		unpacks(t, good, []byte("abababc"))
		failsAll(t, bad, api.ErrRange, 2)
		fails(t, good, 6, api.ErrLong, 5)
		if b, e := lz.Join([]api.Seq{seq([]byte("ab"), 2, 4), seq([]byte("c"), 0, 0)}); !bytes.Equal(b, good) || e != api.OK {
			t.Errorf("%x, %d", b, e)
		}
	}
}
