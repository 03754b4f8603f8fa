package super_test

import (
	"bytes"
	"encoding/binary"
	"hash/crc32"
	"math"
	"math/rand"
	"testing"

	"portmanteau/api"
	"portmanteau/super"
)

// The numbers of the chapter, written out, so that no test goes by the program's own.
const (
	size  = 68      // bytes of a head
	sumAt = 64      // the place of the CRC
	image = 1 << 23 // bytes of the longest image
	tells = 1 << 24 // bytes that a stream tells at most
)

// The edges of each field: those that are right, if the other fields let them be, and those that never are.
var (
	rightLogs   = []int{12, 13, 16, 19, 20}
	wrongLogs   = []int{math.MinInt, -1 << 32, -12, -1, 0, 1, 11, 21, 22, 63, 64, 255, 256 + 12, 1<<32 + 12, math.MaxInt}
	rightInodes = []int{1, 2, 255, 256, 300, 16383, 16384, 16385}
	wrongInodes = []int{math.MinInt, -1 << 32, -1, 0, 16386, 16387, 65536, 1 << 31, 1<<32 - 1, 1 << 32, 1<<32 + 1, math.MaxInt}
	rightLens   = []int{68, 69, 255, 256, 65536, image - 1, image}
	wrongLens   = []int{math.MinInt, -1 << 32, -68, -1, 0, 1, 66, 67, image + 1, image + 2, 1 << 24, 1 << 31, 1<<32 - 1, 1 << 32, 1<<32 + 68, math.MaxInt}
	wrongAts    = []int{math.MinInt, -1 << 32, -68, -1, 0, 1, 66, 67, image + 1, image + 2, 1 << 24, 1 << 31, 1<<32 - 1, 1 << 32, 1<<32 + 68, math.MaxInt}
	rightSizes  = []int{0, 1, 255, 256, 65536, tells - 1, tells}
	wrongSizes  = []int{math.MinInt, -1 << 32, -2, -1, tells + 1, tells + 2, 1 << 31, 1<<32 - 1, 1 << 32, 1<<32 + 1, math.MaxInt}
	wrongPlaces = []int{math.MinInt, -1 << 32, -6, -2, -1, 6, 7, 8, 12, 256, 1 << 32, 1<<32 + 1, math.MaxInt - 1, math.MaxInt}
)

// head is one whose streams begin at these places and tell so many bytes.
func head(log, inodes, length int, ats, sizes [6]int) api.Super {
	s := api.Super{Log: log, Inodes: inodes, Len: length}
	for i := range 6 {
		s.Streams[i] = api.Span{At: ats[i], Size: sizes[i]}
	}
	return s
}

// six is a number six times.
func six(n int) [6]int {
	return [6]int{n, n, n, n, n, n}
}

// least and greatest have all fields at one end, mixed no two numbers alike.
func least() api.Super {
	return head(12, 1, 68, six(68), six(0))
}

func greatest() api.Super {
	return head(20, 16385, image, six(image), six(tells))
}

func mixed() api.Super {
	return head(17, 0x2122, 0x414243,
		[6]int{0x5152, 0x010203, 0x111213, 0x212223, 0x313233, 0x414142},
		[6]int{0x616263, 0x717273, 0x818283, 0x919293, 0xa1a2a3, 0xb1b2b3})
}

// fewHeads is some right heads, unlike in all fields.
func fewHeads() []api.Super {
	return []api.Super{
		least(), greatest(), mixed(),
		head(12, 1, image, six(68), six(0)),
		head(20, 16385, image, [6]int{68, 68, 68, image, image, image}, [6]int{0, tells, 0, tells, 0, tells}),
		head(14, 9, 100, [6]int{68, 69, 70, 71, 72, 73}, [6]int{0, 1, 2, 3, 4, 5}),
		head(14, 9, 73, [6]int{68, 69, 70, 71, 72, 73}, six(7)),
	}
}

// rightHeads is those, and heads with each field at each of its edges.
func rightHeads() []api.Super {
	l := fewHeads()
	for _, s := range fewHeads() {
		for _, log := range rightLogs {
			s.Log = log
			l = append(l, s)
		}
		for _, inodes := range rightInodes {
			s.Inodes = inodes
			l = append(l, s)
		}
		for i := range 6 {
			for _, n := range rightSizes {
				s.Streams[i].Size = n
				l = append(l, s)
			}
		}
	}
	for _, length := range rightLens { // the streams from the i-th on at the image's end, those ahead of it at the head's
		for i := range 7 {
			ats := six(length)
			for j := range i {
				ats[j] = 68
			}
			l = append(l, head(12, 1, length, ats, six(0)), head(20, 7, length, ats, six(9)))
		}
	}
	return l
}

// wrongHeads is heads of which one field, or more, are not right.
func wrongHeads() []api.Super {
	l := []api.Super{{}, head(-1, -1, -1, six(-1), six(-1)), head(21, 16386, image+1, six(image+2), six(tells+1)), head(11, 0, 67, six(66), six(-1))}
	for _, s := range fewHeads() {
		l = append(l, wrongNumbers(s)...)
		l = append(l, wrongStreams(s)...)
	}
	return l
}

// wrongNumbers is s with a number that is not right in each of the fields ahead of the streams.
func wrongNumbers(s api.Super) []api.Super {
	var l []api.Super
	for _, n := range wrongLogs {
		x := s
		x.Log = n
		l = append(l, x)
	}
	for _, n := range wrongInodes {
		x := s
		x.Inodes = n
		l = append(l, x)
	}
	for _, n := range append(wrongLens, s.Streams[5].At-1) {
		x := s
		x.Len = n
		l = append(l, x)
	}
	return l
}

// wrongStreams is s with a number that is not right in each of its streams.
func wrongStreams(s api.Super) []api.Super {
	var l []api.Super
	for i := range 6 {
		ats := wrongAts
		if i > 0 {
			ats = append(ats[:len(ats):len(ats)], s.Streams[i-1].At-1)
		}
		if i < 5 {
			ats = append(ats[:len(ats):len(ats)], s.Streams[i+1].At+1)
		} else {
			ats = append(ats[:len(ats):len(ats)], s.Len+1)
		}
		for _, n := range ats {
			x := s
			x.Streams[i].At = n
			l = append(l, x)
		}
		for _, n := range wrongSizes {
			x := s
			x.Streams[i].Size = n
			l = append(l, x)
		}
	}
	return l
}

// isRight says P13.1 by another hand than the program's.
func isRight(s api.Super) bool {
	for i, a := range s.Streams {
		for _, b := range s.Streams[i:] {
			if a.At > b.At {
				return false
			}
		}
		if a.At < 68 || a.At > s.Len || a.Size < 0 || a.Size > 16777216 {
			return false
		}
	}
	return 12 <= s.Log && s.Log <= 20 && 1 <= s.Inodes && s.Inodes <= 16385 && 68 <= s.Len && s.Len <= 8388608
}

// randomHead is a head that is often right and, if not, only just wrong.
func randomHead(random *rand.Rand) api.Super {
	length := 66 + random.Intn(12)
	if random.Intn(4) == 0 {
		length = image - 8 + random.Intn(10)
	}
	s := api.Super{Log: 11 + random.Intn(11), Inodes: random.Intn(5), Len: length}
	if random.Intn(2) == 0 {
		s.Inodes = 16382 + random.Intn(5)
	}
	at := 67 + random.Intn(4)
	for i := range s.Streams {
		s.Streams[i] = api.Span{At: at, Size: random.Intn(tells + 1)}
		at += random.Intn(3)
		if random.Intn(20) == 0 {
			at -= random.Intn(3)
		}
		if random.Intn(30) == 0 {
			at = length - random.Intn(2)
		}
	}
	if random.Intn(10) == 0 {
		s.Streams[random.Intn(6)].Size = wrongSizes[random.Intn(len(wrongSizes))]
	}
	return s
}

// summed is b with the CRC behind it, by another hand than the program's.
func summed(b []byte) []byte {
	return binary.LittleEndian.AppendUint32(bytes.Clone(b), crc32.ChecksumIEEE(b))
}

// laid is a head's bytes, right or not, by another hand than the program's.
func laid(s api.Super) []byte {
	b := []byte{0x50, 0x4d, 0x53, 0x31, 1, 0, byte(s.Log), 0}
	b = binary.LittleEndian.AppendUint32(b, uint32(s.Inodes))
	b = binary.LittleEndian.AppendUint32(b, uint32(s.Len))
	for _, x := range s.Streams {
		b = binary.LittleEndian.AppendUint32(b, uint32(x.At))
		b = binary.LittleEndian.AppendUint32(b, uint32(x.Size))
	}
	return summed(b)
}

// fits says whether each number of s has room in its bytes, so that laid tells just s.
func fits(s api.Super) bool {
	room := func(n int) bool { return n >= 0 && n < 1<<32 }
	for _, x := range s.Streams {
		if !room(x.At) || !room(x.Size) {
			return false
		}
	}
	return s.Log >= 0 && s.Log < 256 && room(s.Inodes) && room(s.Len)
}

// encoded is a head's bytes, which there must be.
func encoded(t testing.TB, s api.Super) []byte {
	t.Helper()
	b, e := super.Encode(s)
	if e != api.OK || len(b) != size {
		t.Fatalf("Encode(%v): %x %d", s, b, e)
	}
	return b
}

// refused holds that b is no head, and why.
func refused(t *testing.T, what string, b []byte, want api.Errno) {
	t.Helper()
	if s, e := super.Decode(b); s != (api.Super{}) || e != want {
		t.Errorf("%s: Decode(%x): %v %d, not %d", what, b, s, e, want)
	}
}

// taken holds that b is the head s.
func taken(t *testing.T, what string, b []byte, s api.Super) {
	t.Helper()
	if x, e := super.Decode(b); x != s || e != api.OK {
		t.Errorf("%s: Decode(%x): %v %d, not %v", what, b, x, e, s)
	}
}

// withRoom is a copy of b that has spare room, whose bytes are all aa.
func withRoom(b []byte) []byte {
	all := bytes.Repeat([]byte{0xaa}, len(b)+80)
	copy(all, b)
	return all[:len(b)]
}

// sameRoom says whether b, made by withRoom of was, and its spare room are as they were.
func sameRoom(b, was []byte) bool {
	return bytes.Equal(b[:cap(b)], withRoom(was)[:len(was)+80])
}

// The tests' own lists

func TestTheListsAreAsTheyAreCalled(t *testing.T) {
	for _, s := range rightHeads() {
		if !isRight(s) {
			t.Errorf("%v is not right", s)
		}
	}
	for _, s := range wrongHeads() {
		if isRight(s) {
			t.Errorf("%v is right", s)
		}
	}
}

// P13.1

func TestCheckEdges(t *testing.T) {
	for _, s := range rightHeads() {
		if e := super.Check(s); e != api.OK {
			t.Errorf("Check(%v): %d", s, e)
		}
	}
	for _, s := range wrongHeads() {
		if e := super.Check(s); e != api.ErrArg {
			t.Errorf("Check(%v): %d, not ErrArg", s, e)
		}
	}
}

// Each stream is held against the one ahead of it, not against the first or the last alone.
func TestCheckOrderOfStreams(t *testing.T) {
	for i := range 6 {
		for j := range 6 {
			s := mixed()
			s.Streams[i], s.Streams[j] = s.Streams[j], s.Streams[i]
			want := api.ErrArg
			if i == j {
				want = api.OK
			}
			if e := super.Check(s); e != want {
				t.Errorf("streams %d and %d: %d, not %d", i, j, e, want)
			}
		}
	}
}

func TestCheckRandomHeads(t *testing.T) {
	random := rand.New(rand.NewSource(131))
	count := map[api.Errno]int{}
	for range 40000 {
		s := randomHead(random)
		want := api.ErrArg
		if isRight(s) {
			want = api.OK
		}
		count[want]++
		if e := super.Check(s); e != want {
			t.Fatalf("Check(%v): %d, not %d", s, e, want)
		}
	}
	if count[api.OK] < 1000 || count[api.ErrArg] < 1000 {
		t.Error("too few of one kind:", count)
	}
}

// P13.2

func TestEncodeBytes(t *testing.T) {
	want := []byte{
		0x50, 0x4d, 0x53, 0x31, 1, 0, 17, 0,
		0x22, 0x21, 0, 0, 0x43, 0x42, 0x41, 0,
		0x52, 0x51, 0, 0, 0x63, 0x62, 0x61, 0,
		0x03, 0x02, 0x01, 0, 0x73, 0x72, 0x71, 0,
		0x13, 0x12, 0x11, 0, 0x83, 0x82, 0x81, 0,
		0x23, 0x22, 0x21, 0, 0x93, 0x92, 0x91, 0,
		0x33, 0x32, 0x31, 0, 0xa3, 0xa2, 0xa1, 0,
		0x42, 0x41, 0x41, 0, 0xb3, 0xb2, 0xb1, 0,
	}
	crc := crc32.ChecksumIEEE(want)
	want = append(want, byte(crc), byte(crc>>8), byte(crc>>16), byte(crc>>24))
	if b, e := super.Encode(mixed()); !bytes.Equal(b, want) || e != api.OK {
		t.Errorf("%x %d, not %x", b, e, want)
	}
	taken(t, "mixed", want, mixed())
}

func TestEncodeEdges(t *testing.T) {
	for _, s := range rightHeads() {
		if b, e := super.Encode(s); !bytes.Equal(b, laid(s)) || e != api.OK {
			t.Errorf("Encode(%v): %x %d, not %x", s, b, e, laid(s))
		}
	}
	for _, s := range wrongHeads() {
		if b, e := super.Encode(s); len(b) != 0 || e != api.ErrArg {
			t.Errorf("Encode(%v): %x %d, not ErrArg", s, b, e)
		}
	}
}

func TestDecodeEdges(t *testing.T) {
	for _, s := range rightHeads() {
		taken(t, "an edge", laid(s), s)
	}
}

func TestDecodeLengths(t *testing.T) {
	refused(t, "nil", nil, api.ErrForm)
	refused(t, "empty", []byte{}, api.ErrForm)
	for _, s := range fewHeads() {
		for n := range size {
			refused(t, "too short", laid(s)[:n], api.ErrForm)
			refused(t, "too short, a head in the spare room", withRoom(laid(s))[:n], api.ErrForm)
			refused(t, "too short, other bytes", make([]byte, n), api.ErrForm)
			if n > 4 {
				refused(t, "too short, with a CRC", summed(laid(s)[:n-4]), api.ErrForm)
			}
		}
	}
}

// What stands behind a head plays no part, a further head neither.
func TestDecodeBytesBehind(t *testing.T) {
	for _, s := range fewHeads() {
		taken(t, "as it is", laid(s), s)
		for _, n := range []int{1, 2, 4, 68, 1000} {
			taken(t, "noughts behind", append(laid(s), make([]byte, n)...), s)
			taken(t, "ones behind", append(laid(s), bytes.Repeat([]byte{0xff}, n)...), s)
		}
		taken(t, "a head behind", append(laid(s), laid(mixed())...), s)
		refused(t, "a head behind a byte", append([]byte{0}, laid(s)...), api.ErrForm)
	}
}

// such says whether eight bytes are such as a head begins with: its mark, 1, a Log that may be, 0.
func such(b []byte) bool {
	return bytes.Equal(b[:6], []byte{0x50, 0x4d, 0x53, 0x31, 1, 0}) && b[6] >= 12 && b[6] <= 20 && b[7] == 0
}

// The first eight are asked ahead of the CRC, and beside one that is theirs.
func TestDecodeFirstEight(t *testing.T) {
	for _, s := range fewHeads() {
		good := laid(s)
		for at := range 8 {
			for turn := 1; turn < 256; turn++ {
				b := bytes.Clone(good)
				b[at] ^= byte(turn)
				own := summed(b[:sumAt])
				if !such(b) {
					refused(t, "first eight", b, api.ErrForm)
					refused(t, "first eight, with their CRC", own, api.ErrForm)
					continue
				}
				other := s
				other.Log = int(b[6])
				refused(t, "another Log", b, api.ErrSum)
				taken(t, "another Log, with its CRC", own, other)
			}
		}
	}
}

// Which Log may be is asked with the first eight.
func TestDecodeEachLog(t *testing.T) {
	for log := range 256 {
		s := mixed()
		s.Log = log
		b := laid(s)
		spoilt := bytes.Clone(b)
		spoilt[sumAt] ^= 1
		if log < 12 || log > 20 {
			refused(t, "a wrong Log", b, api.ErrForm)
			refused(t, "a wrong Log, a wrong CRC", spoilt, api.ErrForm)
			continue
		}
		taken(t, "a Log", b, s)
		refused(t, "a Log, a wrong CRC", spoilt, api.ErrSum)
	}
}

func TestDecodeOtherCrc(t *testing.T) {
	for _, s := range fewHeads() {
		good := laid(s)
		for at := 8; at < size; at++ {
			for turn := 1; turn < 256; turn++ {
				b := bytes.Clone(good)
				b[at] ^= byte(turn)
				refused(t, "another CRC", b, api.ErrSum)
			}
		}
		for _, crc := range []uint32{0, math.MaxUint32, ^crc32.ChecksumIEEE(good[:sumAt]), crc32.ChecksumIEEE(good), crc32.ChecksumIEEE(good[8:sumAt])} {
			refused(t, "the CRC of something else", binary.LittleEndian.AppendUint32(bytes.Clone(good[:sumAt]), crc), api.ErrSum)
		}
	}
}

// A head that is not right is none, though its CRC is; and where its CRC is another one, that is told first.
func TestDecodeNotRight(t *testing.T) {
	n := 0
	for _, s := range wrongHeads() {
		if !fits(s) {
			continue
		}
		n++
		b := laid(s)
		refused(t, "not right", b, api.ErrForm)
		spoilt := bytes.Clone(b)
		spoilt[sumAt+3] ^= 0x80
		want := api.ErrSum
		if !such(b) {
			want = api.ErrForm
		}
		refused(t, "not right, another CRC", spoilt, want)
	}
	if n < 100 {
		t.Error("too few heads that fit:", n)
	}
}

func TestDecodeRandomHeads(t *testing.T) {
	random := rand.New(rand.NewSource(132))
	for range 20000 {
		s := randomHead(random)
		if !fits(s) {
			continue
		}
		if isRight(s) {
			taken(t, "random", laid(s), s)
		} else {
			refused(t, "random", laid(s), api.ErrForm)
		}
	}
}

func TestDecodeRandomBytes(t *testing.T) {
	random := rand.New(rand.NewSource(133))
	for range 2000 {
		b := make([]byte, random.Intn(90))
		random.Read(b)
		refused(t, "random bytes", b, api.ErrForm)
		if len(b) < size {
			continue
		}
		copy(b, laid(least())[:8])
		refused(t, "random bytes behind the first eight", b, api.ErrSum)
		refused(t, "random bytes with a CRC", summed(b[:sumAt]), api.ErrForm)
	}
}

// P13.3

func TestExample(t *testing.T) {
	s := api.Super{Log: 12, Inodes: 1, Len: 68}
	for i := range s.Streams {
		s.Streams[i].At = 68
	}
	if from, to, e := super.Area(s, 5); from != 68 || to != 68 || e != api.OK {
		t.Error(from, to, e)
	}
	if n := super.Block(s); n != 4096 {
		t.Error(n)
	}
}

func TestAreaByHand(t *testing.T) {
	s := head(12, 1, 1000, [6]int{68, 68, 100, 101, 500, 1000}, six(3))
	for i, want := range [][2]int{{68, 68}, {68, 100}, {100, 101}, {101, 500}, {500, 1000}, {1000, 1000}} {
		if from, to, e := super.Area(s, i); from != want[0] || to != want[1] || e != api.OK {
			t.Errorf("stream %d: %d %d %d", i, from, to, e)
		}
	}
	s.Streams[5].At = 600
	if from, to, e := super.Area(s, 5); from != 600 || to != 1000 || e != api.OK {
		t.Error("the last one does not reach to Len:", from, to, e)
	}
	for i, stream := range []int{api.StreamFrags, api.StreamIndex, api.StreamInodes, api.StreamDirs, api.StreamIds, api.StreamAttrs} {
		if i != stream {
			t.Errorf("stream %d has the number %d", i, stream)
		}
	}
}

// The areas lie one behind the other, from the first stream's place to Len.
func TestAreasAreWhole(t *testing.T) {
	for _, s := range rightHeads() {
		next := s.Streams[0].At
		for i := range 6 {
			from, to, e := super.Area(s, i)
			if from != next || from != s.Streams[i].At || to < from || e != api.OK {
				t.Errorf("Area(%v, %d): %d %d %d", s, i, from, to, e)
			}
			next = to
		}
		if next != s.Len {
			t.Errorf("the areas of %v end at %d", s, next)
		}
	}
}

// noArea holds that there is no such area, and why.
func noArea(t *testing.T, s api.Super, stream int, want api.Errno) {
	t.Helper()
	if from, to, e := super.Area(s, stream); from != 0 || to != 0 || e != want {
		t.Errorf("Area(%v, %d): %d %d %d, not %d", s, stream, from, to, e, want)
	}
}

func TestAreaWrong(t *testing.T) {
	for _, s := range rightHeads() {
		for _, stream := range wrongPlaces {
			noArea(t, s, stream, api.ErrRange)
		}
	}
	for _, s := range wrongHeads() {
		for stream := range 6 {
			noArea(t, s, stream, api.ErrArg)
		}
		for _, stream := range wrongPlaces { // two errors at once
			noArea(t, s, stream, api.ErrArg)
		}
	}
}

func TestBlock(t *testing.T) {
	for i, want := range []int{4096, 8192, 16384, 32768, 65536, 131072, 262144, 524288, 1048576} {
		for _, s := range fewHeads() {
			s.Log = 12 + i
			if n := super.Block(s); n != want {
				t.Errorf("Block of Log %d: %d", s.Log, n)
			}
		}
	}
	for _, s := range wrongHeads() {
		if n := super.Block(s); n != 0 {
			t.Errorf("Block(%v): %d", s, n)
		}
	}
}

// P13.4

func TestEncodedIsDecoded(t *testing.T) {
	for _, s := range rightHeads() {
		taken(t, "encoded", encoded(t, s), s)
	}
	random := rand.New(rand.NewSource(134))
	for range 5000 {
		if s := randomHead(random); isRight(s) {
			taken(t, "encoded", encoded(t, s), s)
		}
	}
}

// turned is b with the bits of mask turned, the lowest one at bit from of all (bit 0 of a byte its first); bits behind b fall away.
func turned(b []byte, from int, mask uint32) []byte {
	out := bytes.Clone(b)
	for i := range 32 {
		at := from + i
		if mask>>i&1 == 1 && at < 8*len(b) {
			out[at/8] ^= 1 << (at % 8)
		}
	}
	return out
}

// checkTurned holds that turned bits are told, if one of them is the head's own, and make no difference, if none is.
func checkTurned(t *testing.T, s api.Super, b []byte, from int, mask uint32) {
	t.Helper()
	other := turned(b, from, mask)
	switch {
	case bytes.Equal(other[:size], b[:size]):
		taken(t, "turned behind the head", other, s)
	case such(other):
		refused(t, "turned bits", other, api.ErrSum)
	default:
		refused(t, "turned bits in the first eight", other, api.ErrForm)
	}
}

func TestTurnedBitsAreTold(t *testing.T) {
	random := rand.New(rand.NewSource(32))
	for _, s := range []api.Super{least(), greatest(), mixed()} {
		b := append(encoded(t, s), make([]byte, 8)...)
		for from := range 8 * len(b) {
			for n := range 32 { // 1 to 32 bits: all of them, the first and the last, some between these
				ends := uint32(1 | 1<<n)
				all := uint32(1<<(n+1) - 1)
				checkTurned(t, s, b, from, all)
				checkTurned(t, s, b, from, ends)
				checkTurned(t, s, b, from, random.Uint32()&all|ends)
			}
		}
	}
}

// The rules that hold everywhere

func TestAnswersAreNewMemory(t *testing.T) {
	for _, s := range fewHeads() {
		x, y := encoded(t, s), encoded(t, s)
		clear(x[:cap(x)])
		if !bytes.Equal(y, laid(s)) {
			t.Errorf("another answer of Encode changed: %x", y)
		}
		if z := encoded(t, s); !bytes.Equal(z, laid(s)) {
			t.Errorf("a later answer of Encode changed: %x", z)
		}
		b := laid(s)
		d, e := super.Decode(b)
		clear(b)
		if d != s || e != api.OK {
			t.Errorf("an answer of Decode changed with its bytes: %v %d", d, e)
		}
		d.Streams[3].At, d.Len = -1, -1
		taken(t, "behind a changed answer", laid(s), s)
	}
}

func TestArgumentsStayAsTheyWere(t *testing.T) {
	good := laid(mixed())
	notRight := mixed()
	notRight.Inodes = 0
	otherCrc := bytes.Clone(good)
	otherCrc[sumAt] ^= 1
	otherMark := bytes.Clone(good)
	otherMark[0] ^= 1
	for _, was := range [][]byte{good, laid(notRight), otherCrc, otherMark, append(bytes.Clone(good), 4, 5), good[:67], {}} {
		b := withRoom(was)
		super.Decode(b)
		if !sameRoom(b, was) {
			t.Errorf("%x became %x", was, b[:cap(b)])
		}
	}
}

func TestTheSameAnswerAgain(t *testing.T) {
	for _, s := range append(fewHeads(), wrongHeads()[:40]...) {
		b, e := super.Encode(s)
		from, to, f := super.Area(s, 2)
		n, g := super.Block(s), super.Check(s)
		super.Encode(mixed())
		super.Decode(laid(least()))
		super.Decode([]byte{1})
		c, e2 := super.Encode(s)
		from2, to2, f2 := super.Area(s, 2)
		if !bytes.Equal(b, c) || e != e2 || from != from2 || to != to2 || f != f2 || n != super.Block(s) || g != super.Check(s) {
			t.Errorf("%v is answered otherwise at the second time", s)
		}
	}
}
