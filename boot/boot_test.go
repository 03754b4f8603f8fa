package boot_test

import (
	"bytes"
	"encoding/binary"
	"hash/crc32"
	"math"
	"math/rand"
	"slices"
	"testing"

	"portmanteau/api"
	"portmanteau/boot"
)

const size = 32

// record is one in the order in which the document writes it.
func record(seq uint64, slot, length int, sum uint64) api.Record {
	return api.Record{Seq: seq, Slot: slot, Len: length, Sum: sum}
}

// The edges of each field: those that are right, and those that are not.
var (
	rightSeqs  = []uint64{0, 1, 7, 255, 256, 1 << 32, api.MaxSeq - 1, api.MaxSeq}
	wrongSeqs  = []uint64{api.MaxSeq + 1, api.MaxSeq + 2, 1 << 63, math.MaxUint64 - 1, math.MaxUint64}
	rightSlots = []int{0, 1}
	wrongSlots = []int{math.MinInt, -1 << 32, -256, -2, -1, 2, 3, 255, 256, 257, 1 << 32, 1<<32 + 1, math.MaxInt}
	rightLens  = []int{1, 2, 255, 256, 300, 65536, api.MaxImage - 1, api.MaxImage}
	wrongLens  = []int{math.MinInt, -1 << 32, -1, 0, api.MaxImage + 1, 1 << 24, 1 << 31, 1<<32 - 1, 1 << 32, 1<<32 + 1, math.MaxInt}
	sums       = []uint64{0, 1, 0x0102030405060708, 1 << 63, math.MaxUint64}
)

// rightRecords is records of all edges that are right.
func rightRecords() []api.Record {
	var l []api.Record
	for _, seq := range rightSeqs {
		for _, slot := range rightSlots {
			for _, length := range rightLens {
				for _, sum := range sums {
					l = append(l, record(seq, slot, length, sum))
				}
			}
		}
	}
	return l
}

// wrongRecords is records of which one field, or all of them, are not right.
func wrongRecords() []api.Record {
	l := []api.Record{{}, record(math.MaxUint64, 2, 0, math.MaxUint64), record(api.MaxSeq+1, -1, api.MaxImage+1, 0)}
	for _, seq := range wrongSeqs {
		l = append(l, record(seq, 0, 1, 0), record(seq, 1, api.MaxImage, math.MaxUint64))
	}
	for _, slot := range wrongSlots {
		l = append(l, record(0, slot, 1, 0), record(api.MaxSeq, slot, api.MaxImage, math.MaxUint64))
	}
	for _, length := range wrongLens {
		l = append(l, record(0, 0, length, 0), record(api.MaxSeq, 1, length, math.MaxUint64))
	}
	return l
}

// summed is b with the CRC behind it, by another hand than the program's.
func summed(b []byte) []byte {
	return binary.LittleEndian.AppendUint32(bytes.Clone(b), crc32.ChecksumIEEE(b))
}

// laid is a record's bytes, right or not, by another hand than the program's.
func laid(r api.Record) []byte {
	b := []byte{0x50, 0x4d, 0x42, 0x31}
	b = binary.LittleEndian.AppendUint64(b, r.Seq)
	b = append(b, byte(r.Slot), 0, 0, 0)
	b = binary.LittleEndian.AppendUint32(b, uint32(r.Len))
	b = binary.LittleEndian.AppendUint64(b, r.Sum)
	return summed(b)
}

// encoded is a record's bytes, which there must be.
func encoded(t testing.TB, r api.Record) []byte {
	t.Helper()
	b, e := boot.Encode(r)
	if e != api.OK || len(b) != size {
		t.Fatalf("Encode(%v): %x %d", r, b, e)
	}
	return b
}

// refused holds that b is no record.
func refused(t *testing.T, what string, b []byte) {
	t.Helper()
	if r, e := boot.Decode(b); r != (api.Record{}) || e != api.ErrForm {
		t.Errorf("%s: Decode(%x): %v %d, not ErrForm", what, b, r, e)
	}
}

// withRoom is a copy of b that has spare room, whose bytes are all aa.
func withRoom(b []byte) []byte {
	all := bytes.Repeat([]byte{0xaa}, len(b)+40)
	copy(all, b)
	return all[:len(b)]
}

// sameRoom says whether b, made by withRoom of was, and its spare room are as they were.
func sameRoom(b, was []byte) bool {
	return bytes.Equal(b[:cap(b)], withRoom(was)[:len(was)+40])
}

// P8.1

func TestEncodeBytes(t *testing.T) {
	want := []byte{
		0x50, 0x4d, 0x42, 0x31,
		0x17, 0x16, 0x15, 0x14, 0x13, 0x12, 0x11, 0x10,
		1, 0, 0, 0,
		0x23, 0x22, 0x21, 0,
		0x37, 0x36, 0x35, 0x34, 0x33, 0x32, 0x31, 0x30,
	}
	crc := crc32.ChecksumIEEE(want)
	want = append(want, byte(crc), byte(crc>>8), byte(crc>>16), byte(crc>>24))
	b, e := boot.Encode(record(0x1011121314151617, 1, 0x212223, 0x3031323334353637))
	if !bytes.Equal(b, want) || e != api.OK {
		t.Errorf("%x %d, not %x", b, e, want)
	}
}

func TestEncodeEdges(t *testing.T) {
	for _, r := range rightRecords() {
		if b, e := boot.Encode(r); !bytes.Equal(b, laid(r)) || e != api.OK {
			t.Errorf("Encode(%v): %x %d, not %x", r, b, e, laid(r))
		}
	}
	for _, r := range wrongRecords() {
		if b, e := boot.Encode(r); len(b) != 0 || e != api.ErrArg {
			t.Errorf("Encode(%v): %x %d, not ErrArg", r, b, e)
		}
	}
}

func TestDecodeEdges(t *testing.T) {
	for _, r := range rightRecords() {
		if x, e := boot.Decode(laid(r)); x != r || e != api.OK {
			t.Errorf("Decode of %v: %v %d", r, x, e)
		}
	}
}

// A record that is not right is none, though its CRC is.
func TestDecodeWrongFields(t *testing.T) {
	for _, seq := range wrongSeqs {
		refused(t, "Seq", laid(record(seq, 0, 1, 0)))
	}
	for slot := 2; slot < 256; slot++ {
		refused(t, "Slot", laid(record(1, slot, 1, 0)))
	}
	for _, length := range []int{0, api.MaxImage + 1, api.MaxImage + 2, 1 << 24, 1 << 31, 1<<31 + 1, 1<<32 - 1} {
		refused(t, "Len", laid(record(1, 0, length, 0)))
	}
}

// The mark and the noughts are asked of, though the CRC goes by what is there.
func TestDecodeWrongConstants(t *testing.T) {
	good := laid(record(7, 1, 300, 9))
	for _, at := range []int{0, 1, 2, 3, 13, 14, 15} {
		for turn := 1; turn < 256; turn++ {
			b := bytes.Clone(good[:size-4])
			b[at] ^= byte(turn)
			refused(t, "a constant", summed(b))
		}
	}
}

func TestDecodeLengths(t *testing.T) {
	r := record(7, 1, 300, 9)
	good := laid(r)
	for n := range size {
		refused(t, "short", good[:n]) // spare room holds what is missing
		refused(t, "short", bytes.Clone(good[:n]))
		refused(t, "noughts", make([]byte, n))
	}
	refused(t, "nil", nil)
	for _, n := range []int{0, 1, 2, 32, 33, 4096} {
		for _, fill := range []byte{0, 1, 0x50, 0xff} {
			b := append(bytes.Clone(good), bytes.Repeat([]byte{fill}, n)...)
			if x, e := boot.Decode(b); x != r || e != api.OK {
				t.Errorf("%d bytes %x behind: %v %d", n, fill, x, e)
			}
		}
	}
	refused(t, "a byte ahead", append([]byte{0}, good...))
	refused(t, "a record behind what is none", append(make([]byte, size), good...))
}

func TestDecodeAnyBytes(t *testing.T) {
	for fill := range 256 {
		refused(t, "all alike", bytes.Repeat([]byte{byte(fill)}, size))
	}
	random := rand.New(rand.NewSource(8))
	for range 2000 {
		b := make([]byte, random.Intn(80))
		random.Read(b)
		refused(t, "any bytes", b)
		copy(b, "PMB1")
		refused(t, "any bytes behind the mark", b)
	}
}

func TestDecodeOtherSums(t *testing.T) {
	good := laid(record(7, 1, 300, 9))
	ahead := good[:size-4]
	crc := crc32.ChecksumIEEE(ahead)
	for what, other := range map[string]uint32{
		"none":             0,
		"all bits":         math.MaxUint32,
		"turned":           ^crc,
		"one more":         crc + 1,
		"without the mark": crc32.ChecksumIEEE(ahead[4:]),
		"of all 32 bytes":  crc32.ChecksumIEEE(append(bytes.Clone(ahead), 0, 0, 0, 0)),
		"Castagnoli's":     crc32.Checksum(ahead, crc32.MakeTable(crc32.Castagnoli)),
	} {
		refused(t, what, binary.LittleEndian.AppendUint32(bytes.Clone(ahead), other))
	}
	refused(t, "highest byte first", binary.BigEndian.AppendUint32(bytes.Clone(ahead), crc))
}

// P8.2

func TestChooseExample(t *testing.T) {
	first, second := record(7, 1, 300, 9), record(8, 0, 200, 5)
	a, b := encoded(t, first), encoded(t, second)
	if which, r, e := boot.Choose(a, b); which != 1 || r != second || e != api.OK {
		t.Error(which, r, e)
	}
	if which, r, e := boot.Choose(b, a); which != 0 || r != second || e != api.OK {
		t.Error(which, r, e)
	}
	if l := boot.Order(a, b); !slices.Equal(l, []int{1, 0}) {
		t.Error(l)
	}
	if l := boot.Order(b, a); !slices.Equal(l, []int{0, 1}) {
		t.Error(l)
	}
}

// side is bytes that are handed to Choose and Order, and the record that they are, if they are one.
type side struct {
	b     []byte
	r     api.Record
	taken bool
}

// sides is records of many numbers, some with bytes behind, and bytes that are none.
func sides() []side {
	var l []side
	for i, seq := range rightSeqs {
		for slot := range 2 {
			r := record(seq, slot, 1+i, uint64(100*i+slot))
			l = append(l, side{laid(r), r, true}, side{append(laid(r), 1, 2, 3), r, true})
		}
		changed := laid(record(seq, 0, 5, 6))
		changed[20] ^= 1
		l = append(l, side{b: changed}, side{b: laid(record(seq, 0, 5, 6))[:size-1]})
	}
	for _, r := range []api.Record{record(api.MaxSeq+1, 0, 1, 0), record(math.MaxUint64, 0, 1, 0), record(9, 2, 1, 0), record(9, 0, 0, 0)} {
		l = append(l, side{b: laid(r)})
	}
	return append(l, side{}, side{b: []byte{}}, side{b: []byte("PMB1")}, side{b: make([]byte, size)}, side{b: bytes.Repeat([]byte{0xff}, size)})
}

// wantOrder is what Order should answer, the cases one by one.
func wantOrder(a, b side) []int {
	switch {
	case !a.taken && !b.taken:
		return nil
	case !b.taken:
		return []int{0}
	case !a.taken:
		return []int{1}
	case a.r.Seq >= b.r.Seq:
		return []int{0, 1}
	}
	return []int{1, 0}
}

func TestChooseAndOrder(t *testing.T) {
	for _, a := range sides() {
		for _, b := range sides() {
			want := wantOrder(a, b)
			if l := boot.Order(a.b, b.b); !slices.Equal(l, want) {
				t.Errorf("Order(%x, %x): %v, not %v", a.b, b.b, l, want)
			}
			which, r, e := boot.Choose(a.b, b.b)
			if len(want) == 0 {
				if which != 0 || r != (api.Record{}) || e != api.ErrNone {
					t.Errorf("Choose(%x, %x): %d %v %d, not ErrNone", a.b, b.b, which, r, e)
				}
				continue
			}
			if which != want[0] || r != []side{a, b}[which].r || e != api.OK {
				t.Errorf("Choose(%x, %x): %d %v %d, not %d", a.b, b.b, which, r, e, want[0])
			}
		}
	}
}

// Only the number decides: no other field, and the first one if it is the same.
func TestChooseSameSeq(t *testing.T) {
	few, much := record(5, 0, 1, 0), record(5, 1, api.MaxImage, math.MaxUint64)
	for _, c := range [][2]api.Record{{few, much}, {much, few}, {few, few}} {
		a, b := encoded(t, c[0]), encoded(t, c[1])
		if which, r, e := boot.Choose(a, b); which != 0 || r != c[0] || e != api.OK {
			t.Error(c, which, r, e)
		}
		if l := boot.Order(a, b); !slices.Equal(l, []int{0, 1}) {
			t.Error(c, l)
		}
	}
	greater := record(6, 0, 1, 0)
	if which, r, e := boot.Choose(encoded(t, much), encoded(t, greater)); which != 1 || r != greater || e != api.OK {
		t.Error(which, r, e)
	}
}

func TestNext(t *testing.T) {
	for _, seq := range rightSeqs {
		for _, slot := range rightSlots {
			for _, length := range rightLens {
				for _, sum := range sums {
					want, wantE := record(seq+1, slot, length, sum), api.OK
					if seq == api.MaxSeq {
						want, wantE = api.Record{}, api.ErrLong
					}
					if n, e := boot.Next(record(seq, 1, 300, 9), slot, length, sum); n != want || e != wantE {
						t.Errorf("Next of %d, %d %d %x: %v %d, not %v %d", seq, slot, length, sum, n, e, want, wantE)
					}
				}
			}
		}
	}
}

// noNext holds that nothing follows r for want of what is right, ahead of its Seq being MaxSeq.
func noNext(t *testing.T, r api.Record, slot, length int) {
	t.Helper()
	if n, e := boot.Next(r, slot, length, 5); n != (api.Record{}) || e != api.ErrArg {
		t.Errorf("Next(%v, %d, %d): %v %d, not ErrArg", r, slot, length, n, e)
	}
}

func TestNextWrong(t *testing.T) {
	for _, seq := range rightSeqs {
		r := record(seq, 1, 300, 9)
		for _, slot := range wrongSlots {
			noNext(t, r, slot, 1)
			noNext(t, r, slot, api.MaxImage)
		}
		for _, length := range wrongLens {
			noNext(t, r, 0, length)
			noNext(t, r, 1, length)
		}
		noNext(t, r, 2, 0)
	}
	for _, seq := range wrongSeqs { // the greatest of them wraps round to 0, which would be right
		noNext(t, record(seq, 1, 300, 9), 0, 1)
		noNext(t, record(seq, 1, 300, 9), 2, 0)
	}
}

// Of r only the number plays a part.
func TestNextOfAnElderThatIsNotRight(t *testing.T) {
	for _, r := range []api.Record{{}, record(0, -1, -1, 0), record(0, 2, api.MaxImage+1, 7), record(0, math.MinInt, math.MaxInt, math.MaxUint64)} {
		if n, e := boot.Next(r, 1, 4, 3); n != record(1, 1, 4, 3) || e != api.OK {
			t.Errorf("Next(%v): %v %d", r, n, e)
		}
		r.Seq = api.MaxSeq
		if n, e := boot.Next(r, 1, 4, 3); n != (api.Record{}) || e != api.ErrLong {
			t.Errorf("Next(%v): %v %d, not ErrLong", r, n, e)
		}
	}
}

// P8.3

func TestEncodedIsDecoded(t *testing.T) {
	random := rand.New(rand.NewSource(83))
	for _, r := range rightRecords() {
		if x, e := boot.Decode(encoded(t, r)); x != r || e != api.OK {
			t.Errorf("%v is decoded as %v, %d", r, x, e)
		}
	}
	for range 2000 {
		r := record(random.Uint64()>>2>>random.Intn(62), random.Intn(2), 1+random.Intn(api.MaxImage), random.Uint64())
		if x, e := boot.Decode(encoded(t, r)); x != r || e != api.OK {
			t.Errorf("%v is decoded as %v, %d", r, x, e)
		}
	}
}

func TestEachByteCounts(t *testing.T) {
	for _, r := range []api.Record{record(7, 1, 300, 9), record(0, 0, 1, 0), record(api.MaxSeq, 1, api.MaxImage, math.MaxUint64)} {
		good := encoded(t, r)
		for at := range good {
			for turn := 1; turn < 256; turn++ {
				b := bytes.Clone(good)
				b[at] ^= byte(turn)
				refused(t, "a byte changed", b)
			}
		}
	}
}

// turned is b with the bits of mask turned, the lowest one at bit from of all (bit 0 of a byte its first); bits behind b fall away.
func turned(b []byte, from int, mask uint32) []byte {
	out := bytes.Clone(b)
	for i := range 32 {
		at := from + i
		if mask>>i&1 == 1 && at < 8*len(b) {
			out[at/8] ^= 1 << (at % 8)
		}
	}
	return out
}

// checkTurned holds that turned bits are told, if one of them is a record's own, and make no difference, if none is.
func checkTurned(t *testing.T, r api.Record, b []byte, from int, mask uint32) {
	t.Helper()
	other := turned(b, from, mask)
	if !bytes.Equal(other[:size], b[:size]) {
		refused(t, "turned bits", other)
		return
	}
	if x, e := boot.Decode(other); x != r || e != api.OK {
		t.Errorf("turned behind the record: %v %d", x, e)
	}
}

func TestTurnedBitsAreTold(t *testing.T) {
	random := rand.New(rand.NewSource(32))
	for _, r := range []api.Record{record(7, 1, 300, 9), record(0, 0, 1, 0), record(api.MaxSeq, 1, api.MaxImage, math.MaxUint64)} {
		b := append(encoded(t, r), make([]byte, 8)...)
		for from := range 8 * len(b) {
			checkTurned(t, r, b, from, math.MaxUint32)
			for i := range 32 {
				checkTurned(t, r, b, from, 1|1<<i)
			}
			for range 40 {
				checkTurned(t, r, b, from, random.Uint32()|1)
			}
		}
	}
}

func TestNextIsChosenAheadOfItsElder(t *testing.T) {
	for _, r := range rightRecords() {
		if r.Seq == api.MaxSeq {
			continue
		}
		n, e := boot.Next(r, 1-r.Slot, 200, 5)
		if e != api.OK {
			t.Fatalf("Next(%v): %d", r, e)
		}
		elder, next := encoded(t, r), encoded(t, n)
		if which, x, e := boot.Choose(elder, next); which != 1 || x != n || e != api.OK {
			t.Errorf("%v behind %v: %d %v %d", n, r, which, x, e)
		}
		if which, x, e := boot.Choose(next, elder); which != 0 || x != n || e != api.OK {
			t.Errorf("%v ahead of %v: %d %v %d", n, r, which, x, e)
		}
		if l, m := boot.Order(elder, next), boot.Order(next, elder); !slices.Equal(l, []int{1, 0}) || !slices.Equal(m, []int{0, 1}) {
			t.Errorf("%v and %v: %v %v", r, n, l, m)
		}
	}
}

// The rules that hold everywhere

func TestAnswersAreNewMemory(t *testing.T) {
	r := record(7, 1, 300, 9)
	x, y := encoded(t, r), encoded(t, r)
	clear(x[:cap(x)])
	if !bytes.Equal(y, laid(r)) {
		t.Errorf("another answer of Encode changed: %x", y)
	}
	l, m := boot.Order(y, y), boot.Order(y, y)
	clear(l[:cap(l)])
	if !slices.Equal(m, []int{0, 1}) {
		t.Error("another answer of Order changed:", m)
	}
}

func TestArgumentsStayAsTheyWere(t *testing.T) {
	for _, was := range [][]byte{laid(record(7, 1, 300, 9)), laid(record(8, 2, 300, 9)), append(laid(record(9, 0, 1, 0)), 4, 5), laid(record(7, 1, 300, 9))[:31], {}} {
		a, b := withRoom(was), withRoom(was)
		boot.Decode(a)
		boot.Choose(a, b)
		boot.Order(a, b)
		if !sameRoom(a, was) || !sameRoom(b, was) {
			t.Errorf("%x became %x and %x", was, a[:cap(a)], b[:cap(b)])
		}
	}
}
