package meta_test

import (
	"bytes"
	"encoding/binary"
	"hash/crc32"
	"math/big"
	"math/rand"
	"slices"
	"testing"

	"portmanteau/api"
	"portmanteau/lz"
	"portmanteau/meta"
)

// The numbers of the chapter, written out, so that no test goes by the program's own.
const (
	piece  = 8192     // bytes that a chunk tells at most
	stream = 16777216 // bytes that a stream tells at most
	heads  = 8        // bytes of a chunk's head
	asIs   = 0x8000   // what is added, if a chunk is not packed
)

// noise is n bytes that are the same in every run and that do not pack.
func noise(n int) []byte {
	b := make([]byte, n)
	rand.New(rand.NewSource(int64(n) + 14)).Read(b)
	return b
}

// words is n bytes that pack well.
func words(n int) []byte {
	return bytes.Repeat([]byte("some words and "), n/15+1)[:n]
}

// mixture is n bytes, of which some pieces pack and some do not.
func mixture(n int) []byte {
	b := words(n)
	for at := piece; at < n; at += 2 * piece {
		copy(b[at:min(at+piece, n)], noise(piece))
	}
	return b
}

// runBlock is a packed block of n times c, 5 at least, by hand: one literal, and the rest copied from one byte ahead.
func runBlock(c byte, n int) []byte {
	more := n - 5
	b := []byte{0x10 | byte(min(more, 15)), c, 1, 0}
	if more >= 15 {
		b = append(b, bytes.Repeat([]byte{255}, (more-15)/255)...)
		b = append(b, byte((more-15)%255))
	}
	return append(b, 0)
}

// headOf is a head's bytes, right or not.
func headOf(plain, word int, crc uint32) []byte {
	b := binary.LittleEndian.AppendUint16(nil, uint16(plain))
	b = binary.LittleEndian.AppendUint16(b, uint16(word))
	return binary.LittleEndian.AppendUint32(b, crc)
}

// laid is a stream that is laid by hand: its image, what it tells, and its chunks.
type laid struct {
	image []byte
	text  []byte
	list  []api.Chunk
}

// add lays one more chunk, right or not, which tells text.
func (s *laid) add(text, stored []byte, packed bool) {
	word := len(stored)
	if !packed {
		word += asIs
	}
	crc := crc32.ChecksumIEEE(stored)
	s.list = append(s.list, api.Chunk{At: len(s.image), Plain: len(text), Stored: len(stored), Packed: packed, Crc: crc})
	s.image = append(append(s.image, headOf(len(text), word, crc)...), stored...)
	s.text = append(s.text, text...)
}

// plain lays a chunk that is not packed.
func (s *laid) plain(text []byte) {
	s.add(text, text, false)
}

// run lays a packed chunk of n times c.
func (s *laid) run(c byte, n int) {
	s.add(bytes.Repeat([]byte{c}, n), runBlock(c, n), true)
}

// long lays a packed chunk of one byte c, whose block has more bytes than it tells.
func (s *laid) long(c byte) {
	s.add([]byte{c}, []byte{0x10, c}, true)
}

// fewStreams is some streams, by hand.
func fewStreams() []laid {
	var none, one, three, whole, onePacked, full, several laid
	one.plain([]byte{7})
	three.plain([]byte{1, 2, 3})
	whole.plain(noise(piece))
	onePacked.long('x')
	full.run('a', piece)
	several.plain(noise(piece))
	several.run('b', piece)
	several.run('c', piece)
	several.plain(noise(77))
	l := []laid{none, one, three, whole, onePacked, full, several}
	var packedEnd, oneBehind laid
	packedEnd.run('d', piece)
	packedEnd.run('e', 5)
	oneBehind.run('f', piece)
	oneBehind.plain([]byte{9})
	return append(l, packedEnd, oneBehind)
}

// shifted is s with before bytes ahead of it and behind bytes behind it, and where it lies then.
func (s laid) shifted(before, behind int) (out laid, from, to int) {
	out.image = append(append(noise(before), s.image...), noise(behind)...)
	out.text = s.text
	for _, c := range s.list {
		c.At += before
		out.list = append(out.list, c)
	}
	return out, before, before + len(s.image)
}

// chunksByHand says P14.2's Chunks by another hand than the program's: it goes by the pieces that there must be.
func chunksByHand(image []byte, from, to, size int) ([]api.Chunk, api.Errno) {
	if !(0 <= from && from <= to && to <= len(image)) || !(0 <= size && size <= stream) {
		return nil, api.ErrArg
	}
	rest := image[from:to]
	var l []api.Chunk
	for told := 0; told < size; told += piece {
		must := piece
		if size-told < piece {
			must = size - told
		}
		if len(rest) < 8 {
			return nil, api.ErrForm
		}
		c := api.Chunk{At: to - len(rest), Packed: rest[3] < 0x80, Crc: binary.LittleEndian.Uint32(rest[4:])}
		c.Plain = int(rest[0]) + 256*int(rest[1])
		c.Stored = int(rest[2]) + 256*int(rest[3]&0x7f)
		if c.Plain != must || c.Stored == 0 || c.Stored > piece || !c.Packed && c.Stored != must || len(rest)-8 < c.Stored {
			return nil, api.ErrForm
		}
		l = append(l, c)
		rest = rest[8+c.Stored:]
	}
	if len(rest) != 0 {
		return nil, api.ErrForm
	}
	return l, api.OK
}

// chunkByHand says P14.2's Chunk by another hand.
func chunkByHand(image []byte, c api.Chunk) ([]byte, api.Errno) {
	if c.At < 0 || c.Plain < 1 || c.Plain > piece || c.Stored < 1 || c.Stored > piece || !c.Packed && c.Plain != c.Stored {
		return nil, api.ErrArg
	}
	behind := new(big.Int).Add(big.NewInt(int64(c.At)), big.NewInt(int64(8+c.Stored)))
	if behind.Cmp(big.NewInt(int64(len(image)))) > 0 {
		return nil, api.ErrRange
	}
	stored := image[c.At+8:][:c.Stored]
	if crc32.ChecksumIEEE(stored) != c.Crc {
		return nil, api.ErrSum
	}
	out := stored
	if c.Packed {
		b, e, _ := lz.Decode(stored, api.MaxBlock)
		if e != api.OK {
			return nil, api.ErrForm
		}
		out = b
	}
	if len(out) != c.Plain {
		return nil, api.ErrForm
	}
	return out, api.OK
}

// decodeByHand says P14.3's Decode by another hand.
func decodeByHand(image []byte, from, to, size int) ([]byte, api.Errno) {
	l, e := chunksByHand(image, from, to, size)
	if e != api.OK {
		return nil, e
	}
	var out []byte
	for _, c := range l {
		b, e := chunkByHand(image, c)
		if e != api.OK {
			return nil, e
		}
		out = append(out, b...)
	}
	return out, api.OK
}

// sliceByHand says P14.3's Slice by another hand: it lays each chunk's bounds beside the slice's, as numbers without an end.
func sliceByHand(image []byte, l []api.Chunk, at, n int) ([]byte, api.Errno) {
	first := big.NewInt(int64(at))
	last := new(big.Int).Add(first, big.NewInt(int64(n)))
	bounds := []*big.Int{new(big.Int)}
	for i, c := range l {
		bounds = append(bounds, new(big.Int).Add(bounds[i], big.NewInt(int64(max(c.Plain, 0)))))
	}
	if at < 0 || n < 0 || last.Cmp(bounds[len(l)]) > 0 {
		return nil, api.ErrRange
	}
	var out []byte
	for i, c := range l {
		from, to := bounds[i], bounds[i+1]
		if from.Cmp(first) < 0 {
			from = first
		}
		if to.Cmp(last) > 0 {
			to = last
		}
		if from.Cmp(to) >= 0 {
			continue
		}
		b, e := chunkByHand(image, c)
		if e != api.OK {
			return nil, e
		}
		skip := new(big.Int).Sub(from, bounds[i]).Int64()
		out = append(out, b[skip:skip+new(big.Int).Sub(to, from).Int64()]...)
	}
	return out, api.OK
}

// sameBytes holds an answer against what it must be; with an error there is nothing beside it.
func sameBytes(t *testing.T, what string, b []byte, e api.Errno, want []byte, wantE api.Errno) {
	t.Helper()
	if !bytes.Equal(b, want) || e != wantE {
		t.Errorf("%s: %s %d, not %s %d", what, short(b), e, short(want), wantE)
	}
}

// sameChunks is that for chunks.
func sameChunks(t *testing.T, what string, l []api.Chunk, e api.Errno, want []api.Chunk, wantE api.Errno) {
	t.Helper()
	if !slices.Equal(l, want) || e != wantE {
		t.Errorf("%s: %v %d, not %v %d", what, l, e, want, wantE)
	}
}

// noStream holds that there is no such stream, and why.
func noStream(t *testing.T, what string, image []byte, from, to, size int, want api.Errno) {
	t.Helper()
	l, e := meta.Chunks(image, from, to, size)
	sameChunks(t, what+": Chunks", l, e, nil, want)
	b, e := meta.Decode(image, from, to, size)
	sameBytes(t, what+": Decode", b, e, nil, want)
}

// isStream holds that there is one.
func isStream(t *testing.T, what string, image []byte, from, to int, list []api.Chunk, text []byte) {
	t.Helper()
	l, e := meta.Chunks(image, from, to, len(text))
	sameChunks(t, what+": Chunks", l, e, list, api.OK)
	b, e := meta.Decode(image, from, to, len(text))
	sameBytes(t, what+": Decode", b, e, text, api.OK)
}

// noChunk holds that a chunk tells nothing, and why.
func noChunk(t *testing.T, what string, image []byte, c api.Chunk, want api.Errno) {
	t.Helper()
	b, e := meta.Chunk(image, c)
	sameBytes(t, what, b, e, nil, want)
}

// encoded is a text's chunks, which there must be.
func encoded(t testing.TB, text []byte, limit float64) []byte {
	t.Helper()
	b, e := meta.Encode(text, limit)
	if e != api.OK {
		t.Fatalf("Encode of %d bytes, %v: %d", len(text), limit, e)
	}
	return b
}
