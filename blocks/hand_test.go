package blocks_test

import (
	"bytes"
	"encoding/binary"
	"hash/crc32"
	"math"
	"math/rand"
	"testing"

	"portmanteau/api"
	"portmanteau/blocks"
	"portmanteau/lz"
	"portmanteau/match"
)

// The numbers of the chapter, written out, so that no test goes by the program's own.
const (
	longest  = 1048576 // bytes of a block
	image    = 8388608 // bytes of an image
	mostOf   = 65536   // words
	asIs     = 2147483648
	mostWord = asIs + longest
)

// limits are some by which blocks are packed, the last of them even where they are longer then.
var limits = []float64{0, 0.5, 0.95, 1, 2, math.Inf(1), math.Inf(-1), -1, math.NaN()}

// noise is n bytes that are the same in every run and that do not pack.
func noise(n int) []byte {
	b := make([]byte, n)
	rand.New(rand.NewSource(int64(n) + 18)).Read(b)
	return b
}

// words is n bytes that pack well.
func words(n int) []byte {
	return bytes.Repeat([]byte("some words and "), n/15+1)[:n]
}

// oneAt is n noughts, but for a one at a place.
func oneAt(n, at int) []byte {
	b := make([]byte, n)
	b[at] = 1
	return b
}

// mixture is n bytes in pieces of a size, of which some pack, some do not and some are all noughts.
func mixture(n, size int) []byte {
	b := make([]byte, n)
	for at := 0; at < n; at += size {
		piece := b[at:min(at+size, n)]
		switch at / size % 4 {
		case 0:
			copy(piece, words(len(piece)))
		case 1:
			copy(piece, noise(len(piece)))
		case 3:
			piece[len(piece)-1] = 7
		}
	}
	return b
}

// runBlock is a packed block of n times c, 5 at least, by hand: one literal, and the rest copied from one byte ahead.
func runBlock(c byte, n int) []byte {
	more := n - 5
	b := []byte{0x10 | byte(min(more, 15)), c, 1, 0}
	if more >= 15 {
		b = append(b, bytes.Repeat([]byte{255}, (more-15)/255)...)
		b = append(b, byte((more-15)%255))
	}
	return append(b, 0)
}

// withSum is stored bytes and their CRC behind them.
func withSum(stored []byte) []byte {
	return binary.LittleEndian.AppendUint32(bytes.Clone(stored), crc32.ChecksumIEEE(stored))
}

// told is what a word tells, by another hand than the program's: it goes by a word's bits.
func told(word int) (stored int, packed, ok bool) {
	if word < 0 || word > math.MaxUint32 {
		return 0, false, false
	}
	w := uint32(word)
	stored = int(w & 0x7fffffff)
	return stored, w>>31 == 0, stored > 0 && stored <= longest
}

// storeByHand says P18.2's Store by another hand.
func storeByHand(t *testing.T, b []byte, limit float64) (int, []byte) {
	t.Helper()
	if bytes.Count(b, []byte{0}) == len(b) {
		return 0, nil
	}
	stored, packed, e := match.Pack(b, limit)
	if e != api.OK {
		t.Fatal(e)
	}
	if len(stored) > longest {
		stored, packed = b, false
	}
	if packed {
		return len(stored), withSum(stored)
	}
	return asIs | len(stored), withSum(stored)
}

// loadByHand says P18.2's Load by another hand.
func loadByHand(image []byte, at, word, plain int) ([]byte, api.Errno) {
	if plain < 1 || plain > longest {
		return nil, api.ErrArg
	}
	if word == 0 {
		return bytes.Repeat([]byte{0}, plain), api.OK
	}
	n, packed, ok := told(word)
	if !ok || (!packed && n != plain) {
		return nil, api.ErrArg
	}
	if at < 0 || at > len(image) || len(image[at:]) < n+4 {
		return nil, api.ErrRange
	}
	stored, crc := image[at:at+n], image[at+n:at+n+4]
	if crc32.ChecksumIEEE(stored) != binary.LittleEndian.Uint32(crc) {
		return nil, api.ErrSum
	}
	if !packed {
		return stored, api.OK
	}
	out, e, _ := lz.Decode(stored, plain)
	if e != api.OK || len(out) != plain {
		return nil, api.ErrForm
	}
	return out, api.OK
}

// isStored holds what Store tells against the other hand.
func isStored(t *testing.T, name string, b []byte, limit float64) (int, []byte) {
	t.Helper()
	kept := bytes.Clone(b)
	word, out, e := blocks.Store(b, limit)
	if wantWord, want := storeByHand(t, kept, limit); e != api.OK || word != wantWord || !bytes.Equal(out, want) {
		t.Fatalf("%s, limit %v: Store = %d, %.40x of %d bytes, %d; not %d, %.40x of %d bytes", name, limit, word, out, len(out), e, wantWord, want, len(want))
	}
	if !bytes.Equal(b, kept) {
		t.Fatalf("%s, limit %v: Store has changed it", name, limit)
	}
	return word, out
}

// isLoaded holds what Load tells against that.
func isLoaded(t *testing.T, name string, image []byte, at, word, plain int, want []byte) {
	t.Helper()
	if b, e := blocks.Load(image, at, word, plain); e != api.OK || !bytes.Equal(b, want) {
		t.Fatalf("%s: Load(%d bytes, %d, %d, %d) = %.40x of %d bytes, %d; not %.40x of %d", name, len(image), at, word, plain, b, len(b), e, want, len(want))
	}
}

// notLoaded holds that Load tells that error, and nothing.
func notLoaded(t *testing.T, name string, image []byte, at, word, plain int, want api.Errno) {
	t.Helper()
	if b, e := blocks.Load(image, at, word, plain); e != want || len(b) > 0 {
		t.Fatalf("%s: Load(%d bytes, %d, %d, %d) = %.40x, %d; not error %d", name, len(image), at, word, plain, b, e, want)
	}
}
