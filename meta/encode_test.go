package meta_test

import (
	"bytes"
	"fmt"
	"math"
	"math/rand"
	"testing"

	"portmanteau/api"
	"portmanteau/match"
	"portmanteau/meta"
)

// short is a text of bytes that is no longer than one wants to read.
func short(b []byte) string {
	if len(b) > 60 {
		return fmt.Sprintf("%x.. (%d bytes)", b[:60], len(b))
	}
	return fmt.Sprintf("%x", b)
}

// limits is ordinary ones, the edges of floats, and those that no number is.
var limits = []float64{0, math.Copysign(0, -1), 0.01, 0.5, 0.95, 1, 1.5, 2, 1e9, -0.5, -1, -1e9,
	math.MaxFloat64, -math.MaxFloat64, math.SmallestNonzeroFloat64, math.NaN(), math.Inf(1), math.Inf(-1)}

// encodedByHand says P14.1 by another hand: which of both is stored is match.Pack's choice, but where that is too much.
func encodedByHand(t testing.TB, text []byte, limit float64) laid {
	t.Helper()
	var s laid
	for at := 0; at < len(text); at += piece {
		part := text[at:]
		if len(part) > piece {
			part = part[:piece]
		}
		out, packed, e := match.Pack(part, limit)
		if e != api.OK {
			t.Fatal(e)
		}
		if len(out) > piece {
			out, packed = part, false
		}
		s.add(part, out, packed)
	}
	return s
}

// holdEncoded holds Encode's answer against that.
func holdEncoded(t *testing.T, what string, text []byte, limit float64) laid {
	t.Helper()
	s := encodedByHand(t, text, limit)
	b, e := meta.Encode(text, limit)
	sameBytes(t, fmt.Sprintf("Encode of %s, %v", what, limit), b, e, s.image, api.OK)
	return s
}

// P14.1

func TestExample(t *testing.T) {
	want := []byte{3, 0, 3, 0x80, 0x1d, 0x80, 0xbc, 0x55, 1, 2, 3}
	b, e := meta.Encode([]byte{1, 2, 3}, 0)
	sameBytes(t, "the example", b, e, want, api.OK)
	isStream(t, "the example", want, 0, len(want), []api.Chunk{{At: 0, Plain: 3, Stored: 3, Packed: false, Crc: 0x55bc801d}}, []byte{1, 2, 3})
}

func TestEncodeOfNothing(t *testing.T) {
	for _, limit := range limits {
		for _, none := range [][]byte{nil, {}, make([]byte, 0, 9)} {
			b, e := meta.Encode(none, limit)
			sameBytes(t, "nothing", b, e, nil, api.OK)
		}
	}
}

func TestEncodeLengths(t *testing.T) {
	for _, n := range []int{1, 2, 5, 12, 13, 255, 256, 257, piece - 1, piece, piece + 1, 2*piece - 1, 2 * piece, 2*piece + 1, 5*piece + 77} {
		for _, limit := range limits {
			holdEncoded(t, fmt.Sprint(n, " of noise"), noise(n), limit)
			holdEncoded(t, fmt.Sprint(n, " of words"), words(n), limit)
			holdEncoded(t, fmt.Sprint(n, " of both"), mixture(n), limit)
		}
	}
}

// What is stored as it is is laid by hand, without match.
func TestEncodeNotPacked(t *testing.T) {
	for _, n := range []int{1, 3, piece - 1, piece, piece + 1, 2 * piece, 3*piece + 5} {
		for _, text := range [][]byte{noise(n), words(n)} {
			var s laid
			for at := 0; at < n; at += piece {
				s.plain(text[at:min(at+piece, n)])
			}
			for _, limit := range []float64{0, -1, math.NaN(), math.Inf(-1)} {
				b, e := meta.Encode(text, limit)
				sameBytes(t, fmt.Sprint(n, limit), b, e, s.image, api.OK)
			}
		}
	}
}

// Each piece is packed, or not, by itself.
func TestEncodeEachPiece(t *testing.T) {
	s := holdEncoded(t, "both", mixture(4*piece+100), 0.9)
	for i, want := range []bool{true, false, true, false, true} {
		if s.list[i].Packed != want {
			t.Errorf("chunk %d: %v", i, s.list[i])
		}
	}
	b := encoded(t, mixture(4*piece+100), 0.9)
	l, e := meta.Chunks(b, 0, len(b), 4*piece+100)
	sameChunks(t, "both", l, e, s.list, api.OK)
}

// The limit is the one that is handed in, at the very edge of what a piece's block needs.
func TestEncodeLimitEdge(t *testing.T) {
	text := words(1000)
	block, e := match.Encode(text)
	if e != api.OK || len(block) >= 500 {
		t.Fatal(len(block), e)
	}
	edge := float64(len(block)) / 1000
	for _, c := range []struct {
		limit  float64
		packed bool
	}{{edge - 0.001, false}, {edge, false}, {edge + 0.001, true}} {
		s := holdEncoded(t, "words", text, c.limit)
		b := encoded(t, text, c.limit)
		if s.list[0].Packed != c.packed || (len(b) == heads+len(block)) != c.packed {
			t.Errorf("%v: %d bytes", c.limit, len(b))
		}
	}
}

// blockOf is a text of at most a piece whose block has just n bytes: noughts, which pack, and noise behind them.
func blockOf(t *testing.T, n, length int) []byte {
	t.Helper()
	for noughts := range length + 1 {
		text := append(make([]byte, noughts), noise(length)[noughts:]...)
		if b, e := match.Encode(text); e == api.OK && len(b) == n {
			return text
		}
	}
	t.Fatalf("no text of %d bytes has a block of %d", length, n)
	return nil
}

// A limit above 1 packs what becomes longer, up to a piece's length and no further.
func TestEncodeBlockTooLong(t *testing.T) {
	for _, length := range []int{8159, 8160, piece - 1, piece} {
		for _, n := range []int{piece - 1, piece, piece + 1, piece + 2} {
			if match.Bound(length) < n {
				continue
			}
			text := blockOf(t, n, length)
			for _, limit := range []float64{2, 1e9, math.MaxFloat64, math.Inf(1)} {
				s := holdEncoded(t, "noise", text, limit)
				if packed := n <= piece; s.list[0].Packed != packed {
					t.Errorf("%d bytes, a block of %d, %v: %v", length, n, limit, s.list)
				}
				behind := append(bytes.Clone(text), noise(piece-len(text))...)
				holdEncoded(t, "noise and one more", append(behind, 1), limit)
			}
		}
	}
	b := encoded(t, noise(piece), math.Inf(1))
	if len(b) != heads+piece || b[3] != 0xa0 || !bytes.Equal(b[heads:], noise(piece)) {
		t.Error(short(b))
	}
	b = encoded(t, []byte{5}, 3)
	if !bytes.Equal(b[:4], []byte{1, 0, 2, 0}) || !bytes.Equal(b[heads:], []byte{0x10, 5}) {
		t.Error(short(b))
	}
}

func TestEncodeLongest(t *testing.T) {
	for _, text := range [][]byte{mixture(stream), make([]byte, stream), words(stream - 1), words(stream - piece)} {
		s := holdEncoded(t, "the longest", text, 0.95)
		isStream(t, "the longest", s.image, 0, len(s.image), s.list, text)
	}
	for _, limit := range limits {
		for _, n := range []int{stream + 1, stream + 2, stream + piece} {
			b, e := meta.Encode(make([]byte, n), limit)
			sameBytes(t, fmt.Sprint("too long: ", n), b, e, nil, api.ErrLong)
		}
	}
}

func TestEncodeRandom(t *testing.T) {
	random := rand.New(rand.NewSource(141))
	for range 300 {
		text := make([]byte, random.Intn(3*piece))
		letters := 1 + random.Intn(256)
		for i := range text {
			text[i] = byte(random.Intn(letters))
		}
		holdEncoded(t, fmt.Sprint(letters, " letters"), text, random.Float64()*1.5)
	}
}
