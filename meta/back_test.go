package meta_test

import (
	"bytes"
	"fmt"
	"math"
	"math/rand"
	"slices"
	"testing"

	"portmanteau/api"
	"portmanteau/meta"
)

// P14.4

func TestEncodedIsDecoded(t *testing.T) {
	for _, n := range []int{0, 1, 2, 100, piece - 1, piece, piece + 1, 2*piece - 1, 2 * piece, 2*piece + 1, 6*piece + 1234} {
		for _, text := range [][]byte{noise(n), words(n), mixture(n), make([]byte, n)} {
			for _, limit := range limits {
				b := encoded(t, text, limit)
				out, e := meta.Decode(b, 0, len(b), n)
				sameBytes(t, fmt.Sprint(n, " bytes, ", limit), out, e, text, api.OK)
				image := slices.Concat(noise(7), b, noise(11))
				out, e = meta.Decode(image, 7, 7+len(b), n)
				sameBytes(t, fmt.Sprint(n, " bytes within others, ", limit), out, e, text, api.OK)
			}
		}
	}
}

func TestLongestIsDecoded(t *testing.T) {
	text := mixture(stream)
	for _, limit := range []float64{0, 0.95} {
		b := encoded(t, text, limit)
		out, e := meta.Decode(b, 0, len(b), stream)
		sameBytes(t, "the longest", out, e, text, api.OK)
		l, e := meta.Chunks(b, 0, len(b), stream)
		if e != api.OK || len(l) != stream/piece {
			t.Fatal(len(l), e)
		}
		isSlice(t, "its end", b, l, stream-3, text[stream-3:])
		isSlice(t, "its end's end", b, l, stream, nil)
		isSlice(t, "its middle", b, l, stream/2-1, text[stream/2-1:][:piece+2])
		isSlice(t, "all", b, l, 0, text)
		noSlice(t, "one more", b, l, stream-3, 4, api.ErrRange)
	}
}

func TestSlicesOfEncoded(t *testing.T) {
	random := rand.New(rand.NewSource(146))
	text := mixture(5*piece + 99)
	for _, limit := range []float64{0, 0.9, 2} {
		b := encoded(t, text, limit)
		l, e := meta.Chunks(b, 0, len(b), len(text))
		if e != api.OK {
			t.Fatal(e)
		}
		for _, from := range edges(l) {
			for _, to := range edges(l) {
				if from >= 0 && from <= to && to <= len(text) {
					isSlice(t, "edges", b, l, from, text[from:to])
				}
			}
		}
		for range 300 {
			at := random.Intn(len(text) + 1)
			n := random.Intn(len(text) - at + 1)
			isSlice(t, "random", b, l, at, text[at:at+n])
		}
	}
}

// turned is b with the bits of mask turned, the lowest one at bit from of those stored in c (bit 0 of a byte its first); false, if one of them lies behind these.
func turned(b []byte, c api.Chunk, from int, mask uint32) ([]byte, bool) {
	out := bytes.Clone(b)
	for i := range 32 {
		if mask>>i&1 == 0 {
			continue
		}
		at := from + i
		if at >= 8*c.Stored {
			return nil, false
		}
		out[c.At+heads+at/8] ^= 1 << (at % 8)
	}
	return out, true
}

// holdTurned holds that turned bits are told, wherever their chunk is asked, and nowhere else.
func holdTurned(t *testing.T, s laid, which, from int, mask uint32) {
	t.Helper()
	image, ok := turned(s.image, s.list[which], from, mask)
	if !ok {
		return
	}
	b, e := meta.Decode(image, 0, len(image), len(s.text))
	sameBytes(t, fmt.Sprintf("bits %x turned from %d on", mask, from), b, e, nil, api.ErrSum)
	b, e = meta.Chunk(image, s.list[which])
	sameBytes(t, fmt.Sprintf("bits %x turned from %d on: Chunk", mask, from), b, e, nil, api.ErrSum)
	at := 0
	for i, c := range s.list {
		if i == which {
			noSlice(t, "turned bits", image, s.list, at, c.Plain, api.ErrSum)
		} else {
			isSlice(t, "another chunk", image, s.list, at, s.text[at:at+c.Plain])
		}
		at += c.Plain
	}
}

func TestTurnedBitsAreTold(t *testing.T) {
	random := rand.New(rand.NewSource(147))
	var one, three, packed laid
	one.plain([]byte{0})
	three.plain(noise(23))
	packed.run('a', 700)
	for _, s := range []laid{one, three, packed} {
		for from := range 8 * s.list[0].Stored {
			for n := range 32 { // 1 to 32 bits: all of them, the first and the last, some between these
				ends := uint32(1 | 1<<n)
				all := uint32(1<<(n+1) - 1)
				holdTurned(t, s, 0, from, all)
				holdTurned(t, s, 0, from, ends)
				holdTurned(t, s, 0, from, random.Uint32()&all|ends)
			}
		}
	}
}

// So it is in each chunk of a stream that was encoded, packed or not.
func TestTurnedBitsOfEncoded(t *testing.T) {
	random := rand.New(rand.NewSource(148))
	text := mixture(2*piece + 50)
	for _, limit := range []float64{0, 0.9} {
		s := encodedByHand(t, text, limit)
		s.image = encoded(t, text, limit)
		for which, c := range s.list {
			places := []int{0, 1, 31, 32, 8*c.Stored - 33, 8*c.Stored - 32, 8*c.Stored - 1}
			for range 50 {
				places = append(places, random.Intn(8*c.Stored))
			}
			for _, from := range places {
				n := random.Intn(32)
				holdTurned(t, s, which, max(from, 0), uint32(1<<(n+1)-1))
				holdTurned(t, s, which, max(from, 0), random.Uint32()|1)
				holdTurned(t, s, which, max(from, 0), 1)
			}
		}
	}
}

// The rules that hold everywhere

// withRoom is a copy of b that has spare room, whose bytes are all aa.
func withRoom(b []byte) []byte {
	all := bytes.Repeat([]byte{0xaa}, len(b)+80)
	copy(all, b)
	return all[:len(b)]
}

// sameRoom says whether b, made by withRoom of was, and its spare room are as they were.
func sameRoom(b, was []byte) bool {
	return bytes.Equal(b[:cap(b)], withRoom(was)[:len(was)+80])
}

func TestArgumentsStayAsTheyWere(t *testing.T) {
	texts := [][]byte{nil, {1, 2, 3}, noise(piece), words(piece), noise(piece + 1), words(2*piece + 5), mixture(3 * piece)}
	for _, was := range texts {
		for _, limit := range limits {
			b := withRoom(was)
			meta.Encode(b, limit)
			if !sameRoom(b, was) {
				t.Errorf("Encode changed %s", short(was))
			}
		}
	}
	for i, s := range fewStreams() {
		n := len(s.text)
		for _, was := range [][]byte{s.image, spoilt(rand.New(rand.NewSource(int64(i))), s), s.image[:len(s.image)/2]} {
			image := withRoom(was)
			room := append(slices.Clone(s.list), api.Chunk{At: 5}, api.Chunk{At: 6})
			l := room[:len(s.list)]
			meta.Chunks(image, 0, len(image), n)
			meta.Decode(image, 0, len(image), n)
			meta.Slice(image, l, 0, n)
			meta.Slice(image, l, n/3, n/2)
			for _, c := range l {
				meta.Chunk(image, c)
			}
			if !sameRoom(image, was) {
				t.Errorf("stream %d: the image changed", i)
			}
			if !slices.Equal(room, append(slices.Clone(s.list), api.Chunk{At: 5}, api.Chunk{At: 6})) {
				t.Errorf("stream %d: the chunks changed: %v", i, room)
			}
		}
	}
}

// overwrite writes over all of an answer, its spare room too.
func overwrite(b []byte) {
	for i := range b[:cap(b)] {
		b[:cap(b)][i] ^= 0xff
	}
}

func TestAnswersAreNewMemory(t *testing.T) {
	for _, text := range [][]byte{{1, 2, 3}, noise(piece + 9), words(2 * piece), mixture(3 * piece)} {
		for _, limit := range []float64{0, 0.9, math.Inf(1)} {
			was := bytes.Clone(text)
			x, y := encoded(t, text, limit), encoded(t, text, limit)
			kept := bytes.Clone(y)
			overwrite(x)
			if !bytes.Equal(y, kept) || !bytes.Equal(text, was) || !bytes.Equal(encoded(t, text, limit), kept) {
				t.Errorf("%s: an answer of Encode is shared", short(was))
			}
			overwrite(text)
			if !bytes.Equal(y, kept) {
				t.Errorf("%s: an answer of Encode is its argument", short(was))
			}
			overwrite(text)
		}
	}
	for i, s := range fewStreams() {
		holdNewMemory(t, fmt.Sprint("stream ", i), s)
	}
}

// holdNewMemory writes over each answer on a stream, and asks again.
func holdNewMemory(t *testing.T, what string, s laid) {
	t.Helper()
	was := bytes.Clone(s.image)
	n := len(s.text)
	answers := func() [][]byte {
		all, _ := meta.Decode(s.image, 0, len(s.image), n)
		part, _ := meta.Slice(s.image, s.list, 0, n)
		bits, _ := meta.Slice(s.image, s.list, n/3, n/3)
		l := [][]byte{all, part, bits}
		for _, c := range s.list {
			b, _ := meta.Chunk(s.image, c)
			l = append(l, b)
		}
		return l
	}
	same := func(a, b [][]byte) bool { return slices.EqualFunc(a, b, bytes.Equal) }
	first, second := answers(), answers()
	for _, b := range first {
		overwrite(b)
	}
	if !bytes.Equal(s.image, was) || !same(second, answers()) {
		t.Errorf("%s: an answer is shared", what)
	}
	kept := answers()
	overwrite(s.image[:len(s.image):len(s.image)])
	if !same(second, kept) {
		t.Errorf("%s: an answer is a part of the image", what)
	}
	copy(s.image, was)
	x, _ := meta.Chunks(s.image, 0, len(s.image), n)
	y, _ := meta.Chunks(s.image, 0, len(s.image), n)
	for i := range x[:cap(x)] {
		x[:cap(x)][i] = api.Chunk{At: -1}
	}
	z, _ := meta.Chunks(s.image, 0, len(s.image), n)
	if !slices.Equal(y, s.list) || !slices.Equal(z, s.list) {
		t.Errorf("%s: an answer of Chunks is shared", what)
	}
}

func TestTheSameAnswerAgain(t *testing.T) {
	for _, s := range fewStreams() {
		n := len(s.text)
		first, _ := meta.Decode(s.image, 0, len(s.image), n)
		b := encoded(t, s.text, 0.9)
		meta.Encode(noise(3*piece), 0.5)
		meta.Decode(noise(40), 0, 40, 9)
		meta.Chunk(noise(40), api.Chunk{Plain: 3, Stored: 3})
		meta.Slice(noise(40), []api.Chunk{{Plain: 3, Stored: 3}}, 0, 2)
		second, e := meta.Decode(s.image, 0, len(s.image), n)
		if !bytes.Equal(first, second) || e != api.OK || !bytes.Equal(b, encoded(t, s.text, 0.9)) {
			t.Errorf("%s is answered otherwise at the second time", short(s.image))
		}
	}
}
