package meta_test

import (
	"bytes"
	"fmt"
	"hash/crc32"
	"math"
	"math/rand"
	"testing"

	"portmanteau/api"
	"portmanteau/meta"
)

// P14.2: Chunks

func TestChunksByHand(t *testing.T) {
	for i, s := range fewStreams() {
		for _, before := range []int{0, 1, 68, 9000} {
			for _, behind := range []int{0, 1, 9, 9000} {
				x, from, to := s.shifted(before, behind)
				isStream(t, fmt.Sprint("stream ", i), x.image, from, to, x.list, x.text)
			}
		}
	}
}

func TestChunksOfNone(t *testing.T) {
	image := noise(100)
	for _, at := range []int{0, 1, 50, 99, 100} {
		isStream(t, "no bytes", image, at, at, nil, nil)
		noStream(t, "nowhere", image, at, at, 1, api.ErrForm)
		noStream(t, "nowhere", image, at, at, stream, api.ErrForm)
	}
	for _, none := range [][]byte{nil, {}} {
		isStream(t, "no image", none, 0, 0, nil, nil)
		noStream(t, "no image", none, 0, 0, 1, api.ErrForm)
		noStream(t, "no image", none, 0, 1, 0, api.ErrArg)
		noStream(t, "no image", none, -1, 0, 0, api.ErrArg)
	}
	for to := 1; to <= 100; to++ {
		noStream(t, "no bytes, but a place", image, 0, to, 0, api.ErrForm)
		noStream(t, "no bytes, but a place", image, to-1, to, 0, api.ErrForm)
	}
}

// What is asked of the arguments comes ahead of what the image holds.
func TestChunksWrongArguments(t *testing.T) {
	below := []int{math.MinInt, -1 << 32, -8, -1}
	for i, s := range fewStreams() {
		n, size := len(s.image), len(s.text)
		beyond := []int{n + 1, n + 8, 1 << 32, math.MaxInt - 1, math.MaxInt}
		for _, from := range below {
			noStream(t, fmt.Sprint(i, " from below 0"), s.image, from, n, size, api.ErrArg)
			noStream(t, fmt.Sprint(i, " both below 0"), s.image, from, from, size, api.ErrArg)
			noStream(t, fmt.Sprint(i, " from and size below 0"), s.image, from, n, -1, api.ErrArg)
			noStream(t, fmt.Sprint(i, " to below 0"), s.image, 0, from, size, api.ErrArg)
		}
		for _, to := range beyond {
			noStream(t, fmt.Sprint(i, " to beyond"), s.image, 0, to, size, api.ErrArg)
			noStream(t, fmt.Sprint(i, " both beyond"), s.image, to, to, 0, api.ErrArg)
			noStream(t, fmt.Sprint(i, " from beyond"), s.image, to, n, size, api.ErrArg)
			noStream(t, fmt.Sprint(i, " to beyond, from below"), s.image, -1, to, size, api.ErrArg)
		}
		for to := range min(n, 20) {
			noStream(t, fmt.Sprint(i, " from beyond to"), s.image, to+1, to, size, api.ErrArg)
			noStream(t, fmt.Sprint(i, " from beyond to"), s.image, n, to, 0, api.ErrArg)
		}
		for _, wrong := range append(below, stream+1, stream+2, stream+piece, 1<<32, math.MaxInt) {
			noStream(t, fmt.Sprint(i, " size"), s.image, 0, n, wrong, api.ErrArg)
			noStream(t, fmt.Sprint(i, " size"), s.image, n, n, wrong, api.ErrArg)
		}
		noStream(t, fmt.Sprint(i, " the greatest size"), s.image, 0, n, stream, api.ErrForm)
	}
}

// A stream ends at to, neither ahead of it nor beyond it, and has just so many bytes.
func TestChunksEndAtTo(t *testing.T) {
	for i, s := range fewStreams() {
		for _, before := range []int{0, 3} {
			x, from, to := s.shifted(before, 40)
			for off := 1; off <= 20; off++ {
				noStream(t, fmt.Sprint(i, " ends ahead of to"), x.image, from, to+off, len(x.text), api.ErrForm)
				if to-off >= from {
					noStream(t, fmt.Sprint(i, " reaches beyond to"), x.image, from, to-off, len(x.text), api.ErrForm)
				}
				noStream(t, fmt.Sprint(i, " more bytes"), x.image, from, to, len(x.text)+off, api.ErrForm)
				if len(x.text) >= off {
					noStream(t, fmt.Sprint(i, " fewer bytes"), x.image, from, to, len(x.text)-off, api.ErrForm)
				}
			}
		}
	}
}

// Cut short anywhere, in a head or in what is stored, there is no stream, though the image goes on.
func TestChunksCutShort(t *testing.T) {
	for i, s := range fewStreams() {
		step := 1 + len(s.image)/3000
		for to := 0; to < len(s.image); to += step {
			holdCut(t, i, s, to)
		}
		for _, c := range s.list { // each place of each head
			for to := c.At; to <= c.At+heads+1 && to < len(s.image); to++ {
				holdCut(t, i, s, to)
			}
		}
	}
}

func holdCut(t *testing.T, i int, s laid, to int) {
	t.Helper()
	noStream(t, fmt.Sprintf("stream %d up to %d", i, to), s.image, 0, to, len(s.text), api.ErrForm)
	noStream(t, fmt.Sprintf("stream %d cut at %d", i, to), s.image[:to], 0, to, len(s.text), api.ErrForm)
}

// A chunk cut at its edge is a stream of fewer bytes.
func TestChunksCutAtAnEdge(t *testing.T) {
	for i, s := range fewStreams() {
		told := 0
		for k, c := range s.list {
			isStream(t, fmt.Sprint(i, k, " ahead of the edge"), s.image, 0, c.At, s.list[:k], s.text[:told])
			isStream(t, fmt.Sprint(i, k, " behind the edge"), s.image, c.At, len(s.image), s.list[k:], s.text[told:])
			told += c.Plain
		}
	}
}

// Every number that a head may tell, with as many bytes behind it as it says.
func TestChunksEachPlain(t *testing.T) {
	image := bytes.Repeat([]byte{5}, heads+piece)
	for _, size := range []int{1, 2, 77, 255, 256, 257, piece - 1, piece} {
		for plain := range 65536 {
			holdPlain(t, image[:heads+9], size, plain, api.Chunk{Plain: size, Stored: 9, Packed: true, Crc: 3})
			holdPlain(t, image[:heads+size], size, plain, api.Chunk{Plain: size, Stored: size, Crc: 3})
		}
	}
}

// holdPlain writes c's head to image, but with the number plain, and holds that there is a stream of size bytes if that is the right one alone.
func holdPlain(t *testing.T, image []byte, size, plain int, c api.Chunk) {
	t.Helper()
	word := c.Stored
	if !c.Packed {
		word += asIs
	}
	copy(image, headOf(plain, word, c.Crc))
	l, e := meta.Chunks(image, 0, len(image), size)
	if plain == size {
		sameChunks(t, "the right number", l, e, []api.Chunk{c}, api.OK)
	} else if len(l) != 0 || e != api.ErrForm {
		t.Errorf("%d bytes, but the head tells %d: %v %d", size, plain, l, e)
	}
}

func TestChunksEachWord(t *testing.T) {
	room := noise(heads + 65536)
	for _, size := range []int{1, 2, 77, 255, 256, 257, piece - 1, piece} {
		for word := range 65536 {
			copy(room, headOf(size, word, 0xfedcba98))
			stored, packed := word, true
			if word >= asIs {
				stored, packed = word-asIs, false
			}
			l, e := meta.Chunks(room, 0, heads+stored, size)
			if stored >= 1 && stored <= piece && (packed || stored == size) {
				sameChunks(t, fmt.Sprint("word ", word), l, e, []api.Chunk{{Plain: size, Stored: stored, Packed: packed, Crc: 0xfedcba98}}, api.OK)
			} else {
				sameChunks(t, fmt.Sprint("word ", word), l, e, nil, api.ErrForm)
			}
		}
	}
}

// Stored of 1 and of a whole piece, the edges, and one beyond each of them.
func TestChunksStoredEdges(t *testing.T) {
	for _, c := range []struct {
		plain, word int
		want        api.Errno
	}{
		{5, 0, api.ErrForm}, {5, 1, api.OK}, {5, 4, api.OK}, {5, 5, api.OK}, {5, 6, api.OK}, {5, piece, api.OK}, {5, piece + 1, api.ErrForm},
		{5, asIs, api.ErrForm}, {5, asIs + 4, api.ErrForm}, {5, asIs + 5, api.OK}, {5, asIs + 6, api.ErrForm},
		{1, 1, api.OK}, {1, asIs + 1, api.OK}, {1, asIs, api.ErrForm},
		{piece, 1, api.OK}, {piece, piece, api.OK}, {piece, piece + 1, api.ErrForm},
		{piece, asIs + piece - 1, api.ErrForm}, {piece, asIs + piece, api.OK}, {piece, asIs + piece + 1, api.ErrForm},
	} {
		image := append(headOf(c.plain, c.word, 1), noise(c.word%asIs)...)
		if l, e := meta.Chunks(image, 0, len(image), c.plain); e != c.want || (len(l) == 1) != (e == api.OK) {
			t.Errorf("%v: %v %d", c, l, e)
		}
	}
}

// A chunk ahead of the last one tells a whole piece, the last one what is left, and no chunk is empty.
func TestChunksOfOtherPieces(t *testing.T) {
	var parts, empty, late laid
	parts.plain([]byte{1, 2})
	parts.plain([]byte{3})
	noStream(t, "two short ones", parts.image, 0, len(parts.image), 3, api.ErrForm)
	empty.run('a', piece)
	empty.add(nil, []byte{0}, true)
	noStream(t, "an empty one", empty.image, 0, len(empty.image), piece, api.ErrForm)
	late.plain([]byte{1})
	late.run('a', piece)
	noStream(t, "the short one first", late.image, 0, len(late.image), piece+1, api.ErrForm)
	var great laid
	great.run('a', 2*piece)
	noStream(t, "two pieces in one", great.image, 0, len(great.image), 2*piece, api.ErrForm)
	great = laid{}
	great.plain(noise(piece + 1))
	noStream(t, "more than a piece", great.image, 0, len(great.image), piece+1, api.ErrForm)
}

// Sums are not asked, nor what is stored: a head's Crc is told as it stands.
func TestChunksAskNoSums(t *testing.T) {
	for i, s := range fewStreams() {
		image := bytes.Clone(s.image)
		want := bytes.Clone(s.image)
		list := append([]api.Chunk(nil), s.list...)
		for k, c := range list {
			for at := range 4 {
				image[c.At+4+at] ^= byte(0x11 * (at + k + 1))
			}
			list[k].Crc = uint32(image[c.At+4]) | uint32(image[c.At+5])<<8 | uint32(image[c.At+6])<<16 | uint32(image[c.At+7])<<24
			for at := c.At + heads; at < c.At+heads+c.Stored; at++ {
				image[at] ^= 0x5a
				want[at] ^= 0x5a
			}
		}
		l, e := meta.Chunks(image, 0, len(image), len(s.text))
		sameChunks(t, fmt.Sprint(i, " other sums"), l, e, list, api.OK)
		l, e = meta.Chunks(want, 0, len(want), len(s.text))
		sameChunks(t, fmt.Sprint(i, " other bytes"), l, e, s.list, api.OK)
	}
}

// Every byte of every head changed, against the other hand's answer.
func TestChunksChangedHeads(t *testing.T) {
	for i, s := range fewStreams() {
		for _, c := range s.list {
			for at := c.At; at < c.At+heads; at++ {
				for turn := 1; turn < 256; turn++ {
					image := s.image
					image[at] ^= byte(turn)
					holdStream(t, fmt.Sprintf("stream %d, byte %d", i, at), image, 0, len(image), len(s.text))
					image[at] ^= byte(turn)
				}
			}
		}
	}
}

// holdStream holds Chunks and Decode against the other hand's answers.
func holdStream(t *testing.T, what string, image []byte, from, to, size int) {
	t.Helper()
	l, e := meta.Chunks(image, from, to, size)
	want, wantE := chunksByHand(image, from, to, size)
	sameChunks(t, what, l, e, want, wantE)
	b, e := meta.Decode(image, from, to, size)
	text, wantE := decodeByHand(image, from, to, size)
	sameBytes(t, what, b, e, text, wantE)
}

// spoilt changes a copy of image at some places, heads more often than what is stored.
func spoilt(random *rand.Rand, s laid) []byte {
	image := bytes.Clone(s.image)
	for range random.Intn(3) {
		if len(s.list) == 0 {
			break
		}
		c := s.list[random.Intn(len(s.list))]
		at := c.At + random.Intn(heads)
		if random.Intn(3) == 0 {
			at = c.At + heads + random.Intn(c.Stored)
		}
		image[at] ^= byte(1 << random.Intn(8))
	}
	return image
}

func TestChunksRandom(t *testing.T) {
	random := rand.New(rand.NewSource(142))
	streams := fewStreams()
	for range 6000 {
		s := streams[random.Intn(len(streams))]
		s.image = spoilt(random, s)
		x, from, to := s.shifted(random.Intn(5), random.Intn(5))
		size := len(x.text)
		switch random.Intn(6) {
		case 0:
			from += random.Intn(5) - 2
		case 1:
			to += random.Intn(5) - 2
		case 2:
			size += random.Intn(5) - 2
		}
		holdStream(t, "random", x.image, from, to, size)
	}
}

func TestChunksRandomBytes(t *testing.T) {
	random := rand.New(rand.NewSource(143))
	for range 6000 {
		image := make([]byte, random.Intn(60))
		random.Read(image)
		if len(image) > 4 && random.Intn(2) == 0 { // heads that are nearly right
			image[0], image[1], image[3] = byte(random.Intn(9)), 0, 0
			image[2] = byte(random.Intn(60))
		}
		holdStream(t, "random bytes", image, random.Intn(3), len(image), random.Intn(9))
	}
}

// P14.2: Chunk

func TestChunkByHand(t *testing.T) {
	for i, s := range fewStreams() {
		x, _, _ := s.shifted(i, 5-i%3)
		told := 0
		for _, c := range x.list {
			b, e := meta.Chunk(x.image, c)
			sameBytes(t, fmt.Sprint("stream ", i), b, e, x.text[told:told+c.Plain], api.OK)
			told += c.Plain
		}
	}
}

// The chunk's own fields count, not what the image's head says.
func TestChunkWithoutHead(t *testing.T) {
	for _, s := range fewStreams() {
		told := 0
		for _, c := range s.list {
			image := bytes.Clone(s.image)
			clear(image[c.At : c.At+heads])
			b, e := meta.Chunk(image, c)
			sameBytes(t, "no head", b, e, s.text[told:told+c.Plain], api.OK)
			told += c.Plain
		}
	}
}

// fine is an image, and a chunk of it that is right, packed and not.
func fine() (image []byte, packed, asItIs api.Chunk) {
	var s laid
	s.run('p', 100)
	s.plain(noise(50))
	return s.image, s.list[0], s.list[1]
}

func TestChunkWrongFields(t *testing.T) {
	image, packed, asItIs := fine()
	wrong := []int{math.MinInt, -1 << 32, -100, -1, 0, piece + 1, piece + 2, asIs, 65536 + 100, 1 << 32, 1<<32 + 100, math.MaxInt - 8, math.MaxInt}
	for _, c := range []api.Chunk{packed, asItIs} {
		for _, n := range wrong {
			x := c
			x.Plain = n
			noChunk(t, "Plain", image, x, api.ErrArg)
			x = c
			x.Stored = n
			noChunk(t, "Stored", image, x, api.ErrArg)
			x.Plain = n
			noChunk(t, "Plain and Stored", image, x, api.ErrArg)
			noChunk(t, "no image", nil, x, api.ErrArg)
			x.At, x.Crc = math.MaxInt, 0
			noChunk(t, "Plain, Stored, At and Crc", image, x, api.ErrArg)
		}
		for _, n := range []int{math.MinInt, math.MinInt + 8, -1 << 32, -9, -8, -1} {
			x := c
			x.At = n
			noChunk(t, "At", image, x, api.ErrArg)
			x.Crc++
			noChunk(t, "At and Crc", image, x, api.ErrArg)
		}
	}
	for _, n := range []int{1, 49, 51, piece} {
		x := asItIs
		x.Plain = n
		noChunk(t, "not as many", image, x, api.ErrArg)
		x.Crc++
		noChunk(t, "not as many, and another sum", image, x, api.ErrArg)
		x.At = len(image)
		noChunk(t, "not as many, and beyond", image, x, api.ErrArg)
	}
	noChunk(t, "all zero", image, api.Chunk{}, api.ErrArg)
	noChunk(t, "all zero", nil, api.Chunk{}, api.ErrArg)
}

func TestChunkBeyondTheImage(t *testing.T) {
	image, packed, asItIs := fine()
	for _, c := range []api.Chunk{packed, asItIs} {
		last := len(image) - heads - c.Stored
		for _, at := range []int{last + 1, last + 2, len(image) - 8, len(image) - 1, len(image), len(image) + 1, 1 << 31, 1 << 32, 1<<62 + 5, math.MaxInt - heads - c.Stored, math.MaxInt - heads - c.Stored + 1, math.MaxInt - 8, math.MaxInt - 7, math.MaxInt} {
			x := c
			x.At = at
			noChunk(t, "beyond", image, x, api.ErrRange)
			x.Crc++
			noChunk(t, "beyond, and another sum", image, x, api.ErrRange)
			noChunk(t, "no image", nil, x, api.ErrRange)
		}
		x := c
		x.At = last // just up to the end: the place may be, the sum tells
		if x != c {
			noChunk(t, "up to the end", image, x, api.ErrSum)
		}
		for n := range c.At + heads + c.Stored {
			noChunk(t, "cut", image[:n], c, api.ErrRange)
		}
		if _, e := meta.Chunk(image[:c.At+heads+c.Stored], c); e != api.OK {
			t.Error("up to its end:", e)
		}
	}
	great := api.Chunk{Plain: piece, Stored: piece, Crc: crc32.ChecksumIEEE(make([]byte, piece))}
	noChunk(t, "great", make([]byte, heads+piece-1), great, api.ErrRange)
	b, e := meta.Chunk(make([]byte, heads+piece), great)
	sameBytes(t, "great", b, e, make([]byte, piece), api.OK)
}

func TestChunkOtherSum(t *testing.T) {
	image, packed, asItIs := fine()
	for _, c := range []api.Chunk{packed, asItIs} {
		for i := range 32 {
			x := c
			x.Crc ^= 1 << i
			noChunk(t, "another Crc", image, x, api.ErrSum)
			if c.Packed { // the sum is asked ahead of whether it unpacks
				x.Plain++
				noChunk(t, "another Crc and number", image, x, api.ErrSum)
			}
		}
		for _, at := range []int{c.At + 1, c.At + 2} {
			x := c
			x.At = at
			if at+heads+c.Stored <= len(image) {
				noChunk(t, "another place", image, x, api.ErrSum)
			}
		}
		for at := c.At + heads; at < c.At+heads+c.Stored; at++ {
			for turn := 1; turn < 256; turn++ {
				image[at] ^= byte(turn)
				noChunk(t, "another byte", image, c, api.ErrSum)
				image[at] ^= byte(turn)
			}
		}
		for _, b := range [][]byte{image, image[c.At:], image[c.At : c.At+heads+c.Stored-1], image[c.At+heads-1 : c.At+heads+c.Stored]} {
			x := c
			x.Crc = crc32.ChecksumIEEE(b)
			noChunk(t, "the sum of something else", image, x, api.ErrSum)
		}
	}
}

// unsound is blocks that do not unpack to n bytes, though their sums are right.
func unsound(n int) map[string][]byte {
	far := runBlock('a', n)
	far[2] = 2
	nought := runBlock('a', n)
	nought[2] = 0
	cut := runBlock('a', n)
	return map[string][]byte{
		"fewer":         runBlock('a', n-1),
		"more":          runBlock('a', n+1),
		"far more":      runBlock('a', 200000),
		"none":          {0},
		"one":           {0x10, 'a'},
		"cut":           cut[:len(cut)-1],
		"cut in a copy": cut[:3],
		"a far offset":  far,
		"a 0 offset":    nought,
		"no literals":   {0xf0},
		"one more":      append(runBlock('a', n), 0x10),
		"bytes":         bytes.Repeat([]byte{0xff}, 40),
	}
}

func TestChunkDoesNotUnpack(t *testing.T) {
	for _, n := range []int{6, 100, piece - 1, piece} {
		for what, block := range unsound(n) {
			var s laid
			s.add(make([]byte, n), block, true)
			noChunk(t, fmt.Sprint(n, " ", what), s.image, s.list[0], api.ErrForm)
			l, e := meta.Chunks(s.image, 0, len(s.image), n)
			sameChunks(t, "they are chunks still", l, e, s.list, api.OK)
			b, e := meta.Decode(s.image, 0, len(s.image), n)
			sameBytes(t, fmt.Sprint("Decode ", n, " ", what), b, e, nil, api.ErrForm)
		}
		var s laid
		s.run('a', n)
		for _, off := range []int{-2, -1, 1, 2} {
			c := s.list[0]
			c.Plain += off
			want := api.ErrForm
			if c.Plain > piece {
				want = api.ErrArg
			}
			noChunk(t, fmt.Sprint("another number ", n, off), s.image, c, want)
		}
	}
}

// literals is a block of literals alone, 15 at least, by hand.
func literals(text []byte) []byte {
	more := len(text) - 15
	b := append([]byte{0xf0}, bytes.Repeat([]byte{255}, more/255)...)
	return append(append(b, byte(more%255)), text...)
}

// A block may have more bytes than it tells, up to a piece.
func TestChunkLongBlocks(t *testing.T) {
	var one, great, greater laid
	one.long('x')
	great.add(noise(8159), literals(noise(8159)), true)
	greater.add(noise(8160), literals(noise(8160)), true)
	if great.list[0].Stored != piece {
		t.Fatal(great.list)
	}
	isStream(t, "two for one", one.image, 0, len(one.image), one.list, one.text)
	isStream(t, "a piece for less", great.image, 0, len(great.image), great.list, great.text)
	noStream(t, "more than a piece for less", greater.image, 0, len(greater.image), 8160, api.ErrForm)
	noChunk(t, "more than a piece for less", greater.image, greater.list[0], api.ErrArg)
}

func TestChunkRandom(t *testing.T) {
	random := rand.New(rand.NewSource(144))
	count := map[api.Errno]int{}
	streams := fewStreams()[1:]
	for range 20000 {
		s := streams[random.Intn(len(streams))]
		c := s.list[random.Intn(len(s.list))]
		image := s.image
		switch random.Intn(7) {
		case 0:
			c.At += random.Intn(5) - 2
		case 1:
			c.Plain += random.Intn(5) - 2
		case 2:
			c.Stored += random.Intn(5) - 2
			if end := c.At + heads + c.Stored; c.Stored >= 0 && end <= len(image) {
				c.Crc = crc32.ChecksumIEEE(image[c.At+heads : end])
			}
		case 3:
			c.Packed = !c.Packed
		case 4:
			c.Crc ^= 1 << random.Intn(32)
		case 5:
			image = image[:random.Intn(len(image)+1)]
		}
		b, e := meta.Chunk(image, c)
		want, wantE := chunkByHand(image, c)
		sameBytes(t, fmt.Sprint(c), b, e, want, wantE)
		count[wantE]++
	}
	for _, e := range []api.Errno{api.OK, api.ErrArg, api.ErrRange, api.ErrSum, api.ErrForm} {
		if count[e] < 50 {
			t.Error("too few of one kind:", count)
		}
	}
}
