package meta_test

import (
	"bytes"
	"fmt"
	"hash/crc32"
	"math"
	"math/rand"
	"slices"
	"testing"

	"portmanteau/api"
	"portmanteau/meta"
)

// P14.3: Decode

// faulty is a chunk of a whole piece with a fault, by which Chunk tells it.
func faulty(s *laid, want api.Errno) {
	switch want {
	case api.ErrForm:
		s.add(make([]byte, piece), runBlock('w', piece-1), true)
	case api.ErrSum:
		s.run('w', piece)
		s.image[len(s.image)-1] ^= 1
	default:
		s.run('r', piece)
	}
}

// Of the first chunk that has a fault it is told, whatever the others have.
func TestDecodeFirstFault(t *testing.T) {
	kinds := []api.Errno{api.OK, api.ErrForm, api.ErrSum}
	for _, a := range kinds {
		for _, b := range kinds {
			for _, c := range kinds {
				var s laid
				want := api.OK
				for _, e := range []api.Errno{a, b, c} {
					faulty(&s, e)
					if want == api.OK {
						want = e
					}
				}
				out, e := meta.Decode(s.image, 0, len(s.image), 3*piece)
				if want == api.OK {
					sameBytes(t, "no fault", out, e, s.text, api.OK)
				} else {
					sameBytes(t, fmt.Sprint("faults ", a, b, c), out, e, nil, want)
				}
				out, e = meta.Slice(s.image, s.list, 0, 3*piece)
				if want != api.OK {
					sameBytes(t, fmt.Sprint("Slice, faults ", a, b, c), out, e, nil, want)
				}
			}
		}
	}
}

// Chunks' error comes ahead of a fault in a chunk that lies ahead of it.
func TestDecodeChunksErrorFirst(t *testing.T) {
	for _, fault := range []api.Errno{api.ErrForm, api.ErrSum} {
		var s laid
		faulty(&s, fault)
		s.plain([]byte{1, 2, 3})
		n := len(s.image)
		notDecoded := func(what string, image []byte, from, to, size int, want api.Errno) {
			t.Helper()
			b, e := meta.Decode(image, from, to, size)
			sameBytes(t, what, b, e, nil, want)
		}
		notDecoded("as it is", s.image, 0, n, piece+3, fault)
		notDecoded("a wrong size", s.image, 0, n, -1, api.ErrArg)
		notDecoded("beyond", s.image, 0, n+1, piece+3, api.ErrArg)
		notDecoded("cut", s.image, 0, n-1, piece+3, api.ErrForm)
		notDecoded("another number", s.image, 0, n, piece+2, api.ErrForm)
		image := bytes.Clone(s.image)
		image[s.list[1].At+3] = 0xff
		notDecoded("a wrong head", image, 0, n, piece+3, api.ErrForm)
	}
}

// The head in the image counts for Decode.
func TestDecodeOtherSumInHead(t *testing.T) {
	for _, s := range fewStreams() {
		for _, c := range s.list {
			for bit := range 32 {
				image := bytes.Clone(s.image)
				image[c.At+4+bit/8] ^= 1 << (bit % 8)
				b, e := meta.Decode(image, 0, len(image), len(s.text))
				sameBytes(t, "another sum in a head", b, e, nil, api.ErrSum)
			}
		}
	}
}

// P14.3: Slice

// holdSlice holds Slice against the other hand's answer.
func holdSlice(t *testing.T, what string, image []byte, l []api.Chunk, at, n int) {
	t.Helper()
	b, e := meta.Slice(image, l, at, n)
	want, wantE := sliceByHand(image, l, at, n)
	sameBytes(t, fmt.Sprintf("%s: Slice(%v, %d, %d)", what, l, at, n), b, e, want, wantE)
}

// noSlice holds that there is no such slice, and why.
func noSlice(t *testing.T, what string, image []byte, l []api.Chunk, at, n int, want api.Errno) {
	t.Helper()
	b, e := meta.Slice(image, l, at, n)
	sameBytes(t, fmt.Sprintf("%s: Slice(%v, %d, %d)", what, l, at, n), b, e, nil, want)
}

// isSlice holds that it is text.
func isSlice(t *testing.T, what string, image []byte, l []api.Chunk, at int, text []byte) {
	t.Helper()
	b, e := meta.Slice(image, l, at, len(text))
	sameBytes(t, fmt.Sprintf("%s: Slice(%v, %d, %d)", what, l, at, len(text)), b, e, text, api.OK)
}

// edges is the places at both ends of each chunk, those beside them, and some between.
func edges(l []api.Chunk) []int {
	places := []int{0}
	at := 0
	for _, c := range l {
		places = append(places, at-1, at, at+1, at+c.Plain/2, at+c.Plain-1, at+c.Plain, at+c.Plain+1)
		at += c.Plain
	}
	slices.Sort(places)
	return slices.Compact(places)
}

func TestSlicesAreParts(t *testing.T) {
	for i, s := range fewStreams() {
		x, _, _ := s.shifted(i, 3)
		for _, from := range edges(x.list) {
			for _, to := range edges(x.list) {
				what := fmt.Sprint("stream ", i)
				switch {
				case from < 0 || to > len(x.text) || to < from:
					noSlice(t, what, x.image, x.list, from, to-from, api.ErrRange)
				default:
					isSlice(t, what, x.image, x.list, from, x.text[from:to])
				}
			}
		}
	}
}

// Every slice of a short row of chunks: a list may have chunks of any lengths.
func TestSliceOfShortChunks(t *testing.T) {
	var s laid
	s.plain([]byte("abc"))
	s.long('d')
	s.run('e', 6)
	s.plain([]byte("f"))
	s.plain([]byte("gh"))
	for at := -2; at <= len(s.text)+2; at++ {
		for n := -2; n <= len(s.text)+2; n++ {
			if at < 0 || n < 0 || at+n > len(s.text) {
				noSlice(t, "short", s.image, s.list, at, n, api.ErrRange)
			} else {
				isSlice(t, "short", s.image, s.list, at, s.text[at:at+n])
			}
		}
	}
	turned := []api.Chunk{s.list[4], s.list[0], s.list[0], s.list[3]} // in any order, and the same one twice
	isSlice(t, "turned", s.image, turned, 0, []byte("ghabcabcf"))
	isSlice(t, "turned", s.image, turned, 4, []byte("cabc"))
}

func TestSliceOfNothing(t *testing.T) {
	for _, l := range [][]api.Chunk{nil, {}} {
		for _, image := range [][]byte{nil, {}, noise(50)} {
			isSlice(t, "no chunks", image, l, 0, nil)
			noSlice(t, "no chunks", image, l, 0, 1, api.ErrRange)
			noSlice(t, "no chunks", image, l, 1, 0, api.ErrRange)
			noSlice(t, "no chunks", image, l, -1, 0, api.ErrRange)
			noSlice(t, "no chunks", image, l, 0, -1, api.ErrRange)
			noSlice(t, "no chunks", image, l, math.MaxInt, math.MaxInt, api.ErrRange)
		}
	}
	var s laid
	s.plain([]byte("abc"))
	s.image[heads] ^= 1 // a slice of none asks no chunk
	for at := range 4 {
		isSlice(t, "none", s.image, s.list, at, nil)
		isSlice(t, "none of no image", nil, s.list, at, nil)
	}
	noSlice(t, "none, behind the end", s.image, s.list, 4, 0, api.ErrRange)
	noSlice(t, "one", s.image, s.list, 0, 1, api.ErrSum)
	noSlice(t, "one of no image", nil, s.list, 0, 1, api.ErrRange)
}

var greatNumbers = []int{1 << 31, 1 << 32, 1 << 62, math.MaxInt - 3, math.MaxInt - 1, math.MaxInt}

func TestSliceWrongPlaces(t *testing.T) {
	for i, s := range fewStreams() {
		what := fmt.Sprint("stream ", i)
		for _, below := range []int{math.MinInt, math.MinInt + 1, -1 << 32, -piece, -1} {
			for _, other := range []int{math.MinInt, -1, 0, 1, len(s.text), math.MaxInt} {
				noSlice(t, what, s.image, s.list, below, other, api.ErrRange)
				noSlice(t, what, s.image, s.list, other, below, api.ErrRange)
			}
		}
		for _, great := range greatNumbers {
			for _, other := range []int{0, 1, len(s.text), math.MaxInt} {
				noSlice(t, what, s.image, s.list, great, other, api.ErrRange)
				noSlice(t, what, s.image, s.list, other, great, api.ErrRange)
			}
		}
	}
}

// brokenChunks is chunks with a fault each, and what Chunk tells of them; those with a Plain that counts.
func brokenChunks(s laid) map[api.Errno]api.Chunk {
	arg, beyond, sum, form := s.list[0], s.list[0], s.list[0], s.list[0]
	arg.At = -1
	beyond.At = len(s.image)
	sum.Crc++
	form.Plain++
	return map[api.Errno]api.Chunk{api.ErrArg: arg, api.ErrRange: beyond, api.ErrSum: sum, api.ErrForm: form}
}

// Only those chunks are asked that the slice lies in.
func TestSliceAsksNoOthers(t *testing.T) {
	var s laid
	s.run('a', 9)
	s.plain([]byte("bcd"))
	s.plain([]byte("ef"))
	for want, broken := range brokenChunks(s) {
		n := broken.Plain
		l := []api.Chunk{broken, s.list[1], s.list[2]}
		isSlice(t, "behind it", s.image, l, n, []byte("bcdef"))
		isSlice(t, "one behind it", s.image, l, n+1, []byte("c"))
		noSlice(t, "from its end on", s.image, l, n-1, 1, want)
		noSlice(t, "over its end", s.image, l, n-1, 2, want)
		noSlice(t, "all", s.image, l, 0, n+5, want)
		isSlice(t, "none of it", s.image, l, n-1, nil)
		l = []api.Chunk{s.list[1], broken, s.list[2]}
		isSlice(t, "ahead of it", s.image, l, 0, []byte("bcd"))
		isSlice(t, "behind it", s.image, l, 3+n, []byte("ef"))
		noSlice(t, "its first", s.image, l, 3, 1, want)
		noSlice(t, "over its beginning", s.image, l, 2, 2, want)
		noSlice(t, "over it", s.image, l, 2, n+2, want)
		noSlice(t, "not so many", s.image, l, 0, 6+n, api.ErrRange)
		l = []api.Chunk{s.list[1], s.list[2], broken}
		isSlice(t, "up to it", s.image, l, 0, []byte("bcdef"))
		noSlice(t, "up to its first", s.image, l, 0, 6, want)
		for other, further := range brokenChunks(s) { // the first one of two is told
			l = []api.Chunk{s.list[1], broken, further}
			noSlice(t, fmt.Sprint("two, the second ", other), s.image, l, 0, 3+n+further.Plain, want)
			noSlice(t, fmt.Sprint("two, the second alone ", other), s.image, l, 3+n, 1, other)
			noSlice(t, "not so many of two", s.image, l, 0, 4+n+further.Plain, api.ErrRange)
		}
	}
}

// A Plain of 0 or below it counts as 0: no byte lies there, so such a chunk is never asked.
func TestSlicePlainBelowNought(t *testing.T) {
	var s laid
	s.plain([]byte("ab"))
	s.plain([]byte("cde"))
	for _, n := range []int{0, -1, -2, -piece, -1 << 32, math.MinInt + 1, math.MinInt} {
		none := api.Chunk{At: -5, Plain: n, Stored: n}
		for _, l := range [][]api.Chunk{
			{none, s.list[0], s.list[1]}, {s.list[0], none, s.list[1]}, {s.list[0], s.list[1], none},
			{none, none, s.list[0], none, none, s.list[1], none, none},
		} {
			for at := range 6 {
				for to := at; to <= 5; to++ {
					isSlice(t, "below 0", s.image, l, at, s.text[at:to])
				}
				noSlice(t, "not so many", s.image, l, at, 6-at, api.ErrRange)
			}
			noSlice(t, "not so many", s.image, l, 6, 0, api.ErrRange)
		}
		isSlice(t, "below 0 alone", s.image, []api.Chunk{none, none}, 0, nil)
		noSlice(t, "below 0 alone", s.image, []api.Chunk{none, none}, 0, 1, api.ErrRange)
		noSlice(t, "below 0 alone", s.image, []api.Chunk{none, none}, 1, 0, api.ErrRange)
	}
}

// Chunks may count for more bytes than an int, or a uint64, tells.
func TestSliceGreatSums(t *testing.T) {
	var s laid
	s.plain([]byte("abc"))
	good := s.list[0]
	for _, n := range append(greatNumbers, piece+1) {
		great := api.Chunk{Plain: n, Stored: 1, Packed: true}
		isSlice(t, "behind it", s.image, []api.Chunk{great, good}, n, s.text[:min(3, math.MaxInt-n)])
		isSlice(t, "ahead of it", s.image, []api.Chunk{good, great}, 0, s.text)
		isSlice(t, "ahead of many", s.image, []api.Chunk{good, great, great, great, great}, 1, []byte("bc"))
		noSlice(t, "all of it", s.image, []api.Chunk{great}, 0, n, api.ErrArg)
		noSlice(t, "its last", s.image, []api.Chunk{great}, n-1, 1, api.ErrArg)
		noSlice(t, "one more", s.image, []api.Chunk{great}, n, 1, api.ErrRange)
		noSlice(t, "good ones and it", s.image, []api.Chunk{good, great}, 0, n, api.ErrArg)
		noSlice(t, "two of it", s.image, []api.Chunk{great, great}, n, n, api.ErrArg)
		noSlice(t, "two of it, and one more", s.image, []api.Chunk{great, good}, n, 4, api.ErrRange)
		isSlice(t, "none of two", s.image, []api.Chunk{great, great}, n, nil)
		many := slices.Repeat([]api.Chunk{great}, 9)
		noSlice(t, "many", s.image, many, math.MaxInt, math.MaxInt, sliceError(s.image, many, math.MaxInt, math.MaxInt))
	}
	whole := api.Chunk{Plain: math.MaxInt, Stored: 1, Packed: true}
	l := []api.Chunk{whole, whole}
	noSlice(t, "twice the greatest", s.image, l, math.MaxInt, math.MaxInt, api.ErrArg)
	l[1].Plain--
	noSlice(t, "one fewer", s.image, l, math.MaxInt, math.MaxInt, api.ErrRange)
	noSlice(t, "one fewer", s.image, l, math.MaxInt, math.MaxInt-1, api.ErrArg)
	l = []api.Chunk{whole, whole, {Plain: 2}, good, whole} // behind as many as a uint64 tells
	noSlice(t, "over an uint64", s.image, l, math.MaxInt, math.MaxInt, api.ErrArg)
	holdSlice(t, "a good one and great ones", s.image, []api.Chunk{good, whole, whole, whole, whole}, 2, math.MaxInt)
	spoilt := bytes.Clone(s.image)
	spoilt[heads] ^= 1
	noSlice(t, "the first fault is the sum's", spoilt, []api.Chunk{good, whole}, 0, math.MaxInt, api.ErrSum)
}

func sliceError(image []byte, l []api.Chunk, at, n int) api.Errno {
	_, e := sliceByHand(image, l, at, n)
	return e
}

func TestSliceRandom(t *testing.T) {
	random := rand.New(rand.NewSource(145))
	var s laid
	s.plain([]byte("abc"))
	s.run('d', 9)
	s.plain([]byte("e"))
	s.run('f', piece)
	s.plain(noise(piece))
	count := map[api.Errno]int{}
	for range 20000 {
		var l []api.Chunk
		total := 0
		for range random.Intn(6) {
			c := s.list[random.Intn(len(s.list))]
			switch random.Intn(20) {
			case 0:
				c.Plain = random.Intn(9) - 5
			case 1:
				c.Crc++
			case 2:
				c.At += random.Intn(5) - 2
			case 3:
				c.Plain++
			}
			l = append(l, c)
			total += max(c.Plain, 0)
		}
		at := random.Intn(total + 2)
		n := random.Intn(total - min(at, total) + 2)
		if random.Intn(10) == 0 {
			at, n = random.Intn(9)-4, random.Intn(9)-4
		}
		holdSlice(t, "random", s.image, l, at, n)
		count[sliceError(s.image, l, at, n)]++
	}
	for _, e := range []api.Errno{api.OK, api.ErrArg, api.ErrRange, api.ErrSum, api.ErrForm} {
		if count[e] < 50 {
			t.Error("too few of one kind:", count)
		}
	}
}

// A list of the same chunk again and again is told in no more time and room than its bytes need.
func TestSliceLongList(t *testing.T) {
	text := []byte{0x5a}
	var s laid
	s.plain(text)
	l := slices.Repeat(s.list, 100000)
	isSlice(t, "long", s.image, l, 5, bytes.Repeat(text, 99995))
	l[99999].Crc = ^crc32.ChecksumIEEE(text)
	noSlice(t, "long", s.image, l, 5, 99995, api.ErrSum)
}
