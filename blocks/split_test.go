package blocks_test

import (
	"bytes"
	"fmt"
	"math"
	"math/rand"
	"slices"
	"testing"

	"portmanteau/api"
	"portmanteau/blocks"
)

// P18.3

// isSplit holds what Split tells against each block's Store, by hand, and tells its words and bytes.
func isSplit(t *testing.T, name string, b []byte, log int, limit float64) ([]int, []byte) {
	t.Helper()
	var wantWords []int
	var wantOut []byte
	rest := b
	for size := 1 << log; len(rest) >= size; rest = rest[size:] {
		word, out := storeByHand(t, rest[:size], limit)
		wantWords = append(wantWords, word)
		wantOut = append(wantOut, out...)
	}
	words, out, tail, e := blocks.Split(b, log, limit)
	if e != api.OK || !slices.Equal(words, wantWords) || !bytes.Equal(out, wantOut) || !bytes.Equal(tail, rest) {
		t.Fatalf("%s, log %d, limit %v: Split = %v, %d bytes, a tail of %d, %d; not %v, %d, %d", name, log, limit, words, len(out), len(tail), e, wantWords, len(wantOut), len(rest))
	}
	return words, out
}

func TestSplit(t *testing.T) {
	for _, n := range []int{0, 1, 4095, 4096, 4097, 8191, 8192, 8193, 5 * 4096, 5*4096 + 77, 6*8192 + 4096} {
		for log := 12; log <= 14; log++ {
			for _, limit := range []float64{0, 0.9, 2, math.NaN()} {
				for name, b := range map[string][]byte{"noise": noise(n), "words": words(n), "noughts": make([]byte, n), "a mixture": mixture(n, 1<<log)} {
					isSplit(t, fmt.Sprint(n, " bytes of ", name), b, log, limit)
				}
			}
		}
	}
}

// TestSplitLogs has each size of blocks, just filled, and a byte less and more.
func TestSplitLogs(t *testing.T) {
	for log := 12; log <= 20; log++ {
		for _, n := range []int{1<<log - 1, 1 << log, 1<<log + 1, 2<<log + 3} {
			b := bytes.Repeat([]byte("ab"), n/2+1)[:n]
			words, _ := isSplit(t, fmt.Sprint(n, " bytes"), b, log, 0.5)
			if len(words) != n/(1<<log) {
				t.Errorf("%d bytes, log %d: %d words", n, log, len(words))
			}
		}
	}
}

// TestSplitNoughts: blocks of noughts are not stored, and a tail of noughts is told all the same.
func TestSplitNoughts(t *testing.T) {
	b := make([]byte, 3*4096+5)
	b[4096] = 1
	words, out, tail, e := blocks.Split(b, 12, 0)
	if !slices.Equal(words, []int{0, asIs + 4096, 0}) || len(out) != 4100 || !bytes.Equal(tail, make([]byte, 5)) || e != api.OK {
		t.Errorf("%v, %d bytes, %v, %d", words, len(out), tail, e)
	}
	b[4096], b[4095] = 0, 1
	words, out, _, e = blocks.Split(b, 12, 0)
	if !slices.Equal(words, []int{asIs + 4096, 0, 0}) || len(out) != 4100 || e != api.OK {
		t.Errorf("%v, %d bytes, %d", words, len(out), e)
	}
}

func TestSplitLongest(t *testing.T) {
	b := mixture(image, 1<<19)
	for log, n := range map[int]int{12: 2048, 20: 8} {
		words, out, tail, e := blocks.Split(b, log, 0.9)
		if e != api.OK || len(words) != n || len(tail) > 0 {
			t.Fatal(len(words), len(tail), e)
		}
		isJoined(t, b, words, out, log)
	}
	words, out, _, e := blocks.Split(noise(image), 12, 0) // longer than an image may be: that is asked of Extent
	if e != api.OK || len(out) != image+2048*4 {
		t.Fatal(len(out), e)
	}
	if n, e := blocks.Extent(words); n != 0 || e != api.ErrLong {
		t.Error(n, e)
	}
}

func TestSplitErrors(t *testing.T) {
	short, full, long := noise(9), make([]byte, image), make([]byte, image+1)
	for _, c := range []struct {
		name string
		b    []byte
		log  int
		e    api.Errno
	}{
		{"log too small", short, 11, api.ErrArg},
		{"log too great", short, 21, api.ErrArg},
		{"log of 0", short, 0, api.ErrArg},
		{"log below 0", short, -1, api.ErrArg},
		{"the least log", full, math.MinInt, api.ErrArg},
		{"the greatest log", full, math.MaxInt, api.ErrArg},
		{"log of 64", full, 64, api.ErrArg},
		{"no bytes, log too small", nil, 11, api.ErrArg},
		{"too long, log too small", long, 11, api.ErrArg},
		{"too long, log too great", long, 21, api.ErrArg},
		{"too long", long, 12, api.ErrLong},
		{"too long, blocks of most bytes", long, 20, api.ErrLong},
		{"far too long", make([]byte, 2*image), 16, api.ErrLong},
	} {
		for _, limit := range []float64{0, 0.9, math.NaN()} {
			if words, out, tail, e := blocks.Split(c.b, c.log, limit); len(words) > 0 || len(out) > 0 || len(tail) > 0 || e != c.e {
				t.Errorf("%s: %d words, %d bytes, a tail of %d, %d; not %d", c.name, len(words), len(out), len(tail), e, c.e)
			}
		}
	}
}

func TestSplitMemory(t *testing.T) {
	text := mixture(5*4096+50, 4096)
	for _, limit := range []float64{0, 0.9} {
		room := append(bytes.Clone(text), noise(64)...)
		kept := bytes.Clone(room)
		words, out, tail, _ := blocks.Split(room[:len(text)], 12, limit)
		wantWords, wantOut, wantTail := slices.Clone(words), bytes.Clone(out), bytes.Clone(tail)
		fill(tail)
		if !bytes.Equal(out, wantOut) {
			t.Fatal("the tail lies in what is stored")
		}
		fill(out)
		for i := range words[:cap(words)] {
			words[:cap(words)][i] = -1
		}
		if !bytes.Equal(room, kept) {
			t.Fatal("the argument is changed")
		}
		words, out, tail, e := blocks.Split(room[:len(text)], 12, limit)
		if e != api.OK || !slices.Equal(words, wantWords) || !bytes.Equal(out, wantOut) || !bytes.Equal(tail, wantTail) {
			t.Fatal("another answer the second time")
		}
	}
}

// P18.4

// isJoined holds that the blocks that are stored tell b's bytes, each at its place.
func isJoined(t *testing.T, b []byte, words []int, out []byte, log int) {
	t.Helper()
	at := 0
	for i, word := range words {
		isLoaded(t, fmt.Sprint("block ", i), out, at, word, 1<<log, b[i<<log:(i+1)<<log])
		n, e := blocks.Extent(words[i : i+1])
		if e != api.OK {
			t.Fatal(e)
		}
		at += n
	}
	if n, e := blocks.Extent(words); n != len(out) || at != n || e != api.OK {
		t.Fatal(n, at, len(out), e)
	}
}

func TestStoredIsLoaded(t *testing.T) {
	for _, n := range []int{1, 2, 3, 12, 13, 255, 256, 4096, 70000, longest - 1, longest} {
		for _, limit := range []float64{0, 0.95} {
			for name, b := range map[string][]byte{"noise": noise(n), "words": words(n), "noughts": make([]byte, n), "a last one": oneAt(n, n-1)} {
				word, out, e := blocks.Store(b, limit)
				if e != api.OK {
					t.Fatal(name, e)
				}
				isLoaded(t, name, out, 0, word, n, b)
				isLoaded(t, name+", within others", slices.Concat(noise(7), out, noise(9)), 7, word, n, b)
			}
		}
	}
}

func TestSplitIsLoaded(t *testing.T) {
	random := rand.New(rand.NewSource(186))
	for range 60 {
		log := 12 + random.Intn(3)
		b := mixture(random.Intn(100000), 1<<(10+random.Intn(6)))
		words, out := isSplit(t, "a mixture", b, log, 0.9)
		isJoined(t, b, words, out, log)
	}
}
