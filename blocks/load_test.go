package blocks_test

import (
	"bytes"
	"fmt"
	"math"
	"math/rand"
	"slices"
	"testing"

	"portmanteau/api"
	"portmanteau/blocks"
)

// P18.2

func TestLoad(t *testing.T) {
	for _, n := range []int{1, 2, 3, 4, 5, 12, 100, 4096, longest - 1, longest} {
		b := noise(n)
		isLoaded(t, "as they are", withSum(b), 0, asIs+n, n, b)
		if n >= 5 {
			run, packed := bytes.Repeat([]byte{'r'}, n), runBlock('r', n)
			isLoaded(t, "packed", withSum(packed), 0, len(packed), n, run)
		}
	}
	isLoaded(t, "packed to more", withSum([]byte{0x10, 9}), 0, 2, 1, []byte{9})
	isLoaded(t, "noughts that are stored", withSum(make([]byte, 9)), 0, asIs+9, 9, make([]byte, 9))
	isLoaded(t, "noughts that are packed", withSum(runBlock(0, 99)), 0, len(runBlock(0, 99)), 99, make([]byte, 99))
}

func TestLoadWithin(t *testing.T) {
	run := bytes.Repeat([]byte{'r'}, 300)
	for _, ahead := range []int{0, 1, 2, 7, 1000} {
		for _, behind := range []int{0, 1, 5, 1000} {
			packed := runBlock('r', 300)
			b := slices.Concat(noise(ahead), withSum(packed), noise(behind))
			isLoaded(t, "packed", b, ahead, len(packed), 300, run)
			b = slices.Concat(noise(ahead), withSum(noise(33)), noise(behind))
			isLoaded(t, "as they are", b, ahead, asIs+33, 33, noise(33))
		}
	}
}

func TestLoadNoughts(t *testing.T) {
	for _, n := range []int{1, 2, 4096, longest - 1, longest} {
		for _, at := range []int{0, 1, 5, 6, 99, -1, math.MinInt, math.MaxInt} {
			for _, b := range [][]byte{nil, noise(5)} {
				isLoaded(t, "noughts", b, at, 0, n, make([]byte, n))
			}
		}
	}
}

func TestLoadErrors(t *testing.T) {
	one := withSum(noise(3))
	packed := withSum(runBlock('r', 20))
	word := len(packed) - 4
	broken := bytes.Clone(one)
	broken[6] ^= 1
	for _, c := range []struct {
		name            string
		image           []byte
		at, word, plain int
		e               api.Errno
	}{
		{"plain of 0", one, 0, asIs + 3, 0, api.ErrArg},
		{"plain below 0", one, 0, asIs + 3, -3, api.ErrArg},
		{"plain of the least", one, 0, asIs + 3, math.MinInt, api.ErrArg},
		{"plain too great", one, 0, 3, longest + 1, api.ErrArg},
		{"noughts of 0", one, 0, 0, 0, api.ErrArg},
		{"noughts too many", one, 0, 0, longest + 1, api.ErrArg},
		{"noughts below 0", one, 0, 0, -1, api.ErrArg},
		{"a word below 0", one, 0, -1, 3, api.ErrArg},
		{"a word of no bytes", one, 0, asIs, 3, api.ErrArg},
		{"a word of no bytes, and none", one, 0, asIs, 0, api.ErrArg},
		{"a word of too many", one, 0, longest + 1, 3, api.ErrArg},
		{"a word of too many, as they are", one, 0, mostWord + 1, longest, api.ErrArg},
		{"a word with another bit", one, 0, 1<<32 + asIs + 3, 3, api.ErrArg},
		{"another length, less", one, 0, asIs + 3, 2, api.ErrArg},
		{"another length, more", one, 0, asIs + 3, 4, api.ErrArg},
		{"another length, and out of range", one, 99, asIs + 3, 4, api.ErrArg},
		{"another length, and another sum", broken, 0, asIs + 3, 4, api.ErrArg},
		{"at below 0", one, -1, asIs + 3, 3, api.ErrRange},
		{"at the least", one, math.MinInt, asIs + 3, 3, api.ErrRange},
		{"at one further", one, 1, asIs + 3, 3, api.ErrRange},
		{"at the end", one, 7, asIs + 3, 3, api.ErrRange},
		{"at behind the end", one, 8, asIs + 3, 3, api.ErrRange},
		{"at the greatest", one, math.MaxInt, asIs + 3, 3, api.ErrRange},
		{"almost the greatest", one, math.MaxInt - 6, asIs + 3, 3, api.ErrRange},
		{"a byte too few", one[:6], 0, asIs + 3, 3, api.ErrRange},
		{"no sum", one[:3], 0, asIs + 3, 3, api.ErrRange},
		{"no bytes", nil, 0, asIs + 3, 3, api.ErrRange},
		{"no bytes, the longest", nil, 0, mostWord, longest, api.ErrRange},
		{"at below 0, packed", packed, -1, word, 20, api.ErrRange},
		{"a byte too few, packed", packed[:len(packed)-1], 0, word, 20, api.ErrRange},
		{"out of range and another sum", broken[:6], 0, asIs + 3, 3, api.ErrRange},
		{"another sum", broken, 0, asIs + 3, 3, api.ErrSum},
		{"another sum, no block", broken, 0, 3, 3, api.ErrSum},
		{"a shorter one", one, 0, asIs + 2, 2, api.ErrSum},
		{"a shorter one, packed", packed, 0, word - 1, 20, api.ErrSum},
		{"a CRC the other way round", []byte{1, 2, 3, 0x55, 0xbc, 0x80, 0x1d}, 0, asIs + 3, 3, api.ErrSum},
		{"no block", one, 0, 3, 3, api.ErrForm},
		{"a block of more bytes", packed, 0, word, 19, api.ErrForm},
		{"a block of fewer bytes", packed, 0, word, 21, api.ErrForm},
		{"a block of far fewer bytes", packed, 0, word, longest, api.ErrForm},
		{"a block of one byte asked for more", packed, 0, word, 1, api.ErrForm},
		{"a block of none", withSum([]byte{0}), 0, 1, 1, api.ErrForm},
		{"a block that is cut", withSum(runBlock('r', 20)[:3]), 0, 3, 20, api.ErrForm},
	} {
		notLoaded(t, c.name, c.image, c.at, c.word, c.plain, c.e)
	}
}

// TestLoadAllOfFew asks for all places and words of some images, against the other hand.
func TestLoadAllOfFew(t *testing.T) {
	words := wordsAtEdges()
	for n := range 12 {
		words = append(words, n, asIs+n)
	}
	for _, image := range [][]byte{nil, withSum([]byte{5}), withSum([]byte{0x10, 5}), slices.Concat(withSum(noise(2)), withSum(runBlock('x', 7))), withSum(withSum(noise(3)))} {
		for at := -3; at < len(image)+3; at++ {
			for _, word := range words {
				for plain := -1; plain < 9; plain++ {
					holdLoad(t, image, at, word, plain)
				}
			}
		}
	}
}

// holdLoad holds what Load tells against the other hand.
func holdLoad(t *testing.T, image []byte, at, word, plain int) {
	t.Helper()
	if want, e := loadByHand(image, at, word, plain); e != api.OK {
		notLoaded(t, "by hand", image, at, word, plain, e)
	} else {
		isLoaded(t, "by hand", image, at, word, plain, want)
	}
}

// TestLoadAnyBlock: whatever bytes are stored, their sum being right, what is told is what they unpack to.
func TestLoadAnyBlock(t *testing.T) {
	random := rand.New(rand.NewSource(183))
	around := noise(2)
	for range 20000 {
		stored := make([]byte, 1+random.Intn(12))
		for i := range stored {
			stored[i] = byte(random.Intn(256) >> (4 * random.Intn(2)))
		}
		image := slices.Concat(around[random.Intn(3):], withSum(stored), around[random.Intn(3):])
		word := len(stored) + asIs*random.Intn(2)
		holdLoad(t, image, random.Intn(3), word, 1+random.Intn(14))
	}
}

func TestLoadMemory(t *testing.T) {
	for _, stored := range [][]byte{noise(40), runBlock('r', 40)} {
		word := len(stored)
		if word == 40 {
			word += asIs
		}
		room := slices.Concat(noise(5), withSum(stored), noise(70))
		kept := bytes.Clone(room)
		b, _ := blocks.Load(room[:5+len(stored)+4], 5, word, 40)
		want := bytes.Clone(b)
		fill(b)
		if !bytes.Equal(room, kept) {
			t.Fatal("the argument is changed")
		}
		isLoaded(t, "again", room[:5+len(stored)+4], 5, word, 40, want)
	}
	b, _ := blocks.Load(nil, 0, 0, 40)
	fill(b)
	isLoaded(t, "noughts again", nil, 0, 0, 40, make([]byte, 40))
}

// P18.4

// holdTurned holds that turned bits of what is stored, or of its sum, are told: those of mask, the lowest one at bit from (bit 0 of a byte its first).
func holdTurned(t *testing.T, b []byte, word, plain, from int, mask uint32) {
	t.Helper()
	out := slices.Concat([]byte{7, 0, 255}, b, []byte{9, 9, 9})
	for i := range 32 {
		if mask>>i&1 == 1 {
			bit := from + i
			if bit >= 8*len(b) {
				return
			}
			out[3+bit/8] ^= 1 << (bit % 8)
		}
	}
	notLoaded(t, fmt.Sprintf("bits %x from %d on", mask, from), out, 3, word, plain, api.ErrSum)
}

func TestTurnedBitsAreTold(t *testing.T) {
	random := rand.New(rand.NewSource(184))
	for _, text := range [][]byte{{1}, {1, 2, 3}, noise(25), bytes.Repeat([]byte{'a'}, 300)} {
		word, b := isStored(t, "what is turned", text, 0.9)
		for from := range 8 * len(b) {
			for n := range 32 { // 1 to 32 bits: all of them, the first and the last, some between these
				ends := uint32(1 | 1<<n)
				all := uint32(1<<(n+1) - 1)
				holdTurned(t, b, word, len(text), from, all)
				holdTurned(t, b, word, len(text), from, ends)
				holdTurned(t, b, word, len(text), from, random.Uint32()&all|ends)
			}
		}
	}
}

func TestTurnedBitsOfLong(t *testing.T) {
	random := rand.New(rand.NewSource(185))
	for _, text := range [][]byte{noise(70000), words(70000), mixture(70000, 4096)} {
		word, b := isStored(t, "what is turned", text, 0.9)
		for range 150 {
			from := random.Intn(8 * len(b))
			holdTurned(t, b, word, len(text), from, 1)
			holdTurned(t, b, word, len(text), from, random.Uint32()|1)
			holdTurned(t, b, word, len(text), from, 0xffffffff)
			near := 8*len(b) - 1 - random.Intn(70) // around where the sum begins
			holdTurned(t, b, word, len(text), near, 0x80000001)
			holdTurned(t, b, word, len(text), near, uint32(1)<<random.Intn(32)|1)
		}
	}
}
