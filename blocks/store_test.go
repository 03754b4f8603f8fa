package blocks_test

import (
	"bytes"
	"fmt"
	"math"
	"math/rand"
	"testing"

	"portmanteau/api"
	"portmanteau/blocks"
)

// P18.2

func TestExample(t *testing.T) {
	word, out, e := blocks.Store([]byte{1, 2, 3}, 0)
	if word != 2147483651 || !bytes.Equal(out, []byte{0x01, 0x02, 0x03, 0x1d, 0x80, 0xbc, 0x55}) || e != api.OK {
		t.Errorf("%d, %x, %d", word, out, e)
	}
}

func TestStore(t *testing.T) {
	for _, n := range []int{1, 2, 3, 5, 12, 13, 14, 15, 100, 4095, 4096, 4097, 70000} {
		for _, limit := range limits {
			for name, b := range map[string][]byte{"noise": noise(n), "words": words(n), "ones": bytes.Repeat([]byte{1}, n), "a last one": oneAt(n, n-1), "a first one": oneAt(n, 0), "one in the middle": oneAt(n, n/2)} {
				isStored(t, fmt.Sprint(n, " bytes of ", name), b, limit)
			}
		}
	}
	for n := range 300 {
		isStored(t, "few letters", bytes.Repeat([]byte("aab"), 100)[:n], 0.9)
	}
}

// TestStorePacked has what is worth it and what is not, and the words of both.
func TestStorePacked(t *testing.T) {
	run := bytes.Repeat([]byte{'a'}, 100)
	for limit, packed := range map[float64]bool{0: false, 0.05: false, 0.5: true, 0.95: true, 1: true, math.Inf(1): true} {
		word, out, e := blocks.Store(run, limit)
		if e != api.OK || word < asIs != packed || packed != (len(out) < 100) || word%asIs != len(out)-4 {
			t.Errorf("limit %v: %d, %x, %d", limit, word, out, e)
		}
	}
}

func TestStoreNoughts(t *testing.T) {
	for _, n := range []int{0, 1, 2, 7, 8, 4095, 4096, 65537, longest - 1, longest} {
		for _, limit := range limits {
			if word, out, e := blocks.Store(make([]byte, n), limit); word != 0 || len(out) > 0 || e != api.OK {
				t.Errorf("%d noughts, limit %v: %d, %x, %d", n, limit, word, out, e)
			}
		}
	}
	if word, out, e := blocks.Store(nil, 0.5); word != 0 || len(out) > 0 || e != api.OK {
		t.Errorf("nil: %d, %x, %d", word, out, e)
	}
}

// TestStoreAlmostNoughts: one byte that is none is enough, wherever it stands, whatever it is.
func TestStoreAlmostNoughts(t *testing.T) {
	for at := range 70 {
		if word, _ := isStored(t, "a one", oneAt(70, at), 0); word != asIs+70 {
			t.Errorf("a one at %d: %d", at, word)
		}
	}
	for c := 1; c < 256; c++ {
		if word, _ := isStored(t, "another byte", []byte{0, byte(c), 0}, 0); word != asIs+3 {
			t.Errorf("byte %d: %d", c, word)
		}
	}
}

// TestStoreLongest: where a limit would have it packed and longer than a block may be, it is not packed.
func TestStoreLongest(t *testing.T) {
	for _, limit := range []float64{0, 2} {
		word, out := isStored(t, "the longest noise", noise(longest), limit)
		if word != mostWord || len(out) != longest+4 || !bytes.Equal(out[:longest], noise(longest)) {
			t.Errorf("limit %v: %d, %d bytes", limit, word, len(out))
		}
	}
	if word, _ := isStored(t, "the longest words", words(longest), 0.5); word >= asIs {
		t.Errorf("%d", word)
	}
}

// TestStoreAtMostABlock has the longest bytes that are packed, where they all are, and one more.
func TestStoreAtMostABlock(t *testing.T) {
	// The literals of a block take 2 bytes and one for each 255 of what is above 15: 1044479 bytes take a whole block of the longest so.
	for n, want := range map[int]int{1044479: longest, 1044480: asIs + 1044480} {
		word, out := isStored(t, "at the edge", noiseUnrepeated(n), 2)
		if word != want || len(out) != want%asIs+4 {
			t.Errorf("%d bytes: %d, %d bytes", n, word, len(out))
		}
	}
}

func TestStoreErrors(t *testing.T) {
	for _, n := range []int{longest + 1, longest + 2, 2 * longest, image} {
		for _, limit := range limits {
			for name, b := range map[string][]byte{"noughts": make([]byte, n), "a last one": oneAt(n, n-1)} {
				if word, out, e := blocks.Store(b, limit); word != 0 || len(out) > 0 || e != api.ErrLong {
					t.Errorf("%d bytes, %s: %d, %d bytes, %d", n, name, word, len(out), e)
				}
			}
		}
	}
}

func TestStoreRandom(t *testing.T) {
	random := rand.New(rand.NewSource(182))
	for range 3000 {
		b := make([]byte, random.Intn(400))
		letters := 1 + random.Intn(256)
		for i := range b {
			b[i] = byte(random.Intn(letters))
		}
		isStored(t, "by chance", b, random.Float64()*1.5)
	}
}

// TestStoreMemory: what is told is new memory, and the argument stays, its spare room too.
func TestStoreMemory(t *testing.T) {
	for _, text := range [][]byte{noise(50), words(500), make([]byte, 50), []byte("abc")} {
		for _, limit := range []float64{0, 0.9, 2} {
			room := append(bytes.Clone(text), noise(64)...)
			kept := bytes.Clone(room)
			word, out, _ := blocks.Store(room[:len(text)], limit)
			want := bytes.Clone(out)
			fill(out)
			if !bytes.Equal(room, kept) {
				t.Fatal("the argument is changed")
			}
			if again, same, e := blocks.Store(room[:len(text)], limit); again != word || !bytes.Equal(same, want) || e != api.OK {
				t.Fatal("another answer the second time")
			}
		}
	}
}

// fill writes over bytes, their spare room too.
func fill(b []byte) {
	b = b[:cap(b)]
	for i := range b {
		b[i] = 0xaa
	}
}

// noiseUnrepeated is n bytes by chance in which no four bytes stand twice within reach of a copy.
func noiseUnrepeated(n int) []byte {
	b := noise(n)
	last := map[[4]byte]int{}
	for at := 0; at+4 <= n; at++ {
		for {
			four := [4]byte(b[at : at+4])
			if was, ok := last[four]; !ok || at-was > 65535 {
				last[four] = at
				break
			}
			b[at+3]++
		}
	}
	return b
}
