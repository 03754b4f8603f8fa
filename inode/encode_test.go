package inode_test

import (
	"bytes"
	"encoding/hex"
	"strings"
	"testing"

	"portmanteau/api"
	"portmanteau/inode"
)

// P15.2

func TestExample(t *testing.T) {
	n := api.Inode{Kind: api.KindChar, Mode: 384, Links: 1, Attrs: -1, Dev: 5}
	want := "050080010000000000000000" + "01000000" + "ffffffff" + "05000000"
	isBytes(t, n, want)
	isRight(t, n)
}

// isBytes asks whether an inode's bytes are these, in hexadecimal, spaces left out, and back.
func isBytes(t *testing.T, n api.Inode, want string) {
	t.Helper()
	want = strings.ReplaceAll(want, " ", "")
	b, e := inode.Encode(n)
	if got := hex.EncodeToString(b); got != want || e != api.OK {
		t.Errorf("%s: %s %d, not %s", short(n), got, e, want)
	}
	if size := inode.Size(n); size != len(want)/2 {
		t.Errorf("%s: Size is %d, not %d", short(n), size, len(want)/2)
	}
	if back, next, e := inode.Decode(b, 0); e != api.OK || next != len(b) || !same(back, n) {
		t.Errorf("%s: back it is %s, %d, %d", short(n), short(back), next, e)
	}
}

// TestBytesOfEachKind has bytes that are written out by hand, so that both hands are asked.
func TestBytesOfEachKind(t *testing.T) {
	head := "a401 3412 4523 9a785634 89674500 9a785600"
	isBytes(t, sample(file), "0100"+head+"efcdab8967000000 bc9a7800 cdab0000 efcd0b00 f0de0c00 03000000 efcdab89 00000000 f0debc9a")
	isBytes(t, sample(folder), "0200"+head+"bc9a7800 cdab8900 bc1a0000")
	isBytes(t, sample(link), "0300"+head+"0800 746f2f7468657265")
	isBytes(t, sample(block), "0400"+head+"efcdab89")
	isBytes(t, sample(char), "0500"+head+"efcdab89")
	small := "0000 0000 0000 00000000 01000000 ffffffff"
	isBytes(t, least(file), "0100"+small+"0000000000000000 00000000 ffffffff 00000000 00000000 00000000")
	isBytes(t, least(folder), "0200"+small+"00000000 00000000 00000000")
	isBytes(t, least(link), "0300"+small+"0100 01")
	isBytes(t, least(block), "0400"+small+"00000000")
	isBytes(t, least(char), "0500"+small+"00000000")
	great := "ff0f ffff ffff ffffffff ffffffff 00000001"
	isBytes(t, most(file), "0100"+great+"ffffffffff000000 00008000 ffff0000 ffff0f00 ffff0f00 00000100"+strings.Repeat("ffffffff", 65536))
	isBytes(t, most(folder), "0200"+great+"00000001 00000001 00400000")
	isBytes(t, most(link), "0300"+great+"0010"+strings.Repeat("ff", 4096))
	isBytes(t, most(block), "0400"+great+"ffffffff")
	isBytes(t, most(char), "0500"+great+"ffffffff")
}

func TestSizes(t *testing.T) {
	n := least(file)
	for _, words := range []int{0, 1, 2, 1000, maxWords - 1, maxWords} {
		n.Words = make([]int, words)
		if size := inode.Size(n); size != 48+4*words {
			t.Errorf("%d words: %d", words, size)
		}
	}
	n.Words = make([]int, maxWords+1)
	if size := inode.Size(n); size != 0 {
		t.Errorf("too many words: %d", size)
	}
	n = least(link)
	for _, long := range []int{1, 2, 255, 256, 4095, 4096} {
		n.Target = strings.Repeat("t", long)
		if size := inode.Size(n); size != 22+long {
			t.Errorf("%d bytes of Target: %d", long, size)
		}
	}
	for kind, want := range map[int]int{0: 0, folder: 32, block: 24, char: 24, hard: 0, 7: 0} {
		if size := inode.Size(api.Inode{Kind: kind, Links: 1}); size != want {
			t.Errorf("kind %d: %d", kind, size)
		}
	}
}

// TestEncodeTellsChecksError asks for both errors, and for nothing beside them.
func TestEncodeTellsChecksError(t *testing.T) {
	for _, kind := range kinds() {
		n := sample(kind)
		n.Links = 0
		isWrong(t, n, api.ErrArg)
		n.Kind = hard
		isWrong(t, n, api.ErrKind)
	}
}

// withRoom is a list that has spare room, which is told too.
func withRoom(l []int) (out, all []int) {
	all = append(append(make([]int, 0, len(l)+5), l...), 91, 92, 93, 94, 95)
	return all[:len(l)], all
}

// TestInodesAreUnchanged asks whether all calls leave an inode as it is handed in.
func TestInodesAreUnchanged(t *testing.T) {
	for _, n := range append(someRight(), api.Inode{Kind: file, Links: 1, Words: []int{1, -1}, Frag: -1}, api.Inode{Kind: hard, Words: []int{5}}) {
		words, all := withRoom(n.Words)
		n.Words = words
		was := append([]int(nil), all...)
		inode.Check(n)
		inode.Encode(n)
		inode.Size(n)
		inode.Plain(n, minLog, 0)
		if want := (api.Inode{Words: was}); !same(api.Inode{Words: all}, want) {
			t.Errorf("%s: Words were changed: %v", short(n), all[:min(len(all), 20)])
		}
	}
}

// TestEncodedIsNewMemory writes over an answer, its spare room too, and asks again.
func TestEncodedIsNewMemory(t *testing.T) {
	for _, n := range someRight() {
		want := lay(n)
		first, _ := inode.Encode(n)
		second, _ := inode.Encode(n)
		overwrite(first)
		third, e := inode.Encode(n)
		if !bytes.Equal(second, want) || !bytes.Equal(third, want) || e != api.OK {
			t.Errorf("%s: an answer changed with another", short(n))
		}
		n.Words = append([]int(nil), n.Words...)
		for i := range n.Words {
			n.Words[i] = 7
		}
		if !bytes.Equal(second, want) {
			t.Errorf("%s: an answer changed with the inode", short(n))
		}
	}
}

// overwrite changes all bytes of b, spare room included.
func overwrite(b []byte) {
	b = b[:cap(b)]
	for i := range b {
		b[i] ^= 0x5a
	}
}
