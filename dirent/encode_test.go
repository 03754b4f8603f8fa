package dirent_test

import (
	"bytes"
	"encoding/hex"
	"slices"
	"strings"
	"testing"

	"portmanteau/api"
	"portmanteau/dirent"
)

// P16.1: Encode, and its rows

// isBytes asks whether a list has these bytes, and they this list.
func isBytes(t *testing.T, l []api.Kid, text string) {
	t.Helper()
	want, err := hex.DecodeString(strings.ReplaceAll(text, " ", ""))
	if err != nil {
		t.Fatal(err)
	}
	if b, e := dirent.Encode(l); e != api.OK || !bytes.Equal(b, want) {
		t.Errorf("%s: %d, %x, not %x", short(l), e, b, want)
	}
	if m, e := dirent.Decode(want); e != api.OK || !slices.Equal(m, l) {
		t.Errorf("%x: %d, %s, not %s", want, e, short(m), short(l))
	}
}

func TestExample(t *testing.T) {
	isBytes(t, []api.Kid{{Name: "a", Ino: 5}, {Name: "b", Ino: 7}, {Name: "c", Ino: 2}}, "02 00 05 00 00 00 00 00 01 61 02 00 01 62 01 00 02 00 00 00 00 00 01 63")
}

// TestBytesByHand has bytes that are written out, so that both hands are asked.
func TestBytesByHand(t *testing.T) {
	isBytes(t, nil, "")
	isBytes(t, []api.Kid{}, "")
	isBytes(t, []api.Kid{{Name: "a", Ino: 0}}, "0100 00000000 0000 01 61")
	isBytes(t, []api.Kid{{Name: "abc", Ino: maxEntries}}, "0100 00400000 0000 03 616263")
	isBytes(t, []api.Kid{{Name: "a", Ino: 0}, {Name: "b", Ino: maxEntries}}, "0200 00000000 0000 01 61 0040 01 62")
	isBytes(t, []api.Kid{{Name: "a", Ino: maxEntries}, {Name: "b", Ino: 0}}, "0100 00400000 0000 01 61 0100 00000000 0000 01 62")
	isBytes(t, []api.Kid{{Name: "a", Ino: 0x1234}, {Name: "b", Ino: 0x2345}}, "0200 34120000 0000 01 61 1111 01 62")
	isBytes(t, []api.Kid{{Name: "a", Ino: 3}, {Name: "b", Ino: 3}, {Name: "c", Ino: 3}}, "0300 03000000 0000 01 61 0000 01 62 0000 01 63")
	isBytes(t, []api.Kid{{Name: "a", Ino: 3}, {Name: "b", Ino: 2}, {Name: "c", Ino: 1}}, "0100 03000000 0000 01 61 0100 02000000 0000 01 62 0100 01000000 0000 01 63")
	isBytes(t, []api.Kid{{Name: "a", Ino: 3}, {Name: "b", Ino: 9}, {Name: "c", Ino: 4}, {Name: "d", Ino: 3}, {Name: "e", Ino: 2}, {Name: "f", Ino: 3}}, "0400 03000000 0000 01 61 0600 01 62 0100 01 63 0000 01 64 0200 02000000 0000 01 65 0100 01 66")
	isBytes(t, []api.Kid{{Name: strings.Repeat("\xff", maxName), Ino: 1}}, "0100 01000000 0000 ff"+strings.Repeat("ff", maxName))
}

// lengths tells how many names each row of bytes has, and each row's first Ino.
func lengths(t *testing.T, b []byte) (names, firsts []int) {
	t.Helper()
	for at := 0; at < len(b); {
		n := int(b[at]) | int(b[at+1])<<8
		names = append(names, n)
		firsts = append(firsts, int(b[at+2])|int(b[at+3])<<8)
		at += 6
		for range n {
			at += 3 + int(b[at+2])
		}
	}
	return names, firsts
}

// isCut asks for the rows of a list: how many names each has, and its first Ino.
func isCut(t *testing.T, l []api.Kid, names, firsts []int) {
	t.Helper()
	isRight(t, l)
	b, _ := dirent.Encode(l)
	if n, f := lengths(t, b); !slices.Equal(n, names) || !slices.Equal(f, firsts) {
		t.Errorf("%s: rows of %v names from %v, not %v from %v", short(l), n, f, names, firsts)
	}
}

func TestRowsByCount(t *testing.T) {
	isCut(t, rising(1), []int{1}, []int{0})
	isCut(t, rising(255), []int{255}, []int{0})
	isCut(t, rising(256), []int{256}, []int{0})
	isCut(t, rising(257), []int{256, 1}, []int{0, 256})
	isCut(t, rising(512), []int{256, 256}, []int{0, 256})
	isCut(t, rising(513), []int{256, 256, 1}, []int{0, 256, 512})
	isCut(t, same(257, 9), []int{256, 1}, []int{9, 9})
}

func TestRowsByInos(t *testing.T) {
	isCut(t, falling(4), []int{1, 1, 1, 1}, []int{4, 3, 2, 1})
	isCut(t, kids(5, 5, 5), []int{3}, []int{5})
	isCut(t, kids(5, 9, 6, 8, 5, 7), []int{6}, []int{5}) // below the one ahead, not below the first
	isCut(t, kids(5, 9, 4, 4, 5, 3), []int{2, 3, 1}, []int{5, 4, 3})
	isCut(t, kids(0, maxEntries, 0), []int{3}, []int{0})
	isCut(t, kids(maxEntries, maxEntries, 0), []int{2, 1}, []int{maxEntries, 0})
	isCut(t, kids(2, 1, 2, 0, 9), []int{1, 2, 2}, []int{2, 1, 0})
}

// TestRowsByBoth has rows that are full where the next Ino falls, is the same, or rises, and rows that begin anew just ahead of that or behind it.
func TestRowsByBoth(t *testing.T) {
	for _, x := range []struct{ ino, names int }{{6, 44}, {7, 44}, {8, 44}, {maxEntries, 44}} {
		l := same(300, 7)
		for i := 256; i < 300; i++ {
			l[i].Ino = x.ino
		}
		isCut(t, l, []int{256, x.names}, []int{7, x.ino})
	}
	for at := 250; at < 260; at++ { // one Ino that is below the first
		l := same(600, 7)
		l[at].Ino = 6
		switch {
		case at < 256:
			isCut(t, l, []int{at, 256, 600 - 256 - at}, []int{7, 6, 7})
		case at == 256:
			isCut(t, l, []int{256, 256, 88}, []int{7, 6, 7})
		default:
			isCut(t, l, []int{256, at - 256, 256, 600 - 256 - at}, []int{7, 7, 6, 7})
		}
	}
}

// TestEncodedIsNewMemory writes over an answer, its spare room too, and over the list, and asks again.
func TestEncodedIsNewMemory(t *testing.T) {
	for _, l := range someRight() {
		want := encodeByHand(l)
		mine := slices.Clone(l)
		first, _ := dirent.Encode(mine)
		second, _ := dirent.Encode(mine)
		overwrite(first)
		third, e := dirent.Encode(mine)
		overwriteKids(mine)
		if !bytes.Equal(second, want) || !bytes.Equal(third, want) || e != api.OK {
			t.Errorf("%s: an answer changed with another, or with the list", short(l))
		}
	}
}
