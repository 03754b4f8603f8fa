package dirent_test

import (
	"bytes"
	"fmt"
	"slices"
	"strings"
	"testing"

	"portmanteau/api"
	"portmanteau/dirent"
)

// The numbers of the chapter, written out, so that no test goes by the program's own.
const (
	maxName    = 255
	maxEntries = 16384
	maxRow     = 256
)

// validByHand says which names there are by another hand than the program's.
func validByHand(s string) bool {
	return len(s) > 0 && len(s) <= maxName && !strings.ContainsAny(s, "/\x00") && s != "." && s != ".."
}

// behindByHand says whether b stands behind a, byte by byte.
func behindByHand(b, a string) bool {
	for i := 0; i < len(b); i++ {
		if i == len(a) || b[i] > a[i] {
			return true
		}
		if b[i] < a[i] {
			return false
		}
	}
	return false
}

// checkByHand says P16.1's Check by another hand.
func checkByHand(l []api.Kid) api.Errno {
	for i, k := range l {
		right := validByHand(k.Name) && k.Ino >= 0 && k.Ino <= maxEntries
		if !right || i > 0 && !behindByHand(k.Name, l[i-1].Name) {
			return api.ErrArg
		}
	}
	return api.OK
}

// lay is the bytes of a row, whether there may be such a one or not: its first Ino is told, and of each name how far its Ino is above.
func lay(first int, l ...api.Kid) []byte {
	n := len(l)
	b := []byte{byte(n), byte(n >> 8), byte(first), byte(first >> 8), byte(first >> 16), byte(first >> 24)}
	for _, k := range l {
		step := k.Ino - first
		b = append(b, byte(step), byte(step>>8), byte(len(k.Name)))
		b = append(b, k.Name...)
	}
	return b
}

// encodeByHand is a right list's bytes by another hand: name by name, each of them laid behind a row that is counted up, or that it begins.
func encodeByHand(l []api.Kid) []byte {
	var b []byte
	row, first, names := 0, 0, 0 // where the last row begins, and what it has
	for i, k := range l {
		if i == 0 || k.Ino < first || names == maxRow {
			row, first, names = len(b), k.Ino, 0
			b = append(b, 0, 0, byte(first), byte(first>>8), 0, 0)
		}
		names++
		b[row], b[row+1] = byte(names), byte(names>>8)
		step := k.Ino - first
		b = append(b, byte(step), byte(step>>8), byte(len(k.Name)))
		b = append(b, k.Name...)
	}
	return b
}

// decodeByHand says P16.2's Decode by another hand: it goes through the bytes once, and asks each rule where it meets it.
func decodeByHand(b []byte) ([]api.Kid, api.Errno) {
	var l []api.Kid
	last, names := 0, maxRow // the row ahead: its first Ino, and how many names it has
	for len(b) > 0 {
		if len(b) < 6 {
			return nil, api.ErrForm
		}
		n := int(b[0]) | int(b[1])<<8
		first := int(b[2]) | int(b[3])<<8 | int(b[4])<<16 | int(b[5])<<24
		if n < 1 || n > maxRow || first > maxEntries || names < maxRow && first >= last {
			return nil, api.ErrForm
		}
		b = b[6:]
		for i := 0; i < n; i++ {
			if len(b) < 3 || len(b) < 3+int(b[2]) {
				return nil, api.ErrForm
			}
			step := int(b[0]) | int(b[1])<<8
			k := api.Kid{Name: string(b[3 : 3+int(b[2])]), Ino: first + step}
			if i == 0 && step != 0 || k.Ino > maxEntries || !validByHand(k.Name) {
				return nil, api.ErrForm
			}
			if len(l) > 0 && !behindByHand(k.Name, l[len(l)-1].Name) {
				return nil, api.ErrForm
			}
			l = append(l, k)
			b = b[3+len(k.Name):]
		}
		last, names = first, n
	}
	return l, api.OK
}

// kids is a list of names a0000, a0001 .. with these Inos.
func kids(inos ...int) []api.Kid {
	var l []api.Kid
	for i, ino := range inos {
		l = append(l, api.Kid{Name: fmt.Sprintf("a%04d", i), Ino: ino})
	}
	return l
}

// some is n numbers that f tells.
func some(n int, f func(i int) int) []int {
	var l []int
	for i := range n {
		l = append(l, f(i))
	}
	return l
}

// same is a list of n names that all have one Ino.
func same(n, ino int) []api.Kid {
	return kids(some(n, func(int) int { return ino })...)
}

// rising is a list of n names whose Inos are 0, 1 ..
func rising(n int) []api.Kid {
	return kids(some(n, func(i int) int { return i })...)
}

// falling is a list of n names whose Inos are n, n - 1 .. 1.
func falling(n int) []api.Kid {
	return kids(some(n, func(i int) int { return n - i })...)
}

// named is a list of these names, each with an Ino of its own.
func named(names ...string) []api.Kid {
	var l []api.Kid
	for i, s := range names {
		l = append(l, api.Kid{Name: s, Ino: i + 1})
	}
	return l
}

// someRight is right lists.
func someRight() [][]api.Kid {
	long := strings.Repeat("x", maxName)
	return [][]api.Kid{
		nil,
		{},
		{{Name: "a", Ino: 5}, {Name: "b", Ino: 7}, {Name: "c", Ino: 2}},
		kids(0), kids(maxEntries), kids(1, 1, 1), kids(5, 4, 3, 2, 1, 0), kids(0, 1, 2, 3),
		kids(0, maxEntries, 0, maxEntries), kids(maxEntries, 0, maxEntries, 0), kids(3, 9, 3, 2, 9, 2, 1),
		kids(1, maxEntries, 1, 0, maxEntries), kids(255, 256, 511, 512, 254, 255), kids(256, 255, 65, 257),
		named("\x01", "!", "...", "..a", ".a", "a", "a\x01", "a.", "aa", "ä", "\xff", "\xff\xff"),
		named("a", "a ", "a a", long[:maxName-1], long),
		{{Name: strings.Repeat("\xff", maxName), Ino: 0}},
		{{Name: strings.Repeat("\x01", maxName), Ino: maxEntries}, {Name: "b", Ino: 0}},
		rising(255), rising(256), rising(257), rising(512), rising(513), rising(1000),
		same(255, 7), same(256, 7), same(257, 7), same(513, 0), same(600, maxEntries),
		falling(2), falling(256), falling(257), falling(1000),
	}
}

// short tells of a list what a message has room for.
func short(l []api.Kid) string {
	return fmt.Sprintf("%.40v (%d names)", l[:min(len(l), 12)], len(l))
}

// isRight asks whether the program takes a list, tells its bytes, and the list of them again.
func isRight(t *testing.T, l []api.Kid) {
	t.Helper()
	want := encodeByHand(l)
	if checkByHand(l) != api.OK {
		t.Fatalf("the test is wrong: %s", short(l))
	}
	if e := dirent.Check(l); e != api.OK {
		t.Errorf("%s: Check says %d", short(l), e)
	}
	b, e := dirent.Encode(l)
	if e != api.OK || !bytes.Equal(b, want) {
		t.Errorf("%s: %d, %x, not %x", short(l), e, b[:min(len(b), 80)], want[:min(len(want), 80)])
	}
	if m, e := dirent.Decode(want); e != api.OK || !slices.Equal(m, l) {
		t.Errorf("%s: %d, its bytes tell %s", short(l), e, short(m))
	}
}

// isWrong asks whether the program refuses a list, and the bytes that would tell it in one row.
func isWrong(t *testing.T, l []api.Kid) {
	t.Helper()
	if checkByHand(l) != api.ErrArg {
		t.Fatalf("the test is wrong: %s", short(l))
	}
	if e := dirent.Check(l); e != api.ErrArg {
		t.Errorf("%s: Check says %d", short(l), e)
	}
	if b, e := dirent.Encode(l); e != api.ErrArg || len(b) != 0 {
		t.Errorf("%s: Encode says %d, %d bytes", short(l), e, len(b))
	}
	isDecoded(t, lay(l[0].Ino, l...))
}

// isDecoded asks whether the program tells of bytes what the second hand tells.
func isDecoded(t *testing.T, b []byte) api.Errno {
	t.Helper()
	want, wantE := decodeByHand(b)
	l, e := dirent.Decode(b)
	if e != wantE || !slices.Equal(l, want) {
		t.Errorf("%d bytes, %x..: %d %s, not %d %s", len(b), b[:min(len(b), 80)], e, short(l), wantE, short(want))
	}
	return e
}

// isForm asks whether bytes are refused.
func isForm(t *testing.T, what string, b []byte) {
	t.Helper()
	if _, e := decodeByHand(b); e != api.ErrForm {
		t.Fatalf("the test is wrong: %s", what)
	}
	if l, e := dirent.Decode(b); e != api.ErrForm || len(l) != 0 {
		t.Errorf("%s: %d, %s", what, e, short(l))
	}
}

// overwrite changes all bytes of b, spare room included.
func overwrite(b []byte) {
	b = b[:cap(b)]
	for i := range b {
		b[i] ^= 0x5a
	}
}

// overwriteKids changes all names of l, spare room included.
func overwriteKids(l []api.Kid) {
	l = l[:cap(l)]
	for i := range l {
		l[i] = api.Kid{Name: "changed", Ino: -7}
	}
}
