package table_test

import (
	"bytes"
	"fmt"
	"slices"
	"strings"
	"testing"

	"portmanteau/api"
	"portmanteau/table"
)

// The numbers of the chapter, written out, so that no test goes by the program's own.
const (
	maxRows  = 65536
	maxWord  = 4294967295
	maxAttrs = 64
	maxName  = 255
	maxValue = 4096
	maxImage = 8388608
	maxBlock = 1048576
)

// le is a number in so many bytes, the lowest first.
func le(n, width int) []byte {
	var b []byte
	for range width {
		b = append(b, byte(n))
		n >>= 8
	}
	return b
}

// un is the number that these bytes tell.
func un(b []byte) int {
	n := 0
	for i := len(b) - 1; i >= 0; i-- {
		n = n*256 + int(b[i])
	}
	return n
}

// idsByHand says which lists of ids there are by another hand than the program's: each pair of neighbours is held against each other.
func idsByHand(l []int) bool {
	for i, id := range l {
		if id < 0 || id > maxWord || i > 0 && l[i-1] >= id {
			return false
		}
	}
	return len(l) <= maxRows
}

// idBytes is each number as 4 bytes, whether there may be such a list or not.
func idBytes(l []int) []byte {
	var b []byte
	for _, id := range l {
		b = append(b, le(id, 4)...)
	}
	return b
}

// behindByHand says whether b stands behind a, byte by byte.
func behindByHand(b, a string) bool {
	for i := 0; i < len(b); i++ {
		if i == len(a) || b[i] > a[i] {
			return true
		}
		if b[i] < a[i] {
			return false
		}
	}
	return false
}

// attrsByHand says which sets there are by another hand.
func attrsByHand(l []api.Attr) bool {
	for i, a := range l {
		if len(a.Name) < 1 || len(a.Name) > maxName || strings.IndexByte(a.Name, 0) >= 0 || len(a.Value) > maxValue {
			return false
		}
		if i > 0 && !behindByHand(a.Name, l[i-1].Name) {
			return false
		}
	}
	return len(l) >= 1 && len(l) <= maxAttrs
}

// setBytes is a set's bytes with this count, whether there may be such a set or not.
func setBytes(count int, l []api.Attr) []byte {
	b := le(count, 2)
	for _, a := range l {
		b = append(b, le(len(a.Name), 1)...)
		b = append(b, a.Name...)
		b = append(b, le(len(a.Value), 2)...)
		b = append(b, a.Value...)
	}
	return b
}

// setByHand reads a set by another hand: each rule is asked where it is met.
func setByHand(b []byte) (l []api.Attr, size int, ok bool) {
	if len(b) < 2 {
		return nil, 0, false
	}
	n, at := un(b[:2]), 2
	if n < 1 || n > 64 {
		return nil, 0, false
	}
	for i := range n {
		if len(b) < at+1 || b[at] == 0 || len(b) < at+1+int(b[at])+2 {
			return nil, 0, false
		}
		name := string(b[at+1 : at+1+int(b[at])])
		at += 1 + len(name)
		long := un(b[at : at+2])
		at += 2
		if long > 4096 || len(b) < at+long || bytes.IndexByte([]byte(name), 0) >= 0 || i > 0 && !behindByHand(name, l[i-1].Name) {
			return nil, 0, false
		}
		l = append(l, api.Attr{Name: name, Value: b[at : at+long]})
		at += long
	}
	return l, at, true
}

// fragsByHand says which lists of fragments there are by another hand.
func fragsByHand(l []api.Frag) bool {
	for _, f := range l {
		if f.At < 0 || f.At > maxImage || f.Word < 1 || f.Word > maxWord || f.Plain < 1 || f.Plain > maxBlock {
			return false
		}
	}
	return len(l) <= maxRows
}

// fragBytes is each fragment's three numbers, whether there may be such a list or not.
func fragBytes(l []api.Frag) []byte {
	var b []byte
	for _, f := range l {
		b = append(b, le(f.At, 4)...)
		b = append(b, le(f.Word, 4)...)
		b = append(b, le(f.Plain, 4)...)
	}
	return b
}

// sameSet says whether two sets are alike, nil and empty Values too.
func sameSet(a, b []api.Attr) bool {
	return slices.EqualFunc(a, b, func(x, y api.Attr) bool { return x.Name == y.Name && bytes.Equal(x.Value, y.Value) })
}

// short tells of something what a message has room for.
func short(x any) string {
	s := fmt.Sprint(x)
	if len(s) > 120 {
		return fmt.Sprintf("%s.. (%d letters)", s[:120], len(s))
	}
	return s
}

// rightIds asks whether the program tells a list of ids as its bytes, and its bytes as the list.
func rightIds(t *testing.T, l []int) {
	t.Helper()
	if !idsByHand(l) {
		t.Fatal("the test is wrong:", short(l))
	}
	want := idBytes(l)
	if b, e := table.EncodeIds(l); e != api.OK || !bytes.Equal(b, want) {
		t.Error(short(l), e, short(b))
	}
	if m, e := table.DecodeIds(want); e != api.OK || !slices.Equal(m, l) {
		t.Error(short(l), e, short(m))
	}
}

// wrongIds asks whether the program refuses a list of ids, and the bytes that would tell it if all its numbers have room there.
func wrongIds(t *testing.T, l []int) {
	t.Helper()
	if idsByHand(l) {
		t.Fatal("the test is wrong:", short(l))
	}
	if b, e := table.EncodeIds(l); e != api.ErrArg || len(b) != 0 {
		t.Error(short(l), e, short(b))
	}
	for _, id := range l {
		if id < 0 || id > maxWord {
			return
		}
	}
	formIds(t, idBytes(l))
}

// formIds asks whether bytes are refused as ids.
func formIds(t *testing.T, b []byte) {
	t.Helper()
	if l, e := table.DecodeIds(b); e != api.ErrForm || len(l) != 0 {
		t.Error(short(b), e, short(l))
	}
}

// rightSet asks whether the program tells a set as its bytes, and these as the set wherever they lie.
func rightSet(t *testing.T, l []api.Attr) {
	t.Helper()
	if !attrsByHand(l) {
		t.Fatal("the test is wrong:", short(l))
	}
	want := setBytes(len(l), l)
	if b, e := table.EncodeAttrs(l); e != api.OK || !bytes.Equal(b, want) {
		t.Error(short(l), e, short(b))
	}
	for _, around := range [][2]string{{"", ""}, {"\x01", ""}, {"", "\x00"}, {"ahead", "behind"}} {
		all := slices.Concat([]byte(around[0]), want, []byte(around[1]))
		at := len(around[0])
		if m, next, e := table.DecodeAttrs(all, at); e != api.OK || next != at+len(want) || !sameSet(m, l) {
			t.Error(short(l), e, next, short(m))
		}
	}
}

// wrongSet asks whether the program refuses a set, and the bytes that would tell it if its counts have room there.
func wrongSet(t *testing.T, l []api.Attr) {
	t.Helper()
	if attrsByHand(l) {
		t.Fatal("the test is wrong:", short(l))
	}
	if b, e := table.EncodeAttrs(l); e != api.ErrArg || len(b) != 0 {
		t.Error(short(l), e, short(b))
	}
	for _, a := range l {
		if len(a.Name) > 255 || len(a.Value) > 65535 {
			return
		}
	}
	if len(l) < 65536 {
		formSet(t, setBytes(len(l), l), 0)
	}
}

// formSet asks whether bytes are refused as a set from a place on.
func formSet(t *testing.T, b []byte, at int) {
	t.Helper()
	if _, _, ok := setByHand(b[at:]); ok {
		t.Fatal("the test is wrong:", short(b), at)
	}
	if l, next, e := table.DecodeAttrs(b, at); e != api.ErrForm || next != 0 || len(l) != 0 {
		t.Error(short(b), at, e, next, short(l))
	}
}

// isSet asks whether the program tells of bytes what the second hand tells.
func isSet(t *testing.T, b []byte, at int) bool {
	t.Helper()
	want, size, ok := setByHand(b[at:])
	if !ok {
		formSet(t, b, at)
		return false
	}
	if l, next, e := table.DecodeAttrs(b, at); e != api.OK || next != at+size || !sameSet(l, want) {
		t.Error(short(b), at, e, next, short(l))
	}
	return true
}

// rightFrags asks whether the program tells a list of fragments as its bytes, and its bytes as the list.
func rightFrags(t *testing.T, l []api.Frag) {
	t.Helper()
	if !fragsByHand(l) {
		t.Fatal("the test is wrong:", short(l))
	}
	want := fragBytes(l)
	if b, e := table.EncodeFrags(l); e != api.OK || !bytes.Equal(b, want) {
		t.Error(short(l), e, short(b))
	}
	if m, e := table.DecodeFrags(want); e != api.OK || !slices.Equal(m, l) {
		t.Error(short(l), e, short(m))
	}
}

// wrongFrags asks whether the program refuses a list of fragments, and the bytes that would tell it if all its numbers have room there.
func wrongFrags(t *testing.T, l []api.Frag) {
	t.Helper()
	if fragsByHand(l) {
		t.Fatal("the test is wrong:", short(l))
	}
	if b, e := table.EncodeFrags(l); e != api.ErrArg || len(b) != 0 {
		t.Error(short(l), e, short(b))
	}
	for _, f := range l {
		if min(f.At, f.Word, f.Plain) < 0 || max(f.At, f.Word, f.Plain) > maxWord {
			return
		}
	}
	formFrags(t, fragBytes(l))
}

// formFrags asks whether bytes are refused as fragments.
func formFrags(t *testing.T, b []byte) {
	t.Helper()
	if l, e := table.DecodeFrags(b); e != api.ErrForm || len(l) != 0 {
		t.Error(short(b), e, short(l))
	}
}

// rising is n numbers from a first one on, each above the one ahead of it by step.
func rising(n, first, step int) []int {
	var l []int
	for i := range n {
		l = append(l, first+i*step)
	}
	return l
}

// set is attributes of these Names, each with a Value of its own.
func set(names ...string) []api.Attr {
	var l []api.Attr
	for i, s := range names {
		l = append(l, api.Attr{Name: s, Value: []byte(fmt.Sprint("v", i))})
	}
	return l
}

// numbered is a set of n attributes of Names k00, k01 ..
func numbered(n int) []api.Attr {
	var l []string
	for i := range n {
		l = append(l, fmt.Sprintf("k%02d", i))
	}
	return set(l...)
}

// full is the longest set: as many attributes as may be, of the longest Names and Values.
func full() []api.Attr {
	var l []api.Attr
	for i := range maxAttrs {
		l = append(l, api.Attr{Name: fmt.Sprintf("%02d", i) + strings.Repeat("x", maxName-2), Value: bytes.Repeat([]byte{byte(i)}, maxValue)})
	}
	return l
}

// frags is n fragments that are all unlike.
func frags(n int) []api.Frag {
	var l []api.Frag
	for i := range n {
		l = append(l, api.Frag{At: i * 128 % (maxImage + 1), Word: 1 + i*65537%maxWord, Plain: 1 + i*7919%maxBlock})
	}
	return l
}

// someIds, someSets, someFrags are right lists.
func someIds() [][]int {
	return [][]int{
		nil, {}, {0}, {1}, {5}, {maxWord}, {0, maxWord}, {0, 1}, {0, 5}, {0, 258}, {maxWord - 1, maxWord}, {1 << 31, 1<<31 + 1},
		{0, 1, 255, 256, 257, 65535, 65536, 1<<24 - 1, 1 << 24, 1<<31 - 1, 1 << 31, maxWord}, rising(300, 0, 1), rising(1000, 1000, 65537),
	}
}

func someSets() [][]api.Attr {
	long := strings.Repeat("x", maxName)
	return [][]api.Attr{
		{{Name: "k", Value: []byte("v")}},
		{{Name: "k"}}, {{Name: "k", Value: []byte{}}}, {{Name: "k", Value: []byte{0}}}, {{Name: "k", Value: make([]byte, maxValue)}},
		{{Name: long}}, {{Name: long, Value: bytes.Repeat([]byte{255}, maxValue)}}, {{Name: "\x01"}}, {{Name: "\xff"}},
		{{Name: "k", Value: []byte("v")}, {Name: "l"}}, {{Name: "a"}, {Name: "b"}, {Name: "c"}},
		set("a", "aa", "b"), set("user.a", "user.a.b", "user.b"), set("...", "/", "a/b"), set("\x01", "a", "a\x01", "\xff", "\xff\xff"),
		set(long[:maxName-1], long), set(".", ".."), numbered(2), numbered(63), numbered(maxAttrs), full(),
	}
}

func someFrags() [][]api.Frag {
	return [][]api.Frag{
		nil, {}, {{At: 68, Word: 100, Plain: 300}}, {{At: 0, Word: 1, Plain: 1}}, {{At: maxImage, Word: maxWord, Plain: maxBlock}},
		{{At: 0, Word: 1, Plain: 1}, {At: 0, Word: 1, Plain: 1}}, {{At: 9, Word: 8, Plain: 7}, {At: 3, Word: 2, Plain: 1}}, frags(2), frags(257), frags(1000),
	}
}

// overwrite changes all bytes of b, spare room included.
func overwrite(b []byte) {
	b = b[:cap(b)]
	for i := range b {
		b[i] ^= 0x5a
	}
}
