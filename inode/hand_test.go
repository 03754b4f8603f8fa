package inode_test

import (
	"bytes"
	"encoding/binary"
	"fmt"
	"math"
	"slices"
	"strings"
	"testing"

	"portmanteau/api"
	"portmanteau/inode"
)

// The numbers of the chapter, written out, so that no test goes by the program's own.
const (
	file, folder, link, block, char, hard = 1, 2, 3, 4, 5, 6

	word      = 1<<32 - 1
	maxWords  = 65536
	maxFile   = 1 << 40
	maxPath   = 4096
	maxStream = 16777216
	maxImage  = 8388608
	maxEntry  = 16384
	maxBlock  = 1048576
	minLog    = 12
	maxLog    = 20
)

// number is a field of an inode that is a number: what it may be, and of which kinds it is asked (none told: of all).
type number struct {
	name        string
	at          func(n *api.Inode) *int
	least, most int
	kinds       []int
}

// numbers is all of them but Kind, in the chapter's order.
func numbers() []number {
	files, folders, devices := []int{file}, []int{folder}, []int{block, char}
	return []number{
		{"Mode", func(n *api.Inode) *int { return &n.Mode }, 0, 4095, nil},
		{"Time", func(n *api.Inode) *int { return &n.Time }, 0, word, nil},
		{"Uid", func(n *api.Inode) *int { return &n.Uid }, 0, 65535, nil},
		{"Gid", func(n *api.Inode) *int { return &n.Gid }, 0, 65535, nil},
		{"Links", func(n *api.Inode) *int { return &n.Links }, 1, word, nil},
		{"Attrs", func(n *api.Inode) *int { return &n.Attrs }, -1, maxStream, nil},
		{"Size", func(n *api.Inode) *int { return &n.Size }, 0, maxFile - 1, files},
		{"Start", func(n *api.Inode) *int { return &n.Start }, 0, maxImage, files},
		{"Frag", func(n *api.Inode) *int { return &n.Frag }, -1, 65535, files},
		{"Off", func(n *api.Inode) *int { return &n.Off }, 0, maxBlock - 1, files},
		{"Tail", func(n *api.Inode) *int { return &n.Tail }, 0, maxBlock - 1, files},
		{"Dir", func(n *api.Inode) *int { return &n.Dir }, 0, maxStream, folders},
		{"Bytes", func(n *api.Inode) *int { return &n.Bytes }, 0, maxStream, folders},
		{"Parent", func(n *api.Inode) *int { return &n.Parent }, 0, maxEntry, folders},
		{"Dev", func(n *api.Inode) *int { return &n.Dev }, 0, word, devices},
	}
}

// asked says whether a number is asked of a kind.
func (f number) asked(kind int) bool {
	return f.kinds == nil || slices.Contains(f.kinds, kind)
}

// checkByHand says P15.1 by another hand than the program's: it goes by the numbers' list.
func checkByHand(n api.Inode) api.Errno {
	if n.Kind < file || n.Kind > char {
		return api.ErrKind
	}
	for _, f := range numbers() {
		x := *f.at(&n)
		if !f.asked(n.Kind) && x != 0 || f.asked(n.Kind) && (x < f.least || x > f.most) {
			return api.ErrArg
		}
	}
	if n.Kind == file && (n.Frag == -1 && (n.Off != 0 || n.Tail != 0) || n.Frag != -1 && n.Tail == 0) {
		return api.ErrArg
	}
	if n.Kind != file && len(n.Words) > 0 || len(n.Words) > maxWords {
		return api.ErrArg
	}
	for _, w := range n.Words {
		if w < 0 || w > word {
			return api.ErrArg
		}
	}
	leads := n.Target != "" && len(n.Target) <= maxPath && bytes.IndexByte([]byte(n.Target), 0) < 0
	if n.Kind == link && !leads || n.Kind != link && n.Target != "" {
		return api.ErrArg
	}
	return api.OK
}

// lay is an inode's bytes by another hand than the program's, whether it is right or not.
func lay(n api.Inode) []byte {
	order := binary.LittleEndian
	b := []byte{byte(n.Kind), 0}
	for _, x := range []int{n.Mode, n.Uid, n.Gid} {
		b = order.AppendUint16(b, uint16(x))
	}
	for _, x := range []int{n.Time, n.Links, n.Attrs} {
		b = order.AppendUint32(b, uint32(x))
	}
	var four []int
	switch n.Kind {
	case file:
		b = order.AppendUint64(b, uint64(n.Size))
		four = append([]int{n.Start, n.Frag, n.Off, n.Tail, len(n.Words)}, n.Words...)
	case folder:
		four = []int{n.Dir, n.Bytes, n.Parent}
	case link:
		b = append(order.AppendUint16(b, uint16(len(n.Target))), n.Target...)
	case block, char:
		four = []int{n.Dev}
	}
	for _, x := range four {
		b = order.AppendUint32(b, uint32(x))
	}
	return b
}

// orNone is a number of 4 bytes of which ffffffff is -1.
func orNone(b []byte) int {
	x := binary.LittleEndian.Uint32(b)
	if x == math.MaxUint32 {
		return -1
	}
	return int(x)
}

// decodeByHand says P15.3 by another hand than the program's.
func decodeByHand(all []byte, at int) (api.Inode, int, api.Errno) {
	if at < 0 || at > len(all) {
		return api.Inode{}, 0, api.ErrRange
	}
	b := all[at:]
	if n, size := fieldsByHand(b); size > 0 && b[1] == 0 && checkByHand(n) == api.OK {
		return n, at + size, api.OK
	}
	return api.Inode{}, 0, api.ErrForm
}

// fieldsByHand is what bytes tell, right or not, and how many they are; 0, if they end too early or are of no kind.
func fieldsByHand(b []byte) (n api.Inode, size int) {
	order := binary.LittleEndian
	if len(b) < 22 {
		return n, 0
	}
	two := func(at int) int { return int(order.Uint16(b[at:])) }
	four := func(at int) int { return int(order.Uint32(b[at:])) }
	n = api.Inode{Kind: int(b[0]), Mode: two(2), Uid: two(4), Gid: two(6), Time: four(8), Links: four(12), Attrs: orNone(b[16:])}
	switch {
	case n.Kind == file && len(b) >= 48:
		n.Size, n.Start, n.Frag, n.Off, n.Tail = int(order.Uint64(b[20:])), four(28), orNone(b[32:]), four(36), four(40)
		for at := 48; at < 48+4*four(44); at += 4 {
			if at+4 > len(b) {
				return n, 0
			}
			n.Words = append(n.Words, four(at))
		}
		return n, 48 + 4*four(44)
	case n.Kind == folder && len(b) >= 32:
		n.Dir, n.Bytes, n.Parent = four(20), four(24), four(28)
		return n, 32
	case n.Kind == link && len(b) >= 22+two(20):
		n.Target = string(b[22 : 22+two(20)])
		return n, 22 + two(20)
	case (n.Kind == block || n.Kind == char) && len(b) >= 24:
		n.Dev = four(20)
		return n, 24
	}
	return n, 0
}

// same says whether two inodes are, field by field; nil and empty Words are alike.
func same(a, b api.Inode) bool {
	for _, f := range numbers() {
		if *f.at(&a) != *f.at(&b) {
			return false
		}
	}
	return a.Kind == b.Kind && a.Target == b.Target && slices.Equal(a.Words, b.Words)
}

// sample is a right inode of a kind; all fields that are asked of it are unlike one another, and unlike 0.
func sample(kind int) api.Inode {
	n := api.Inode{Kind: kind, Mode: 0o644, Uid: 0x1234, Gid: 0x2345, Time: 0x3456789a, Links: 0x456789, Attrs: 0x56789a}
	switch kind {
	case file:
		n.Size, n.Start, n.Words = 0x6789abcdef, 0x789abc, []int{0x89abcdef, 0, 0x9abcdef0}
		n.Frag, n.Off, n.Tail = 0xabcd, 0xbcdef, 0xcdef0
	case folder:
		n.Dir, n.Bytes, n.Parent = 0x789abc, 0x89abcd, 0x1abc
	case link:
		n.Target = "to/there"
	case block, char:
		n.Dev = 0x89abcdef
	}
	return n
}

// least is a right inode of a kind whose numbers are as small as they may be.
func least(kind int) api.Inode {
	n := api.Inode{Kind: kind, Links: 1, Attrs: -1}
	switch kind {
	case file:
		n.Frag = -1
	case link:
		n.Target = "\x01"
	}
	return n
}

// most is a right inode of a kind whose numbers are as great as they may be.
func most(kind int) api.Inode {
	n := api.Inode{Kind: kind}
	for _, f := range numbers() {
		if f.asked(kind) {
			*f.at(&n) = f.most
		}
	}
	switch kind {
	case file:
		n.Words = slices.Repeat([]int{word}, maxWords)
	case link:
		n.Target = strings.Repeat("\xff", maxPath)
	}
	return n
}

// kinds is the five.
func kinds() []int {
	return []int{file, folder, link, block, char}
}

// someRight is right inodes of each kind.
func someRight() []api.Inode {
	var l []api.Inode
	for _, kind := range kinds() {
		l = append(l, sample(kind), least(kind), most(kind))
	}
	noFragment := sample(file)
	noFragment.Frag, noFragment.Off, noFragment.Tail = -1, 0, 0
	noWords := sample(file)
	noWords.Words = nil
	noAttrs := sample(folder)
	noAttrs.Attrs = -1
	return append(l, noFragment, noWords, noAttrs)
}

// short tells of an inode what a message has room for.
func short(n api.Inode) string {
	words, target := len(n.Words), len(n.Target)
	n.Words, n.Target = n.Words[:min(words, 4)], n.Target[:min(target, 20)]
	return fmt.Sprintf("%+v (%d words, %d bytes of Target)", n, words, target)
}

// isRight asks whether the program takes n, wherever that is told.
func isRight(t *testing.T, n api.Inode) {
	t.Helper()
	want := lay(n)
	if checkByHand(n) != api.OK {
		t.Fatalf("the test is wrong: %s", short(n))
	}
	if e := inode.Check(n); e != api.OK {
		t.Errorf("%s: Check says %d", short(n), e)
	}
	b, e := inode.Encode(n)
	if e != api.OK || !bytes.Equal(b, want) {
		t.Errorf("%s: %d, %x, not %x", short(n), e, b[:min(len(b), 80)], want[:min(len(want), 80)])
	}
	if size := inode.Size(n); size != len(want) {
		t.Errorf("%s: Size is %d, not %d", short(n), size, len(want))
	}
	isDecoded(t, want, 0)
}

// isWrong asks whether the program refuses n by an error, wherever that is told, and n's bytes too, if they tell it.
func isWrong(t *testing.T, n api.Inode, want api.Errno) {
	t.Helper()
	if checkByHand(n) != want {
		t.Fatalf("the test is wrong: %s", short(n))
	}
	if e := inode.Check(n); e != want {
		t.Errorf("%s: Check says %d, not %d", short(n), e, want)
	}
	if b, e := inode.Encode(n); e != want || len(b) != 0 {
		t.Errorf("%s: Encode says %d, %d bytes, not %d", short(n), e, len(b), want)
	}
	if size := inode.Size(n); size != 0 {
		t.Errorf("%s: Size is %d", short(n), size)
	}
	for _, log := range []int{minLog, maxLog} {
		noPlain(t, n, log, 0, api.ErrArg)
	}
	isDecoded(t, lay(n), 0)
}

// isDecoded asks whether the program tells of bytes what the second hand tells.
func isDecoded(t *testing.T, b []byte, at int) {
	t.Helper()
	n, next, e := inode.Decode(b, at)
	wantN, wantNext, want := decodeByHand(b, at)
	if e != want || next != wantNext || !same(n, wantN) {
		t.Errorf("at %d of %d bytes, %x..: %s %d %d, not %s %d %d", at, len(b), b[:min(len(b), 80)], short(n), next, e, short(wantN), wantNext, want)
	}
}

// isForm asks whether bytes are refused.
func isForm(t *testing.T, what string, b []byte, at int) {
	t.Helper()
	isNone(t, what, b, at, api.ErrForm)
}

// isNone asks whether there is an error, and nothing beside it.
func isNone(t *testing.T, what string, b []byte, at int, want api.Errno) {
	t.Helper()
	if n, next, e := inode.Decode(b, at); e != want || next != 0 || !same(n, api.Inode{}) {
		t.Errorf("%s, at %d: %s %d %d, not error %d", what, at, short(n), next, e, want)
	}
}

// isPlain asks how much a block tells.
func isPlain(t *testing.T, n api.Inode, log, i, want int) {
	t.Helper()
	if k, e := inode.Plain(n, log, i); k != want || e != api.OK {
		t.Errorf("%s, log %d, block %d: %d %d, not %d", short(n), log, i, k, e, want)
	}
}

// noPlain asks whether a block is refused.
func noPlain(t *testing.T, n api.Inode, log, i int, want api.Errno) {
	t.Helper()
	if k, e := inode.Plain(n, log, i); k != 0 || e != want {
		t.Errorf("%s, log %d, block %d: %d %d, not error %d", short(n), log, i, k, e, want)
	}
}
