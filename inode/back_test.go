package inode_test

import (
	"math/rand"
	"strings"
	"testing"

	"portmanteau/api"
	"portmanteau/inode"
)

// P15.5

// isBack asks whether an inode comes back, with next behind it, wherever it lies.
func isBack(t *testing.T, n api.Inode) {
	t.Helper()
	b, e := inode.Encode(n)
	if e != api.OK || len(b) != inode.Size(n) {
		t.Fatalf("%s: %d, %d bytes", short(n), e, len(b))
	}
	for _, before := range []int{0, 1, 17} {
		for _, behind := range []int{0, 1, 50} {
			all := append(append(make([]byte, before), b...), make([]byte, behind)...)
			back, next, e := inode.Decode(all, before)
			if e != api.OK || next != before+len(b) || !same(back, n) {
				t.Fatalf("%s behind %d bytes: %s %d %d", short(n), before, short(back), next, e)
			}
		}
	}
}

func TestEncodedIsDecoded(t *testing.T) {
	for _, n := range someRight() {
		isBack(t, n)
	}
	for _, kind := range kinds() {
		for _, f := range numbers() {
			for bit := 0; f.asked(kind) && 1<<bit <= f.most; bit++ {
				n := sample(kind)
				*f.at(&n) = 1 << bit
				isBack(t, n)
			}
		}
	}
}

// rightByChance is an inode of a kind whose fields are anything that they may be.
func rightByChance(random *rand.Rand, kind int) api.Inode {
	n := api.Inode{Kind: kind}
	for _, f := range numbers() {
		if f.asked(kind) {
			*f.at(&n) = f.least + random.Intn(f.most-f.least+1)>>random.Intn(40)
		}
	}
	switch kind {
	case file:
		for range random.Intn(20) {
			n.Words = append(n.Words, random.Intn(word+1))
		}
		if n.Frag == -1 {
			n.Off, n.Tail = 0, 0
		} else {
			n.Tail = max(n.Tail, 1)
		}
	case link:
		for range 1 + random.Intn(30) {
			n.Target += string(rune(1 + random.Intn(1000)))
		}
	}
	return n
}

func TestAnyEncodedIsDecoded(t *testing.T) {
	random := rand.New(rand.NewSource(155))
	var all []byte
	var l []api.Inode
	for range 1000 {
		for _, kind := range kinds() {
			n := rightByChance(random, kind)
			isRight(t, n)
			isBack(t, n)
			b, _ := inode.Encode(n)
			all, l = append(all, b...), append(l, n)
		}
	}
	at := 0
	for _, want := range l {
		n, next, e := inode.Decode(all, at)
		if e != api.OK || next != at+inode.Size(want) || !same(n, want) {
			t.Fatalf("at %d: %s %d %d, not %s", at, short(n), next, e, short(want))
		}
		at = next
	}
	if at != len(all) {
		t.Errorf("the end is %d, not %d", at, len(all))
	}
}

// TestDecodedIsEncoded leads from bytes back to them: an inode has its bytes in one way alone.
func TestDecodedIsEncoded(t *testing.T) {
	random := rand.New(rand.NewSource(156))
	inodes := 0
	for range 20000 {
		b := lay(sample(1 + random.Intn(5)))
		for range random.Intn(4) {
			b[random.Intn(len(b))] = []byte{0, 1, 255, byte(random.Intn(256))}[random.Intn(4)]
		}
		n, next, e := inode.Decode(b, 0)
		if e != api.OK {
			continue
		}
		inodes++
		again, e := inode.Encode(n)
		if e != api.OK || string(again) != string(b[:next]) {
			t.Fatalf("%x: %x %d", b, again, e)
		}
	}
	if inodes < 1000 {
		t.Error("inodes came too seldom:", inodes)
	}
}

// TestSameAnswerAgain asks twice, with others between: what a call answers hangs on its arguments alone.
func TestSameAnswerAgain(t *testing.T) {
	l := append(someRight(), api.Inode{}, api.Inode{Kind: link, Links: 1, Target: strings.Repeat("x", maxPath+1)})
	type answer struct {
		check, e, plain api.Errno
		size, k         int
		b               string
	}
	ask := func(n api.Inode) answer {
		b, e := inode.Encode(n)
		k, plain := inode.Plain(n, 13, 0)
		return answer{inode.Check(n), e, plain, inode.Size(n), k, string(b)}
	}
	var first []answer
	for _, n := range l {
		first = append(first, ask(n))
	}
	for i := len(l) - 1; i >= 0; i-- {
		if ask(l[i]) != first[i] {
			t.Errorf("%s: another answer", short(l[i]))
		}
	}
}
