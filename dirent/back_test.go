package dirent_test

import (
	"bytes"
	"fmt"
	"math/rand"
	"slices"
	"testing"

	"portmanteau/api"
	"portmanteau/dirent"
)

// P16.3

// isBack asks whether a list comes back.
func isBack(t *testing.T, l []api.Kid) {
	t.Helper()
	b, e := dirent.Encode(l)
	if e != api.OK {
		t.Fatalf("%s: %d", short(l), e)
	}
	if m, e := dirent.Decode(b); e != api.OK || !slices.Equal(m, l) {
		t.Fatalf("%s: %d, %s", short(l), e, short(m))
	}
}

func TestEncodedIsDecoded(t *testing.T) {
	for _, l := range someRight() {
		isBack(t, l)
	}
	for n := 1; n < 1100; n += 1 + n/40*7 {
		isBack(t, rising(n))
		isBack(t, falling(n))
		isBack(t, same(n, n))
	}
}

func TestAnyEncodedIsDecoded(t *testing.T) {
	random := rand.New(rand.NewSource(165))
	for range 3000 {
		n, most := random.Intn(20), 1+random.Intn(maxEntries+1)>>random.Intn(15)
		if random.Intn(10) == 0 {
			n = random.Intn(600)
		}
		least := random.Intn(maxEntries + 1 - most + 1)
		isBack(t, kids(some(n, func(int) int { return least + random.Intn(most) })...))
	}
	for range 5000 {
		if l := anyList(random); checkByHand(l) == api.OK {
			isBack(t, l)
		}
	}
}

// TestDecodedIsEncoded leads from bytes back to them: a list has its bytes in one way alone.
func TestDecodedIsEncoded(t *testing.T) {
	random := rand.New(rand.NewSource(166))
	lists := 0
	for range 20000 {
		b := anyBytes(random)
		l, e := dirent.Decode(b)
		if e != api.OK {
			continue
		}
		lists++
		again, e := dirent.Encode(l)
		if e != api.OK || !bytes.Equal(again, b) {
			t.Fatalf("%x: %x %d", b, again, e)
		}
	}
	if lists < 1000 {
		t.Error("lists came too seldom:", lists)
	}
}

// TestDecodedIsFound looks for all names of a list that came from bytes.
func TestDecodedIsFound(t *testing.T) {
	for _, want := range someRight() {
		l, _ := dirent.Decode(encodeByHand(want))
		for i, k := range want {
			if i < 300 {
				isFound(t, l, k.Name, k.Ino)
			}
		}
	}
}

// TestSameAnswerAgain asks twice, with others between: what a call answers hangs on its arguments alone.
func TestSameAnswerAgain(t *testing.T) {
	lists := append(someRight(), named("b", "a"), kids(-1), named("a", "a"))
	ask := func(l []api.Kid) string {
		b, e := dirent.Encode(l)
		m, e2 := dirent.Decode(encodeByHand(l))
		ino, ok := dirent.Find(l, "a0001")
		return fmt.Sprint(dirent.Check(l), b, e, m, e2, ino, ok)
	}
	var first []string
	for _, l := range lists {
		first = append(first, ask(l))
	}
	for i := len(lists) - 1; i >= 0; i-- {
		if ask(lists[i]) != first[i] {
			t.Errorf("%s: another answer", short(lists[i]))
		}
	}
}
