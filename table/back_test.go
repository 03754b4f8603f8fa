package table_test

import (
	"bytes"
	"fmt"
	"math/rand"
	"slices"
	"testing"

	"portmanteau/api"
	"portmanteau/table"
)

// P17.4

func TestIdsComeBack(t *testing.T) {
	random := rand.New(rand.NewSource(175))
	for range 3000 {
		var l []int
		most := 1 + random.Intn(maxWord)>>random.Intn(32)
		for range random.Intn(50) {
			l = append(l, random.Intn(most+1))
		}
		l = table.Ids(l)
		b, e := table.EncodeIds(l)
		m, e2 := table.DecodeIds(b)
		if e != api.OK || e2 != api.OK || !slices.Equal(m, l) {
			t.Fatal(l, e, e2, m)
		}
		for i, id := range l {
			isPlace(t, m, id, i, true)
		}
	}
}

func TestSetsComeBack(t *testing.T) {
	random := rand.New(rand.NewSource(176))
	for range 5000 {
		l := anySet(random)
		b, e := table.EncodeAttrs(l)
		if e != api.OK {
			continue
		}
		for i := range l {
			random.Read(l[i].Value)
		}
		b, _ = table.EncodeAttrs(l)
		if m, next, e := table.DecodeAttrs(b, 0); e != api.OK || next != len(b) || !sameSet(m, l) {
			t.Fatal(l, e, next, m)
		}
	}
}

func TestFragsComeBack(t *testing.T) {
	random := rand.New(rand.NewSource(177))
	for range 3000 {
		var l []api.Frag
		for range random.Intn(50) {
			l = append(l, api.Frag{At: random.Intn(maxImage+1) >> random.Intn(23), Word: 1 + random.Intn(maxWord)>>random.Intn(32), Plain: 1 + random.Intn(maxBlock)>>random.Intn(20)})
		}
		b, e := table.EncodeFrags(l)
		m, e2 := table.DecodeFrags(b)
		if e != api.OK || e2 != api.OK || !slices.Equal(m, l) {
			t.Fatal(l, e, e2, m)
		}
	}
}

// TestBytesComeBack leads from any bytes back to them: what is decoded has its bytes in one way alone.
func TestBytesComeBack(t *testing.T) {
	random := rand.New(rand.NewSource(178))
	var ids, sets, frags int
	for range 60000 {
		b := make([]byte, random.Intn(40))
		for i := range b {
			b[i] = byte(random.Intn(3) * random.Intn(3) * random.Intn(2) * random.Intn(2))
		}
		if l, e := table.DecodeIds(b); e == api.OK {
			ids++
			if again, e := table.EncodeIds(l); e != api.OK || !bytes.Equal(again, b) {
				t.Fatalf("%x: %v, %d %x", b, l, e, again)
			}
		}
		if s := anySet(random); len(s) > 0 && random.Intn(3) == 0 { // sets seldom come by chance
			b = setBytes(len(s), s)
			b[random.Intn(len(b))] += byte(random.Intn(2))
			b = append(b, 1, 2)
		}
		if l, next, e := table.DecodeAttrs(b, 0); e == api.OK {
			sets++
			if again, e := table.EncodeAttrs(l); e != api.OK || !bytes.Equal(again, b[:next]) {
				t.Fatalf("%x: %v, %d %x", b, l, e, again)
			}
		}
		if l, e := table.DecodeFrags(b); e == api.OK {
			frags++
			if again, e := table.EncodeFrags(l); e != api.OK || !bytes.Equal(again, b) {
				t.Fatalf("%x: %v, %d %x", b, l, e, again)
			}
		}
	}
	if min(ids, sets, frags) < 100 {
		t.Error("there were too few of", ids, sets, frags)
	}
}

// TestManySetsComeBack goes from set to set, by the place behind each.
func TestManySetsComeBack(t *testing.T) {
	var b []byte
	for _, l := range someSets() {
		one, e := table.EncodeAttrs(l)
		if e != api.OK {
			t.Fatal(short(l), e)
		}
		b = append(b, one...)
	}
	at := 0
	for _, want := range someSets() {
		l, next, e := table.DecodeAttrs(b, at)
		if e != api.OK || !sameSet(l, want) {
			t.Fatal(at, e, short(l), short(want))
		}
		at = next
	}
	if at != len(b) {
		t.Error(at, len(b))
	}
}

// TestSameAnswerAgain asks twice, with others between: what a call answers hangs on its arguments alone.
func TestSameAnswerAgain(t *testing.T) {
	ids := append(someIds(), []int{5, 0, 5}, []int{-1, 1 << 40})
	sets := append(someSets(), set("b", "a"), set("\x00"))
	frags := append(someFrags(), []api.Frag{{}})
	ask := func(i int) string {
		l, s, f := ids[i%len(ids)], sets[i%len(sets)], frags[i%len(frags)]
		at, ok := table.Place(l, 5)
		b1, e1 := table.EncodeIds(l)
		b2, e2 := table.EncodeAttrs(s)
		b3, e3 := table.EncodeFrags(f)
		l1, e4 := table.DecodeIds(idBytes(l))
		l2, next, e5 := table.DecodeAttrs(setBytes(len(s), s), 0)
		l3, e6 := table.DecodeFrags(fragBytes(f))
		return fmt.Sprint(table.Ids(l), at, ok, b1, e1, b2, e2, b3, e3, l1, e4, l2, next, e5, l3, e6)
	}
	var first []string
	for i := range 30 {
		first = append(first, ask(i))
	}
	for i := 29; i >= 0; i-- {
		if ask(i) != first[i] {
			t.Error(i, "another answer")
		}
	}
}
