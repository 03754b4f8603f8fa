package table_test

import (
	"bytes"
	"math"
	"math/rand"
	"slices"
	"testing"

	"portmanteau/api"
	"portmanteau/table"
)

// P17.1

// onceByHand is a list's numbers, each once, in order, by another hand: each is laid where it belongs.
func onceByHand(l []int) []int {
	var out []int
	for _, n := range l {
		at := 0
		for at < len(out) && out[at] < n {
			at++
		}
		if at == len(out) || out[at] != n {
			out = slices.Insert(out, at, n)
		}
	}
	return out
}

// isOnce asks for a list's numbers.
func isOnce(t *testing.T, l, want []int) {
	t.Helper()
	if got := table.Ids(l); !slices.Equal(got, want) {
		t.Error(short(l), short(got), "not", short(want))
	}
}

func TestIds(t *testing.T) {
	isOnce(t, []int{5, 0, 5}, []int{0, 5}) // the chapter's example
	isOnce(t, nil, nil)
	isOnce(t, []int{}, nil)
	isOnce(t, []int{7}, []int{7})
	isOnce(t, []int{0}, []int{0})
	isOnce(t, []int{7, 7}, []int{7})
	isOnce(t, []int{0, 0, 0}, []int{0})
	isOnce(t, []int{5, 0, 5, 3}, []int{0, 3, 5})
	isOnce(t, []int{1, 2, 3}, []int{1, 2, 3})
	isOnce(t, []int{3, 2, 1}, []int{1, 2, 3})
	isOnce(t, []int{3, 1, 2, 3, 1, 2, 2}, []int{1, 2, 3})
	isOnce(t, []int{10, 9, 100, 1000}, []int{9, 10, 100, 1000})
}

// TestIdsOfNoId has numbers that are no ids: Ids asks nothing of them.
func TestIdsOfNoId(t *testing.T) {
	isOnce(t, []int{-1}, []int{-1})
	isOnce(t, []int{0, -1, 1, -1}, []int{-1, 0, 1})
	isOnce(t, []int{maxWord + 1, maxWord, 0, maxWord + 1}, []int{0, maxWord, maxWord + 1})
	isOnce(t, []int{math.MaxInt, math.MinInt, 0, math.MinInt, math.MaxInt}, []int{math.MinInt, 0, math.MaxInt})
	isOnce(t, []int{1 << 32, 0, 1 << 33}, []int{0, 1 << 32, 1 << 33}) // alike in their low 32 bits
}

func TestIdsOfMany(t *testing.T) {
	for _, n := range []int{65535, maxRows, maxRows + 1, 200000} {
		l := rising(n, 0, 1)
		isOnce(t, l, l)
		back := slices.Clone(l)
		slices.Reverse(back)
		isOnce(t, back, l)
		isOnce(t, slices.Concat(l, back), l)
	}
	isOnce(t, make([]int, 300000), []int{0})
}

func TestIdsOfAny(t *testing.T) {
	random := rand.New(rand.NewSource(171))
	for range 5000 {
		var l []int
		most := 1 + random.Intn(60)
		for range random.Intn(40) {
			l = append(l, random.Intn(most)-10)
		}
		isOnce(t, l, onceByHand(l))
	}
}

// isPlace asks for the place of an id.
func isPlace(t *testing.T, l []int, id, want int, wantOk bool) {
	t.Helper()
	if at, ok := table.Place(l, id); at != want || ok != wantOk {
		t.Error(short(l), id, at, ok, "not", want, wantOk)
	}
}

func TestPlace(t *testing.T) {
	for _, l := range someIds() {
		for i, id := range l {
			isPlace(t, l, id, i, true)
		}
		isPlace(t, l, 4, max(0, slices.Index(l, 4)), slices.Contains(l, 4))
		isPlace(t, l, -1, 0, false)
		isPlace(t, l, maxWord+1, 0, false)
	}
	l := []int{0, 3, 5}
	isPlace(t, l, 5, 2, true)
	for _, id := range []int{1, 2, 4, 6, -3, -5, 1 << 32, 1<<32 + 3, math.MinInt, math.MaxInt} {
		isPlace(t, l, id, 0, false)
	}
}

// TestPlaceOfAnyList has lists that are no table's: the first place counts there too.
func TestPlaceOfAnyList(t *testing.T) {
	isPlace(t, []int{5, 3, 0}, 5, 0, true)
	isPlace(t, []int{5, 3, 0}, 3, 1, true)
	isPlace(t, []int{5, 3, 0}, 0, 2, true)
	isPlace(t, []int{5, 3, 0}, 4, 0, false)
	isPlace(t, []int{1, 1, 1}, 1, 0, true)
	isPlace(t, []int{2, 1, 1, 2}, 1, 1, true)
	isPlace(t, []int{-1, math.MinInt, math.MaxInt, 1 << 40}, -1, 0, true)
	isPlace(t, []int{-1, math.MinInt, math.MaxInt, 1 << 40}, math.MinInt, 1, true)
	isPlace(t, []int{-1, math.MinInt, math.MaxInt, 1 << 40}, math.MaxInt, 2, true)
	isPlace(t, []int{-1, math.MinInt, math.MaxInt, 1 << 40}, 1<<40, 3, true)
	isPlace(t, nil, 0, 0, false)
	isPlace(t, []int{}, 0, 0, false)
	long := rising(100000, 5, 3)
	isPlace(t, long, 5+3*99999, 99999, true)
	isPlace(t, long, 6, 0, false)
}

func TestPlaceInAny(t *testing.T) {
	random := rand.New(rand.NewSource(172))
	for range 5000 {
		var l []int
		for range random.Intn(12) {
			l = append(l, random.Intn(12)-2)
		}
		if random.Intn(2) == 0 {
			slices.Sort(l)
		}
		id := random.Intn(14) - 3
		want, ok := 0, false
		for i := len(l) - 1; i >= 0; i-- {
			if l[i] == id {
				want, ok = i, true
			}
		}
		isPlace(t, l, id, want, ok)
	}
}

func TestRightIds(t *testing.T) {
	for _, l := range someIds() {
		rightIds(t, l)
	}
	b, e := table.EncodeIds([]int{0, 258, 1 << 31, maxWord})
	if e != api.OK || !bytes.Equal(b, []byte{0, 0, 0, 0, 2, 1, 0, 0, 0, 0, 0, 128, 255, 255, 255, 255}) {
		t.Error(b, e)
	}
}

func TestManyIds(t *testing.T) {
	for _, n := range []int{65535, maxRows} {
		rightIds(t, rising(n, 0, 1))
		rightIds(t, rising(n, maxWord-n+1, 1))
		rightIds(t, rising(n, 0, 65537))
	}
	for _, n := range []int{maxRows + 1, maxRows + 2, 2 * maxRows, 300000} {
		wrongIds(t, rising(n, 0, 1))
	}
}

func TestWrongIds(t *testing.T) {
	for _, id := range []int{-1, -2, -256, -maxWord, -1 << 32, math.MinInt, maxWord + 1, maxWord + 2, 1 << 33, 1 << 40, math.MaxInt} {
		wrongIds(t, []int{id})
		wrongIds(t, []int{0, id})
		wrongIds(t, []int{id, 0})
		wrongIds(t, []int{id, maxWord})
		wrongIds(t, []int{1, id, 7})
	}
	for _, l := range [][]int{{1, 1}, {0, 0}, {maxWord, maxWord}, {1, 0}, {maxWord, 0}, {0, 1, 1}, {0, 0, 1}, {0, 2, 1}, {0, 2, 1, 3}, {1, 2, 0}, {256, 1}, {1 << 31, 1<<31 - 1}} {
		wrongIds(t, l)
	}
}

// TestOneIdOutOfOrder changes each two neighbours of a list, and has each number twice.
func TestOneIdOutOfOrder(t *testing.T) {
	for at := 1; at < 300; at++ {
		l := rising(300, 7, 250)
		l[at-1], l[at] = l[at], l[at-1]
		wrongIds(t, l)
		l = rising(300, 7, 250)
		l[at] = l[at-1]
		wrongIds(t, l)
	}
	for _, at := range []int{1, 2, 30000, maxRows - 1} {
		l := rising(maxRows, 0, 1)
		l[at] = l[at-1]
		wrongIds(t, l)
	}
}

// TestIdBytesCut has bytes that are no multiple of an id's length, and such as are.
func TestIdBytesCut(t *testing.T) {
	b := idBytes([]int{1, 2, 1 << 31, maxWord})
	for cut := 0; cut <= len(b); cut++ {
		if cut%4 != 0 {
			formIds(t, b[:cut])
			formIds(t, bytes.Clone(b[:cut])) // with no spare room that tells the rest
			continue
		}
		if l, e := table.DecodeIds(b[:cut]); e != api.OK || len(l) != cut/4 {
			t.Error(cut, e, l)
		}
	}
	for n := range 4 {
		if n > 0 {
			formIds(t, make([]byte, 4*maxRows+n))
			formIds(t, append(idBytes(rising(maxRows, 0, 1)), make([]byte, n)...))
			formIds(t, append(idBytes(rising(maxRows-1, 0, 1)), make([]byte, n)...))
		}
	}
}

func TestEachByteOfIds(t *testing.T) {
	was := []int{1, 256, 300, 65536}
	b := idBytes(was)
	for at := range b {
		for value := range 256 {
			changed := bytes.Clone(b)
			changed[at] = byte(value)
			l := []int{un(changed[:4]), un(changed[4:8]), un(changed[8:12]), un(changed[12:])}
			if idsByHand(l) {
				rightIds(t, l)
			} else {
				wrongIds(t, l)
			}
		}
	}
}

func TestLongIdBytes(t *testing.T) {
	formIds(t, make([]byte, 16777216))
	formIds(t, bytes.Repeat([]byte{255}, 16777216))
	formIds(t, idBytes(rising(1<<20, 0, 1)))
}

// TestIdsLeaveListsAlone asks whether all calls leave a list and bytes as they are handed in, spare room too, and no answer hangs on another.
func TestIdsLeaveListsAlone(t *testing.T) {
	for _, l := range append(someIds(), []int{5, 0, 5}, []int{-1}, []int{3, 2, 1}) {
		all := append(slices.Clone(l), 9, 3, 9)
		was := slices.Clone(all)
		handed := all[:len(l)]
		once, again := table.Ids(handed), table.Ids(handed)
		table.Place(handed, 3)
		b, e := table.EncodeIds(handed)
		if !slices.Equal(all, was) {
			t.Error(short(l), "was changed")
		}
		spoilInts(once)
		spoilInts(all)
		if !slices.Equal(again, onceByHand(l)) {
			t.Error(short(l), "an answer changed with another")
		}
		if e == api.OK && !bytes.Equal(b, idBytes(l)) {
			t.Error(short(l), "bytes changed with the list")
		}
	}
}

// spoilInts changes all numbers of l, spare room included.
func spoilInts(l []int) {
	l = l[:cap(l)]
	for i := range l {
		l[i] = -77
	}
}

func TestIdBytesAreLeftAlone(t *testing.T) {
	for _, l := range someIds() {
		all := append(idBytes(l), 1, 0, 0, 0, 5)
		was := bytes.Clone(all)
		for _, size := range []int{4 * len(l), 4*len(l) + 1} {
			table.DecodeIds(all[:size])
		}
		if !bytes.Equal(all, was) {
			t.Error(short(l), "bytes were changed")
		}
		b := idBytes(l)
		first, _ := table.DecodeIds(b)
		second, _ := table.DecodeIds(b)
		spoilInts(first)
		third, _ := table.DecodeIds(b)
		overwrite(b)
		if !slices.Equal(second, l) || !slices.Equal(third, l) {
			t.Error(short(l), "an answer changed with another, or with the bytes")
		}
		one, _ := table.EncodeIds(l)
		two, _ := table.EncodeIds(l)
		overwrite(one)
		if !bytes.Equal(two, idBytes(l)) {
			t.Error(short(l), "bytes changed with others")
		}
	}
}
