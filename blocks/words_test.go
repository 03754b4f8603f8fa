package blocks_test

import (
	"math"
	"math/rand"
	"slices"
	"testing"

	"portmanteau/api"
	"portmanteau/blocks"
)

// P18.1

func TestWord(t *testing.T) {
	for stored, packed := range map[int]int{1: 1, 2: 2, 3: 3, 255: 255, 4096: 4096, longest - 1: longest - 1, longest: 1048576} {
		if w, e := blocks.Word(stored, true); w != packed || e != api.OK {
			t.Errorf("Word(%d, true) = %d, %d", stored, w, e)
		}
		if w, e := blocks.Word(stored, false); w != packed+2147483648 || e != api.OK {
			t.Errorf("Word(%d, false) = %d, %d", stored, w, e)
		}
	}
	for _, stored := range []int{0, -1, -longest, longest + 1, 2 * longest, asIs, asIs + 1, asIs - 1, asIs + longest, math.MaxInt, math.MinInt, math.MinInt + 1, -asIs, 1 - asIs, 1<<32 + 1} {
		for _, packed := range []bool{true, false} {
			if w, e := blocks.Word(stored, packed); w != 0 || e != api.ErrArg {
				t.Errorf("Word(%d, %v) = %d, %d", stored, packed, w, e)
			}
		}
	}
}

// wordsAtEdges are words, right or not, at all edges.
func wordsAtEdges() []int {
	var l []int
	for _, w := range []int{0, 1, 4096, longest, 1 << 30, asIs, asIs + 4096, mostWord, asIs + 1<<30, 1 << 32, 1<<32 + asIs, 1<<33 + 1, 1 << 62, -asIs, -longest, -mostWord} {
		l = append(l, w-2, w-1, w, w+1, w+2)
	}
	return append(l, math.MinInt, math.MinInt+1, math.MinInt+asIs, math.MinInt+asIs+1, math.MaxInt, math.MaxInt-1)
}

func TestParts(t *testing.T) {
	for _, w := range wordsAtEdges() {
		holdParts(t, w)
	}
	random := rand.New(rand.NewSource(181))
	for range 20000 {
		holdParts(t, int(random.Uint64()>>random.Intn(64)))
		holdParts(t, 1+random.Intn(longest))
		holdParts(t, asIs+1+random.Intn(longest))
	}
}

// holdParts holds a word against the other hand, and that Word tells it again.
func holdParts(t *testing.T, w int) {
	t.Helper()
	n, packed, e := blocks.Parts(w)
	wantN, wantPacked, ok := told(w)
	if !ok {
		if n != 0 || packed || e != api.ErrArg {
			t.Fatalf("Parts(%d) = %d, %v, %d", w, n, packed, e)
		}
		return
	}
	if n != wantN || packed != wantPacked || e != api.OK {
		t.Fatalf("Parts(%d) = %d, %v, %d; not %d, %v", w, n, packed, e, wantN, wantPacked)
	}
	if again, e := blocks.Word(n, packed); again != w || e != api.OK {
		t.Fatalf("Word(%d, %v) = %d, %d; not %d", n, packed, again, e, w)
	}
}

// P18.3

func TestExtent(t *testing.T) {
	for _, c := range []struct {
		words []int
		n     int
	}{
		{nil, 0},
		{[]int{0}, 0},
		{[]int{0, 0, 0}, 0},
		{[]int{1}, 5},
		{[]int{asIs + 1}, 5},
		{[]int{3, 0, asIs + 3}, 14},
		{[]int{longest}, longest + 4},
		{[]int{mostWord}, longest + 4},
		{[]int{5, 6, asIs + 7, 8, 0}, 42},
		{slices.Repeat([]int{0}, mostOf), 0},
		{slices.Repeat([]int{1}, mostOf), 5 * mostOf},
		{slices.Repeat([]int{asIs + 124}, mostOf), image},
		{slices.Repeat([]int{longest - 4}, 8), image},
		{append(slices.Repeat([]int{mostWord}, 7), longest-40, 4), image},
	} {
		if n, e := blocks.Extent(c.words); n != c.n || e != api.OK {
			t.Errorf("Extent of %d words = %d, %d; not %d", len(c.words), n, e, c.n)
		}
	}
}

func TestExtentErrors(t *testing.T) {
	full := slices.Repeat([]int{longest - 4}, 8)
	for _, c := range []struct {
		name  string
		words []int
		e     api.Errno
	}{
		{"one more word", make([]int, mostOf+1), api.ErrMany},
		{"far more words", make([]int, 10*mostOf), api.ErrMany},
		{"too many, one that may not be", append(make([]int, mostOf), -1), api.ErrMany},
		{"too many, too long", slices.Repeat([]int{longest}, mostOf+1), api.ErrMany},
		{"one below 0", []int{-1}, api.ErrArg},
		{"one of no bytes", []int{5, asIs}, api.ErrArg},
		{"one of too many", []int{5, longest + 1, 0}, api.ErrArg},
		{"one of too many, as they are", []int{mostWord + 1}, api.ErrArg},
		{"one with another bit", []int{1<<32 + 5}, api.ErrArg},
		{"the last of many", append(make([]int, mostOf-1), 1<<30), api.ErrArg},
		{"those that make up for each other", []int{-1, 1}, api.ErrArg},
		{"one that may not be, behind what is too long", append(slices.Repeat([]int{longest}, 9), -1), api.ErrArg},
		{"one that may not be, ahead of it", append([]int{-1}, slices.Repeat([]int{longest}, 9)...), api.ErrArg},
		{"a block too many", append(slices.Clone(full), 1), api.ErrLong},
		{"a byte too many", append(slices.Repeat([]int{longest - 4}, 7), longest-3), api.ErrLong},
		{"sums too many", slices.Repeat([]int{longest}, 8), api.ErrLong},
		{"as many as there may be, a byte too long each", slices.Repeat([]int{125}, mostOf), api.ErrLong},
		{"the longest", slices.Repeat([]int{mostWord}, mostOf), api.ErrLong},
	} {
		kept := slices.Clone(c.words)
		if n, e := blocks.Extent(c.words); n != 0 || e != c.e {
			t.Errorf("%s: Extent = %d, %d; not %d", c.name, n, e, c.e)
		}
		if !slices.Equal(c.words, kept) {
			t.Errorf("%s: the words are changed", c.name)
		}
	}
	for _, w := range wordsAtEdges() {
		n, _, ok := told(w)
		want, wantE := n+4, api.OK
		if !ok {
			want, wantE = 0, api.ErrArg
		}
		if w == 0 {
			want, wantE = 0, api.OK
		}
		if got, e := blocks.Extent([]int{w}); got != want || e != wantE {
			t.Errorf("Extent(%d) = %d, %d; not %d, %d", w, got, e, want, wantE)
		}
	}
}
