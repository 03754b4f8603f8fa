package inode_test

import (
	"math"
	"math/rand"
	"slices"
	"strings"
	"testing"

	"portmanteau/api"
	"portmanteau/inode"
)

// P15.1

// far is numbers that no field may be; sums and products of them are no int's, and parts of their bits are small.
var far = []int{math.MinInt, math.MinInt + 1, -1 << 40, -1 << 32, -1 << 16, -2, 1 << 41, 1<<48 + 1, 1 << 62, math.MaxInt - 1, math.MaxInt}

func TestRight(t *testing.T) {
	for _, n := range someRight() {
		isRight(t, n)
	}
}

func TestKinds(t *testing.T) {
	for kind := -300; kind < 300; kind++ {
		n := api.Inode{Kind: kind, Links: 1}
		if kind == link {
			n.Target = "x"
		}
		if kind == file { // with no noughts but those that may be
			n.Tail = 1
		}
		if kind >= file && kind <= char {
			isRight(t, n)
		} else {
			isWrong(t, n, api.ErrKind)
		}
	}
	for _, kind := range append(far, 1<<32+1, 1<<32+5, 1<<16+2, 0x101, 0x205) {
		isWrong(t, api.Inode{Kind: kind, Links: 1}, api.ErrKind)
	}
}

func TestKindIsAskedFirst(t *testing.T) {
	for _, kind := range []int{0, hard, 7, -1, 256, math.MinInt, math.MaxInt} {
		for _, other := range kinds() {
			n := sample(other)
			n.Kind = kind
			isWrong(t, n, api.ErrKind)
			n.Mode, n.Frag, n.Words, n.Target = -1, -1, make([]int, maxWords+1), "\x00"
			isWrong(t, n, api.ErrKind)
		}
		isWrong(t, api.Inode{Kind: kind}, api.ErrKind)
	}
}

// TestNumbers sets each number of each kind to its ends, to one beyond each, and far away.
func TestNumbers(t *testing.T) {
	for _, kind := range kinds() {
		for _, f := range numbers() {
			if !f.asked(kind) {
				continue
			}
			for _, x := range append([]int{f.least - 1, f.least, f.least + 1, f.most - 1, f.most, f.most + 1}, far...) {
				n := sample(kind)
				*f.at(&n) = x
				if n.Frag == -1 {
					n.Off, n.Tail = 0, 0
				}
				if x < f.least || x > f.most || f.name == "Tail" && x == 0 {
					isWrong(t, n, api.ErrArg)
				} else {
					isRight(t, n)
				}
			}
		}
	}
}

// TestFieldsOfOtherKinds sets each field that is not asked of a kind to something that would be right elsewhere.
func TestFieldsOfOtherKinds(t *testing.T) {
	for _, kind := range kinds() {
		for _, base := range []api.Inode{sample(kind), least(kind)} {
			for _, f := range numbers() {
				if f.asked(kind) {
					continue
				}
				for _, x := range append([]int{-1, 1, f.most, f.most + 1}, far...) {
					n := base
					*f.at(&n) = x
					isWrong(t, n, api.ErrArg)
				}
			}
			if kind != file {
				for _, words := range [][]int{{0}, {1, 2}, make([]int, maxWords), make([]int, maxWords+1)} {
					n := base
					n.Words = words
					isWrong(t, n, api.ErrArg)
				}
				n := base
				n.Words = []int{}
				isRight(t, n)
				n.Words = make([]int, 0, 5)
				isRight(t, n)
			}
			if kind != link {
				for _, target := range []string{"x", "\x00", strings.Repeat("x", maxPath+1)} {
					n := base
					n.Target = target
					isWrong(t, n, api.ErrArg)
				}
			}
		}
	}
}

func TestWords(t *testing.T) {
	n := sample(file)
	for _, l := range [][]int{nil, {}, {0}, {word}, {word - 1, 1}, make([]int, maxWords-1), make([]int, maxWords)} {
		n.Words = l
		isRight(t, n)
	}
	for _, l := range [][]int{make([]int, maxWords+1), make([]int, 2*maxWords), make([]int, 2*maxWords+1), make([]int, maxWords, maxWords+1)[:maxWords+1]} {
		n.Words = l
		isWrong(t, n, api.ErrArg)
	}
	for _, x := range append([]int{-1, word + 1}, far...) {
		for _, long := range []int{1, 2, 3, 100, maxWords} {
			for _, at := range []int{0, long / 2, long - 1} {
				n.Words = make([]int, long)
				n.Words[at] = x
				isWrong(t, n, api.ErrArg)
			}
		}
	}
}

func TestTail(t *testing.T) {
	ends := []int{math.MinInt, -1, 0, 1, 2, maxBlock - 1, maxBlock, math.MaxInt}
	for _, frag := range []int{-2, -1, 0, 1, 65534, 65535, 65536} {
		for _, off := range ends {
			for _, tail := range ends {
				n := sample(file)
				n.Frag, n.Off, n.Tail = frag, off, tail
				inside := off >= 0 && off < maxBlock && tail > 0 && tail < maxBlock
				if frag == -1 && off == 0 && tail == 0 || frag >= 0 && frag <= 65535 && inside {
					isRight(t, n)
				} else {
					isWrong(t, n, api.ErrArg)
				}
			}
		}
	}
}

func TestTarget(t *testing.T) {
	n := sample(link)
	for _, s := range []string{"x", "\x01", "/", "..", " ", "\xff", "ä", strings.Repeat("x", maxPath-1), strings.Repeat("x", maxPath), strings.Repeat("ä", maxPath/2)} {
		n.Target = s
		isRight(t, n)
	}
	for _, s := range []string{"", "\x00", "a\x00", "\x00a", "a\x00b", strings.Repeat("x", maxPath+1), strings.Repeat("ä", maxPath/2+1), strings.Repeat("x", 65536), strings.Repeat("x", 65537), strings.Repeat("x", maxPath-1) + "\x00"} {
		n.Target = s
		isWrong(t, n, api.ErrArg)
	}
}

func TestZeroInode(t *testing.T) {
	isWrong(t, api.Inode{}, api.ErrKind)
	for _, kind := range kinds() {
		isWrong(t, api.Inode{Kind: kind}, api.ErrArg) // Links is 0
	}
	isWrong(t, api.Inode{Kind: file, Links: 1}, api.ErrArg) // a Tail of 0 in fragment 0
	isWrong(t, api.Inode{Kind: link, Links: 1}, api.ErrArg)
}

// anyInode is an inode of any kind, most often right but for few fields.
func anyInode(random *rand.Rand) api.Inode {
	n := sample(1 + random.Intn(5))
	l := numbers()
	for range random.Intn(3) {
		f := l[random.Intn(len(l))]
		*f.at(&n) = []int{f.least - 1, f.least, 0, 1, f.most, f.most + 1, -1}[random.Intn(7)]
	}
	switch random.Intn(12) {
	case 0:
		n.Kind = random.Intn(9) - 1
	case 1:
		n.Words = slices.Clone(n.Words)
		n.Words = append(n.Words, random.Intn(3)-1)
	case 2:
		n.Target = []string{"", "x", "x\x00"}[random.Intn(3)]
	case 3:
		n.Frag, n.Off, n.Tail = -1, 0, 0
	}
	return n
}

func TestCheckAgainstASecondHand(t *testing.T) {
	random := rand.New(rand.NewSource(151))
	count := map[api.Errno]int{}
	for range 10000 {
		n := anyInode(random)
		want := checkByHand(n)
		count[want]++
		if e := inode.Check(n); e != want {
			t.Fatalf("%s: %d, not %d", short(n), e, want)
		}
		if want == api.OK {
			isRight(t, n)
		} else {
			isWrong(t, n, want)
		}
	}
	for _, e := range []api.Errno{api.OK, api.ErrKind, api.ErrArg} {
		if count[e] < 100 {
			t.Errorf("error %d came %d times alone", e, count[e])
		}
	}
}
