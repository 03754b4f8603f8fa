package inode_test

import (
	"math"
	"math/big"
	"math/rand"
	"testing"

	"portmanteau/api"
	"portmanteau/inode"
)

// P15.4

// sized is a file of so many bytes, with so many words.
func sized(size, words int) api.Inode {
	n := least(file)
	n.Size, n.Words = size, make([]int, words)
	return n
}

// plainByHand says P15.4 by another hand than the program's, with numbers that have no end.
func plainByHand(n api.Inode, log, i int) (int, api.Errno) {
	if n.Kind != file || checkByHand(n) != api.OK || log < minLog || log > maxLog {
		return 0, api.ErrArg
	}
	block := new(big.Int).Exp(big.NewInt(2), big.NewInt(int64(log)), nil)
	from := new(big.Int).Mul(block, big.NewInt(int64(i)))
	size := big.NewInt(int64(n.Size))
	if i < 0 || i >= len(n.Words) || from.Cmp(size) >= 0 {
		return 0, api.ErrRange
	}
	left := new(big.Int).Sub(size, from)
	if left.Cmp(block) > 0 {
		left = block
	}
	return int(left.Int64()), api.OK
}

func TestPlainOfSizes(t *testing.T) {
	for _, log := range []int{minLog, minLog + 1, 16, maxLog - 1, maxLog} {
		block := 1 << log
		empty := sized(0, 3)
		noPlain(t, empty, log, 0, api.ErrRange)
		isPlain(t, sized(1, 3), log, 0, 1)
		isPlain(t, sized(block-1, 3), log, 0, block-1)
		noPlain(t, sized(block-1, 3), log, 1, api.ErrRange)
		isPlain(t, sized(block, 3), log, 0, block)
		noPlain(t, sized(block, 3), log, 1, api.ErrRange) // it begins at Size
		isPlain(t, sized(block+1, 3), log, 0, block)
		isPlain(t, sized(block+1, 3), log, 1, 1) // it begins a byte ahead of Size
		noPlain(t, sized(block+1, 3), log, 2, api.ErrRange)
		isPlain(t, sized(2*block-1, 3), log, 1, block-1)
		isPlain(t, sized(2*block, 3), log, 1, block)
		noPlain(t, sized(2*block, 3), log, 2, api.ErrRange)
		isPlain(t, sized(3*block, 3), log, 2, block)
		isPlain(t, sized(3*block+1, 3), log, 2, block)
		noPlain(t, sized(3*block+1, 3), log, 3, api.ErrRange) // there is no such word
	}
}

func TestPlainOfTheLongest(t *testing.T) {
	for _, log := range []int{minLog, maxLog} {
		block := 1 << log
		longest := sized(maxFile-1, maxWords)
		for _, i := range []int{0, 1, 2, 40000, maxWords - 1} {
			isPlain(t, longest, log, i, block)
		}
		noPlain(t, longest, log, maxWords, api.ErrRange)
		full := sized(maxWords*block, maxWords)
		isPlain(t, full, log, maxWords-1, block)
		full.Size--
		isPlain(t, full, log, maxWords-1, block-1)
		full.Size -= block - 2
		isPlain(t, full, log, maxWords-1, 1)
		full.Size--
		noPlain(t, full, log, maxWords-1, api.ErrRange)
		isPlain(t, full, log, maxWords-2, block)
	}
}

func TestPlacesOfBlocks(t *testing.T) {
	for _, words := range []int{0, 1, 2, 7, maxWords} {
		n := sized(maxFile-1, words)
		for _, i := range []int{math.MinInt, math.MinInt + 1, -1 << 52, -1 << 44, -2, -1, words, words + 1, 1 << 32, 1 << 43, 1 << 44, 1 << 51, 1 << 52, 1<<52 + 1, 1 << 62, math.MaxInt - 1, math.MaxInt} {
			for log := minLog; log <= maxLog; log++ {
				noPlain(t, n, log, i, api.ErrRange)
			}
		}
	}
	noPlain(t, least(file), minLog, 0, api.ErrRange)
}

func TestLogs(t *testing.T) {
	n := sized(10*maxBlock, 3)
	for log := minLog; log <= maxLog; log++ {
		isPlain(t, n, log, 2, 1<<log)
	}
	for _, log := range []int{math.MinInt, -1, 0, 1, minLog - 1, maxLog + 1, 32, 63, 64, 1<<32 + 12, math.MaxInt} {
		for _, i := range []int{0, 2, -1, 3, math.MaxInt} { // a log is asked ahead of the place
			noPlain(t, n, log, i, api.ErrArg)
		}
	}
}

func TestPlainOfWhatIsNoFile(t *testing.T) {
	for _, i := range []int{-1, 0, 1, 3, math.MaxInt, math.MinInt} {
		for _, kind := range []int{folder, link, block, char} {
			for _, n := range []api.Inode{least(kind), sample(kind), most(kind)} {
				noPlain(t, n, minLog, i, api.ErrArg)
				n.Size, n.Words = 9000, make([]int, 3) // a file's fields make it none
				noPlain(t, n, minLog, i, api.ErrArg)
			}
		}
		noPlain(t, api.Inode{}, minLog, i, api.ErrArg)
		n := sample(file)
		n.Kind = hard
		noPlain(t, n, minLog, i, api.ErrArg)
		wrong := []func(n *api.Inode){
			func(n *api.Inode) { n.Links = 0 },
			func(n *api.Inode) { n.Mode = 4096 },
			func(n *api.Inode) { n.Size = -1 },
			func(n *api.Inode) { n.Size = maxFile },
			func(n *api.Inode) { n.Tail = 0 },
			func(n *api.Inode) { n.Words[2] = word + 1 },
			func(n *api.Inode) { n.Words = make([]int, maxWords+1) },
			func(n *api.Inode) { n.Target = "x" },
			func(n *api.Inode) { n.Dev = 1 },
			func(n *api.Inode) { n.Parent = 1 },
		}
		for _, spoil := range wrong {
			n := sample(file)
			spoil(&n)
			noPlain(t, n, maxLog, i, api.ErrArg)
		}
	}
}

// TestPlainHangsOnSizeAndPlaceAlone asks holes and fragments too: neither plays a part.
func TestPlainHangsOnSizeAndPlaceAlone(t *testing.T) {
	n := sample(file)
	n.Size = 9000
	want := []int{4096, 4096, 808}
	for i, k := range want {
		isPlain(t, n, minLog, i, k)
	}
	noPlain(t, n, minLog, 3, api.ErrRange)
	n.Words = []int{0, word, 0, 5}
	for i, k := range want {
		isPlain(t, n, minLog, i, k)
	}
	noPlain(t, n, minLog, 3, api.ErrRange)
}

func TestPlainAgainstASecondHand(t *testing.T) {
	random := rand.New(rand.NewSource(154))
	for range 20000 {
		n := sized(random.Intn(1<<random.Intn(41)+1), random.Intn(9))
		if random.Intn(10) == 0 {
			n.Kind = random.Intn(8)
		}
		log, i := minLog-1+random.Intn(maxLog-minLog+3), random.Intn(11)-1
		if random.Intn(3) == 0 { // near a block's beginning
			n.Size = max(0, i<<max(log, 0)+random.Intn(3)-1)
		}
		want, e := plainByHand(n, log, i)
		if e == api.OK {
			isPlain(t, n, log, i, want)
		} else {
			noPlain(t, n, log, i, e)
		}
	}
}

// TestPlainsTogether adds up what all blocks of a file tell: that is its Size, if there are so many.
func TestPlainsTogether(t *testing.T) {
	for _, log := range []int{minLog, 15, maxLog} {
		for _, size := range []int{1, 5000, 1 << log, 1<<log + 1, 77 << log, 99<<log + 4321} {
			n := sized(size, 120)
			sum := 0
			for i := range 120 {
				k, e := inode.Plain(n, log, i)
				if e == api.OK && (k < 1 || k > 1<<log) || e != api.OK && (sum != size || e != api.ErrRange) {
					t.Errorf("log %d, %d bytes, block %d: %d %d", log, size, i, k, e)
				}
				sum += k
			}
			if sum != size {
				t.Errorf("log %d, %d bytes: %d in all", log, size, sum)
			}
		}
	}
}
