package inode_test

import (
	"bytes"
	"encoding/binary"
	"fmt"
	"math"
	"math/rand"
	"slices"
	"strings"
	"testing"

	"portmanteau/api"
	"portmanteau/inode"
)

// P15.3

// together is all inodes' bytes one behind the other, and where each of them begins; behind them the end.
func together(l []api.Inode) (b []byte, places []int) {
	for _, n := range l {
		places = append(places, len(b))
		b = append(b, lay(n)...)
	}
	return b, append(places, len(b))
}

func TestDecodeOneBehindTheOther(t *testing.T) {
	l := someRight()
	b, places := together(l)
	at := 0
	for i, want := range l {
		n, next, e := inode.Decode(b, at)
		if e != api.OK || next != places[i+1] || !same(n, want) {
			t.Fatalf("at %d: %s %d %d, not %s %d", at, short(n), next, e, short(want), places[i+1])
		}
		at = next
	}
	isForm(t, "the end", b, at)
}

// TestDecodeAtEachPlace asks at each place of some inodes' bytes: they may look like another inode from there on.
func TestDecodeAtEachPlace(t *testing.T) {
	var l []api.Inode
	for _, kind := range kinds() {
		l = append(l, least(kind), sample(kind), least(kind))
	}
	b, _ := together(l)
	for at := -3; at < len(b)+4; at++ {
		isDecoded(t, b, at)
	}
}

func TestPlaces(t *testing.T) {
	for _, b := range [][]byte{nil, {}, {1}, {0, 0}, lay(sample(char)), lay(least(link)), bytes.Repeat([]byte{5}, 100)} {
		for _, at := range []int{math.MinInt, math.MinInt + 1, math.MinInt + 24, -1 << 32, -24, -1, len(b) + 1, len(b) + 24, 1 << 32, math.MaxInt - 24, math.MaxInt - 1, math.MaxInt} {
			isNone(t, fmt.Sprint(len(b), " bytes"), b, at, api.ErrRange)
		}
		isForm(t, fmt.Sprint("the end of ", len(b), " bytes"), b, len(b))
	}
	isForm(t, "nil", nil, 0)
	isForm(t, "empty", []byte{}, 0)
}

// TestCutShort cuts bytes at every place; nothing stands behind them there, not even in spare room that may be read.
func TestCutShort(t *testing.T) {
	for _, n := range someRight() {
		b := lay(n)
		for cut := range len(b) {
			if len(b) > 5000 && cut > 100 && cut < len(b)-100 && cut%997 > 4 {
				continue
			}
			isForm(t, fmt.Sprint(short(n), " cut at ", cut), b[:cut], 0)
			if cut < 200 {
				isForm(t, fmt.Sprint(short(n), " behind others, cut at ", cut), append(lay(sample(char)), b[:cut]...), 24)
			}
		}
	}
}

// TestWhatFollowsPlaysNoPart lays other bytes behind an inode's, and ahead of them.
func TestWhatFollowsPlaysNoPart(t *testing.T) {
	for _, n := range someRight() {
		b := lay(n)
		for _, more := range [][]byte{{0}, {255}, bytes.Repeat([]byte{255}, 50), lay(sample(file)), make([]byte, 4*maxWords)} {
			got, next, e := inode.Decode(slices.Concat(more, b, more), len(more))
			if e != api.OK || next != len(more)+len(b) || !same(got, n) {
				t.Errorf("%s among others: %s %d %d", short(n), short(got), next, e)
			}
		}
	}
}

// TestEachByte sets each byte of some inodes to each value, with many bytes behind and with none.
func TestEachByte(t *testing.T) {
	behind := bytes.Repeat([]byte{1}, 300)
	for _, kind := range kinds() {
		for _, n := range []api.Inode{least(kind), sample(kind)} {
			b := lay(n)
			for at := range b {
				for value := range 256 {
					changed := bytes.Clone(b)
					changed[at] = byte(value)
					isDecoded(t, changed, 0)
					isDecoded(t, append(changed, behind...), 0)
				}
			}
		}
	}
}

func TestSecondByte(t *testing.T) {
	for _, n := range someRight() {
		b := lay(n)
		for value := 1; value < 256; value++ {
			b[1] = byte(value)
			isForm(t, fmt.Sprint(short(n), " with a second byte of ", value), b, 0)
		}
	}
}

func TestKindsInBytes(t *testing.T) {
	behind := bytes.Repeat([]byte{1}, 5000)
	for kind := range 256 {
		if kind >= file && kind <= char {
			continue
		}
		for _, other := range kinds() {
			b := lay(sample(other))
			b[0] = byte(kind)
			isForm(t, fmt.Sprint("kind ", kind), b, 0)
			isForm(t, fmt.Sprint("kind ", kind), append(b, behind...), 0)
		}
	}
}

// set is b with a number at a place.
func set(b []byte, at, width int, n uint64) []byte {
	all := binary.LittleEndian.AppendUint64(nil, n)
	return slices.Concat(b[:at], all[:width], b[at+width:])
}

// TestFieldsInBytes lays each number at its ends and beyond them, as far as its bytes go.
func TestFieldsInBytes(t *testing.T) {
	heads := []place{{"Mode", 2, 2, 4095}, {"Uid", 4, 2, 65535}, {"Gid", 6, 2, 65535}, {"Time", 8, 4, word}, {"Links", 12, 4, word}, {"Attrs", 16, 4, maxStream}}
	own := map[int][]place{
		file:   {{"Size", 20, 8, maxFile - 1}, {"Start", 28, 4, maxImage}, {"Frag", 32, 4, 65535}, {"Off", 36, 4, maxBlock - 1}, {"Tail", 40, 4, maxBlock - 1}, {"a word", 48, 4, word}, {"another word", 56, 4, word}},
		folder: {{"Dir", 20, 4, maxStream}, {"Bytes", 24, 4, maxStream}, {"Parent", 28, 4, maxEntry}},
		block:  {{"Dev", 20, 4, word}},
		char:   {{"Dev", 20, 4, word}},
	}
	for _, kind := range kinds() {
		for _, p := range append(slices.Clone(heads), own[kind]...) {
			b := lay(sample(kind))
			for _, x := range []uint64{0, 1, p.most - 1, p.most, p.most + 1, 1<<16 - 1, 1 << 31, 1<<31 + 5, 1<<32 - 2, 1<<32 - 1, 1 << 32, 1 << 63, 1<<63 + 5, math.MaxUint64 - 1, math.MaxUint64} {
				if p.width < 8 && x >= 1<<(8*p.width) {
					continue
				}
				none := p.width == 4 && x == word && (p.name == "Attrs") // a Frag that is none has no Off and no Tail
				nought := x == 0 && (p.name == "Links" || p.name == "Tail")
				changed := set(b, p.at, p.width, x)
				isDecoded(t, changed, 0)
				_, _, e := inode.Decode(changed, 0)
				if right := none || x <= p.most && !nought; (e == api.OK) != right || e != api.OK && e != api.ErrForm {
					t.Errorf("kind %d, %s of %x: %d", kind, p.name, x, e)
				}
			}
		}
	}
}

// place is where a number lies in an inode's bytes, and the greatest that it may be.
type place struct {
	name      string
	at, width int
	most      uint64
}

func TestFragInBytes(t *testing.T) {
	b := lay(sample(file))
	for _, frag := range []uint64{0, 1, 65535, 65536, 1 << 31, 1<<32 - 2, 1<<32 - 1} {
		for _, off := range []uint64{0, 1, maxBlock - 1, maxBlock, 1<<32 - 1} {
			for _, tail := range []uint64{0, 1, maxBlock - 1, maxBlock, 1<<32 - 1} {
				isDecoded(t, set(set(set(b, 32, 4, frag), 36, 4, off), 40, 4, tail), 0)
			}
		}
	}
	n, next, e := inode.Decode(lay(least(file)), 0)
	if n.Frag != -1 || n.Attrs != -1 || next != 48 || e != api.OK {
		t.Error(short(n), next, e)
	}
}

// TestCountsInBytes lays numbers of Words that are more than there are, or more than may be though they are there.
func TestCountsInBytes(t *testing.T) {
	n := sample(file)
	n.Words = make([]int, maxWords)
	b := lay(n)
	behind := make([]byte, 4*maxWords)
	for _, count := range []uint64{maxWords + 1, maxWords + 2, 2 * maxWords, 1 << 20, 1 << 30, 1<<30 + 1, 1 << 31, 1<<32 - 1} {
		changed := set(b, 44, 4, count)
		isForm(t, fmt.Sprint(count, " words"), changed, 0)
		isForm(t, fmt.Sprint(count, " words"), append(changed, behind...), 0)
		isForm(t, fmt.Sprint(count, " words that are not there"), changed[:48], 0)
		isForm(t, fmt.Sprint(count, " words that are not there"), changed[:60], 0)
	}
	for _, count := range []uint64{0, 1, 2, maxWords - 1, maxWords} {
		changed := set(b, 44, 4, count)
		isDecoded(t, changed, 0)
		isDecoded(t, append(changed, behind...), 0)
		got, next, e := inode.Decode(changed, 0)
		if e != api.OK || next != 48+4*int(count) || len(got.Words) != int(count) {
			t.Error(count, len(got.Words), next, e)
		}
	}
	for _, short := range []int{1, 2, 3, 4, 5, 400} {
		isForm(t, fmt.Sprint(short, " bytes of words too few"), b[:len(b)-short], 0)
	}
}

func TestLengthsOfTargetInBytes(t *testing.T) {
	n := sample(link)
	n.Target = strings.Repeat("x", maxPath)
	b := lay(n)
	behind := bytes.Repeat([]byte("y"), 70000)
	for _, long := range []uint64{0, maxPath + 1, maxPath + 2, 1 << 15, 65535} {
		changed := set(b, 20, 2, long)
		isForm(t, fmt.Sprint(long, " bytes"), changed, 0)
		isForm(t, fmt.Sprint(long, " bytes"), append(changed, behind...), 0)
		isForm(t, fmt.Sprint(long, " bytes that are not there"), changed[:22], 0)
	}
	for _, long := range []uint64{1, 2, maxPath - 1, maxPath} {
		changed := set(b, 20, 2, long)
		got, next, e := inode.Decode(append(changed, behind...), 0)
		if e != api.OK || next != 22+int(long) || got.Target != n.Target[:long] {
			t.Error(long, len(got.Target), next, e)
		}
	}
	for at := 22; at < len(b); at += 97 {
		isForm(t, "a 0 in Target", set(b, at, 1, 0), 0)
	}
	isForm(t, "a 0 at the end of Target", set(b, len(b)-1, 1, 0), 0)
}

func TestRandomBytes(t *testing.T) {
	random := rand.New(rand.NewSource(153))
	for range 20000 {
		b := make([]byte, random.Intn(100))
		random.Read(b)
		for i := range b { // few bits, so that some are inodes
			if random.Intn(8) > 0 {
				b[i] = 0
			}
		}
		if len(b) > 16 {
			b[0], b[12] = byte(random.Intn(7)), 1
		}
		isDecoded(t, b, random.Intn(len(b)/10+1))
	}
}

// TestBytesAreUnchanged asks that of right bytes and of wrong ones, spare room included.
func TestBytesAreUnchanged(t *testing.T) {
	for _, n := range someRight() {
		b := lay(n)
		for _, cut := range []int{len(b), len(b) - 1, 30, 10} {
			all := bytes.Clone(b)
			inode.Decode(all[:min(cut, len(all))], 0)
			inode.Decode(all[:min(cut, len(all))], 1)
			if !bytes.Equal(all, b) {
				t.Errorf("%s: bytes were changed", short(n))
			}
		}
	}
}

// TestDecodedIsNewMemory writes over answers and over the bytes, and asks for the other answers.
func TestDecodedIsNewMemory(t *testing.T) {
	for _, want := range someRight() {
		b := lay(want)
		first, _, _ := inode.Decode(b, 0)
		second, _, _ := inode.Decode(b, 0)
		l := first.Words[:cap(first.Words)]
		for i := range l {
			l[i] = 7
		}
		third, _, e := inode.Decode(b, 0)
		overwrite(b)
		if e != api.OK || !same(second, want) || !same(third, want) {
			t.Errorf("%s: an answer changed with another, or with the bytes", short(want))
		}
	}
}

// TestManyInodesInALongStream would not end soon if each call went through all that follows.
func TestManyInodesInALongStream(t *testing.T) {
	stream := make([]byte, maxStream)
	one := lay(sample(folder))
	for i := range maxEntry {
		copy(stream[i*len(one):], one)
	}
	at := 0
	for range maxEntry {
		n, next, e := inode.Decode(stream, at)
		if e != api.OK || next != at+len(one) || !same(n, sample(folder)) {
			t.Fatal(at, short(n), next, e)
		}
		at = next
	}
	isForm(t, "noughts", stream, at)
}
