package dirent_test

import (
	"bytes"
	"fmt"
	"math/rand"
	"slices"
	"strings"
	"testing"

	"portmanteau/api"
	"portmanteau/dirent"
)

// P16.2: Decode

// kid is one name.
func kid(name string, ino int) api.Kid {
	return api.Kid{Name: name, Ino: ino}
}

func TestNothing(t *testing.T) {
	for _, b := range [][]byte{nil, {}, make([]byte, 0, 100)} {
		if l, e := dirent.Decode(b); len(l) != 0 || e != api.OK {
			t.Error(short(l), e)
		}
	}
}

// TestCutShort cuts bytes at every place (long ones at some in their middle): what is left is a list's only where a row ends.
func TestCutShort(t *testing.T) {
	for _, l := range someRight() {
		b := encodeByHand(l)
		for cut := range b {
			if len(b) > 500 && cut > 30 && cut < len(b)-30 && cut%509 > 5 {
				continue
			}
			isDecoded(t, b[:cut])
			isDecoded(t, bytes.Clone(b[:cut])) // with no spare room that tells the rest
		}
	}
	b := encodeByHand(kids(5, 7, 2))
	for cut := 1; cut < len(b); cut++ {
		if cut != 6+2*(3+5) { // the first row alone is a list's
			isForm(t, fmt.Sprint("cut at ", cut), b[:cut])
		}
	}
}

// TestBytesBehind lays bytes behind the last row.
func TestBytesBehind(t *testing.T) {
	for _, l := range someRight() {
		b := encodeByHand(l)
		for _, more := range [][]byte{{0}, {1}, {255}, make([]byte, 5), make([]byte, 6), make([]byte, 7), make([]byte, 9), make([]byte, 60), bytes.Repeat([]byte{255}, 300), lay(0), lay(maxEntries)} {
			isForm(t, fmt.Sprintf("%s and %d bytes", short(l), len(more)), slices.Concat(b, more))
		}
		if len(b) > 0 {
			isForm(t, short(l)+" twice", slices.Concat(b, b))
		}
	}
}

// TestBytesAhead lays bytes ahead of the first row.
func TestBytesAhead(t *testing.T) {
	for _, l := range someRight() {
		b := encodeByHand(l)
		for _, more := range [][]byte{{0}, {1}, {255}, make([]byte, 6), make([]byte, 9)} {
			isForm(t, short(l), slices.Concat(more, b))
		}
	}
}

func TestRowsOfNoNames(t *testing.T) {
	for _, first := range []int{0, 1, maxEntries, maxEntries + 1, 1<<32 - 1} {
		none := lay(first)
		isForm(t, "no names", none)
		isForm(t, "no names twice", slices.Concat(none, none))
		isForm(t, "no names ahead", slices.Concat(none, lay(0, kid("a", 0))))
		isForm(t, "no names behind", slices.Concat(lay(5, kid("a", 5)), none))
		isForm(t, "no names between", slices.Concat(lay(5, kid("a", 5)), none, lay(2, kid("b", 2))))
		isForm(t, "no names behind a full row", slices.Concat(lay(0, same(256, 0)...), none))
	}
	isForm(t, "many rows of no names", make([]byte, 600000))
}

// TestRowsThatEndTooEarly has two rows that would be one.
func TestRowsThatEndTooEarly(t *testing.T) {
	for _, ino := range []int{5, 6, 100, maxEntries} {
		isForm(t, "the next Ino is no lower", slices.Concat(lay(5, kid("a", 5)), lay(ino, kid("b", ino))))
		isForm(t, "the next Ino is no lower than the first", slices.Concat(lay(5, kid("a", 5), kid("b", ino+1-ino%2)), lay(ino, kid("c", ino))))
	}
	for _, ino := range []int{0, 3, 4} {
		if e := isDecoded(t, slices.Concat(lay(5, kid("a", 5)), lay(ino, kid("b", ino)))); e != api.OK {
			t.Error(ino, e)
		}
	}
	for names := 1; names <= 256; names++ { // a row of so many, and the next
		l := rising(300)
		b := slices.Concat(lay(0, l[:names]...), lay(names, l[names:min(300, names+256)]...))
		if e := isDecoded(t, b); (e == api.OK) != (names == 256) {
			t.Error(names, e)
		}
	}
	isForm(t, "each name in a row of its own", slices.Concat(lay(0, kid("a", 0)), lay(0, kid("b", 0)), lay(0, kid("c", 0))))
	isForm(t, "the third row would be of the second", slices.Concat(lay(9, kid("a", 9)), lay(5, kid("b", 5)), lay(5, kid("c", 5))))
	isForm(t, "the third row would be of the second, not of the first", slices.Concat(lay(9, kid("a", 9)), lay(5, kid("b", 5)), lay(7, kid("c", 7))))
}

// TestRowsThatEndTooLate has rows with what would be in the next one.
func TestRowsThatEndTooLate(t *testing.T) {
	for _, n := range []int{255, 256, 257, 258, 300, 511, 512, 513, 1000, 65535} {
		var l []api.Kid
		for i := range n {
			l = append(l, kid(string([]byte{byte(101 + i/2500), byte(101 + i/50%50), byte(101 + i%50)}), 3))
		}
		if e := isDecoded(t, lay(3, l...)); (e == api.OK) != (n <= 256) {
			t.Error(n, e)
		}
	}
	for _, below := range []int{1, 2, 5} { // as far as a number can be below
		isForm(t, "an Ino below the first", lay(5, kid("a", 5), kid("b", 5-below)))
		isForm(t, "an Ino below the first", lay(5, kid("a", 5), kid("b", 7), kid("c", 5-below)))
	}
}

// TestCounts lays each count on rows of few names and many.
func TestCounts(t *testing.T) {
	for _, l := range [][]api.Kid{kids(1), kids(1, 2), rising(255), rising(256)} {
		b := encodeByHand(l)
		for count := 0; count < 65536; count++ {
			if count > 600 && count%251 > 0 && count < 65500 {
				continue
			}
			b[0], b[1] = byte(count), byte(count>>8)
			if e := isDecoded(t, b); (e == api.OK) != (count == len(l)) {
				t.Error(len(l), count, e)
			}
			if e := isDecoded(t, append(b, make([]byte, 200)...)); e != api.ErrForm {
				t.Error(len(l), count, e)
			}
		}
	}
}

func TestFirstInos(t *testing.T) {
	for _, first := range []int{0, 1, 255, 256, maxEntries - 1, maxEntries} {
		if e := isDecoded(t, lay(first, kid("a", first))); e != api.OK {
			t.Error(first, e)
		}
	}
	for _, first := range []int{maxEntries + 1, maxEntries + 2, 32768, 65535, 65536, 1 << 16, 1<<16 + 1, 1 << 24, 1<<24 + 1, 1 << 31, 1<<31 + 1, 1<<32 - 1} {
		isForm(t, fmt.Sprint("a first Ino of ", first), lay(first, kid("a", first)))
		isForm(t, fmt.Sprint("a first Ino of ", first), slices.Concat(lay(0, same(256, 0)...), lay(first, kid("b", first))))
	}
	isForm(t, "a first Ino that wraps round", lay(1<<32-1, kid("a", 0)))
	isForm(t, "a first Ino that wraps round", lay(1<<32-5, kid("a", 1<<32-5), kid("b", 1<<32+1)))
}

// TestSteps lays names above the row's first Ino, as far as may be and farther.
func TestSteps(t *testing.T) {
	for _, first := range []int{0, 1, 5000, maxEntries} {
		for _, step := range []int{0, 1, 255, 256, maxEntries - first - 1, maxEntries - first, maxEntries - first + 1, maxEntries, maxEntries + 1, 32767, 32768, 65535} {
			if step < 0 {
				continue
			}
			right := first+step <= maxEntries
			for at := 1; at < 4; at++ {
				l := []api.Kid{kid("a", first), kid("b", first), kid("c", first), kid("d", first)}
				l[at].Ino += step
				if e := isDecoded(t, lay(first, l...)); (e == api.OK) != right {
					t.Error(first, step, at, e)
				}
			}
		}
	}
}

// TestFirstNamesAbove lays a row's first name above its first Ino.
func TestFirstNamesAbove(t *testing.T) {
	for _, step := range []int{1, 2, 255, 256, 4096, maxEntries, 65535} {
		isForm(t, "a first name above", lay(0, kid("a", step)))
		isForm(t, "a first name above, and one that isn't", lay(0, kid("a", step), kid("b", 0)))
		isForm(t, "a first name above, in the second row", slices.Concat(lay(5, kid("a", 5)), lay(0, kid("b", step))))
		isForm(t, "a first name above, in the second row, no lower than the first row", slices.Concat(lay(5, kid("a", 5)), lay(4, kid("b", 4+step))))
	}
}

func TestNamesInBytes(t *testing.T) {
	long := strings.Repeat("x", maxName)
	for _, s := range []string{"a", "\x01", "...", "\xff", long} {
		if e := isDecoded(t, lay(1, kid(s, 1))); e != api.OK {
			t.Errorf("%.20q %d", s, e)
		}
	}
	for _, s := range []string{"", ".", "..", "/", "a/", "/a", "\x00", "a\x00", "\x00a", long[1:] + "/", "\x00" + long[1:]} {
		isForm(t, fmt.Sprintf("%.20q", s), lay(1, kid(s, 1)))
		isForm(t, fmt.Sprintf("%.20q behind another", s), lay(1, kid("!", 1), kid("-"+s, 1), kid(s, 1)))
		isForm(t, fmt.Sprintf("%.20q in the second row", s), slices.Concat(lay(1, kid("!", 1)), lay(0, kid(s, 0))))
	}
	isForm(t, "an empty name, nothing behind", lay(0, kid("", 0)))
	isForm(t, "an empty name ahead of another", lay(0, kid("", 0), kid("a", 0)))
}

// TestOrderInBytes has names out of order within a row and from one row to the next.
func TestOrderInBytes(t *testing.T) {
	for _, x := range []struct {
		a, b  string
		right bool
	}{
		{"a", "b", true}, {"b", "a", false}, {"a", "a", false}, {"a", "aa", true}, {"aa", "a", false}, {"a", "a\x01", true},
		{"\x7f", "\x80", true}, {"\x80", "\x7f", false}, {"z", "ä", true}, {"10", "9", true}, {"9", "10", false}, {"ab", "b", true}, {"b", "ab", false},
	} {
		within := lay(5, kid(x.a, 5), kid(x.b, 5))
		between := slices.Concat(lay(5, kid(x.a, 5)), lay(2, kid(x.b, 2)))
		behind := slices.Concat(lay(5, kid("!", 5), kid(x.a, 7)), lay(2, kid(x.b, 2), kid("\xff", 2)))
		full := slices.Concat(lay(0, append(some256(), kid("Z"+x.a, 0))...), lay(0, kid("Z"+x.b, 0)))
		for _, b := range [][]byte{within, between, behind, full} {
			if e := isDecoded(t, b); (e == api.OK) != x.right {
				t.Errorf("%q %q: %d", x.a, x.b, e)
			}
		}
	}
	isForm(t, "the third is as the first", lay(5, kid("a", 5), kid("b", 5), kid("a", 5)))
	isForm(t, "the third row is as the first", slices.Concat(lay(5, kid("a", 5)), lay(4, kid("b", 4)), lay(3, kid("a", 3))))
}

// some256 is one name less than a full row, all ahead of any with Z.
func some256() []api.Kid {
	var l []api.Kid
	for i := range 255 {
		l = append(l, kid(fmt.Sprintf("A%03d", i), 0))
	}
	return l
}

// TestSizes lays each number of bytes on a name.
func TestSizes(t *testing.T) {
	l := []api.Kid{kid("a", 1), kid("bcd", 2), kid("c", 1)}
	b := lay(1, l...)
	for _, at := range []int{8, 12, 18} {
		for size := range 256 {
			changed := bytes.Clone(b)
			changed[at] = byte(size)
			e := isDecoded(t, changed)
			if size != int(b[at]) && e == api.OK {
				t.Error(at, size)
			}
			isDecoded(t, append(changed, bytes.Repeat([]byte("d"), 255)...))
		}
	}
}

// TestEachByte sets each byte of some lists' bytes to each value.
func TestEachByte(t *testing.T) {
	for _, l := range [][]api.Kid{kids(5, 7, 2), kids(0), kids(5, 4, 3), kids(5, 5, 5), named("a", "b", "c"), {kid("ab", 300), kid("abc", 299), kid("b", 555)}} {
		b := encodeByHand(l)
		right := 0
		for at := range b {
			for value := range 256 {
				changed := bytes.Clone(b)
				changed[at] = byte(value)
				if isDecoded(t, changed) == api.OK {
					right++
				}
			}
		}
		if right < len(b) {
			t.Error("each byte stays as it was once, and there were", right)
		}
	}
}

// anyBytes is rows of any names, most often right but for few bytes.
func anyBytes(random *rand.Rand) []byte {
	var b []byte
	letter, first := 'a', 20
	for range random.Intn(5) {
		var l []api.Kid
		for range random.Intn(3) + 1 - random.Intn(20)/19 {
			l = append(l, kid(string(letter)[:1]+strings.Repeat("x", random.Intn(3)), first+random.Intn(5)*min(len(l), 1)))
			letter += rune(1 - random.Intn(20)/19)
		}
		b = append(b, lay(first, l...)...)
		first = max(first-1-random.Intn(4)+random.Intn(10)/9*4, 0)
	}
	for range random.Intn(3) * random.Intn(2) {
		if len(b) > 0 {
			b[random.Intn(len(b))] = []byte{0, 1, 2, 3, 255, 'a', 'z', '/', byte(random.Intn(256))}[random.Intn(9)]
		}
	}
	return b
}

func TestAnyBytes(t *testing.T) {
	random := rand.New(rand.NewSource(163))
	count := map[api.Errno]int{}
	for range 50000 {
		count[isDecoded(t, anyBytes(random))]++
	}
	if count[api.OK] < 5000 || count[api.ErrForm] < 5000 {
		t.Error("the bytes are too much alike:", count)
	}
}

func TestRandomBytes(t *testing.T) {
	random := rand.New(rand.NewSource(164))
	for range 20000 {
		b := make([]byte, random.Intn(60))
		for i := range b {
			b[i] = byte(random.Intn(4) * random.Intn(4) * random.Intn(30))
		}
		isDecoded(t, b)
	}
}

// TestLongBytes would not end soon if the time grew faster than the bytes.
func TestLongBytes(t *testing.T) {
	for _, b := range [][]byte{make([]byte, 16777216), bytes.Repeat([]byte{255}, 16777216), bytes.Repeat([]byte{1, 0, 0, 0, 0, 0, 0, 0, 1, 'a'}, 400000)} {
		isForm(t, fmt.Sprintf("%d bytes of %x", len(b), b[:10]), b)
	}
}

// TestBytesAreUnchanged asks that of right bytes and of wrong ones, spare room included.
func TestBytesAreUnchanged(t *testing.T) {
	for _, l := range someRight() {
		b := encodeByHand(l)
		for _, cut := range []int{len(b), len(b) - 1, 10, 6} {
			all := append(bytes.Clone(b), 1, 2, 3)
			was := bytes.Clone(all)
			dirent.Decode(all[:max(0, min(cut, len(b)))])
			if !bytes.Equal(all, was) {
				t.Errorf("%s: bytes were changed", short(l))
			}
		}
	}
}

// TestDecodedIsNewMemory writes over answers and over the bytes, and asks for the other answers.
func TestDecodedIsNewMemory(t *testing.T) {
	for _, want := range someRight() {
		b := encodeByHand(want)
		first, _ := dirent.Decode(b)
		second, _ := dirent.Decode(b)
		overwriteKids(first)
		third, e := dirent.Decode(b)
		overwrite(b)
		if e != api.OK || !slices.Equal(second, want) || !slices.Equal(third, want) {
			t.Errorf("%s: an answer changed with another, or with the bytes", short(want))
		}
	}
}
