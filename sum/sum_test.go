package sum_test

import (
	"bytes"
	"hash/crc32"
	"hash/fnv"
	"math"
	"math/big"
	"math/rand"
	"testing"

	"portmanteau/api"
	"portmanteau/sum"
)

// someBytes is n bytes that are the same in every run.
func someBytes(n int) []byte {
	b := make([]byte, n)
	rand.New(rand.NewSource(int64(n))).Read(b)
	return b
}

// otherTables is tables that are not good ones.
func otherTables() map[string]*api.Table {
	zero, full, counting, turned, swapped, up := api.Table{}, api.Table{}, api.Table{}, sum.Make(), sum.Make(), sum.Make()
	for i := range 256 {
		full[i] = math.MaxUint32
		counting[i] = uint32(i) * 0x01010101
		turned[i] = ^turned[i]
		up[i] = 0x04c11db7 * uint32(i)
	}
	swapped[7], swapped[200] = swapped[200], swapped[7]
	return map[string]*api.Table{"zero": &zero, "full": &full, "counting": &counting, "turned": &turned, "swapped": &swapped, "up": &up}
}

// byWords is More as P2.2 words it, step by step, in numbers that are wide enough not to wrap round.
func byWords(t *api.Table, c uint32, b []byte) uint32 {
	there := uint64(math.MaxUint32) - uint64(c)
	for i := range b {
		x := there%256 ^ uint64(b[i])
		there = there/256 ^ uint64(t[x])
	}
	return uint32(uint64(math.MaxUint32) - there)
}

// P2.1

func TestMakeEntries(t *testing.T) {
	got := sum.Make()
	if want := crc32.MakeTable(0xedb88320); got != api.Table(*want) {
		t.Errorf("Make: %x, not %x", got, *want)
	}
	for i, want := range map[int]uint32{0: 0, 1: 0x77073096, 2: 0xee0e612c, 128: 0xedb88320, 255: 0x2d02ef8d} {
		if got[i] != want {
			t.Errorf("entry %d: %x, not %x", i, got[i], want)
		}
	}
}

func TestMakeIsNewEachTime(t *testing.T) {
	was := sum.Make()
	spoilt := sum.Make()
	for i := range spoilt {
		spoilt[i] ^= math.MaxUint32
	}
	if sum.Make() != was {
		t.Error("Make tells another table behind a change of its answer")
	}
	if c := sum.Crc(nil, []byte("123456789")); c != 0xcbf43926 {
		t.Errorf("Crc without a table, behind a change of a table: %x", c)
	}
	if !sum.Good(&was) {
		t.Error("Make's table is no more good behind a change of another answer")
	}
}

func TestGood(t *testing.T) {
	tab := sum.Make()
	if !sum.Good(&tab) {
		t.Error("Make's table is not good")
	}
	again := tab
	if !sum.Good(&again) {
		t.Error("a copy of Make's table is not good")
	}
	if sum.Good(nil) {
		t.Error("no table is good")
	}
	for name, other := range otherTables() {
		if sum.Good(other) {
			t.Errorf("the table %s is good", name)
		}
	}
}

func TestGoodMindsEachBitOfEachEntry(t *testing.T) {
	tab := sum.Make()
	for i := range tab {
		for bit := range 32 {
			tab[i] ^= 1 << bit
			was := tab
			if sum.Good(&tab) {
				t.Errorf("a table whose entry %d differs in bit %d is good", i, bit)
			}
			if tab != was {
				t.Fatalf("Good changed the table: entry %d, bit %d", i, bit)
			}
			tab[i] ^= 1 << bit
		}
	}
	if !sum.Good(&tab) {
		t.Error("the table that is mended again is not good")
	}
}

// P2.2

func TestCrcOfKnownTexts(t *testing.T) {
	tab := sum.Make()
	for text, want := range map[string]uint32{
		"":                 0,
		"\x00":             0xd202ef8d,
		"\xff":             0xff000000,
		"a":                0xe8b7be43,
		"abc":              0x352441c2,
		"123456789":        0xcbf43926,
		"\xff\xff\xff\xff": 0xffffffff,
	} {
		if c := sum.Crc(&tab, []byte(text)); c != want {
			t.Errorf("Crc of %q: %x, not %x", text, c, want)
		}
		if c := sum.Crc(nil, []byte(text)); c != want {
			t.Errorf("Crc of %q without a table: %x, not %x", text, c, want)
		}
	}
	if sum.Crc(&tab, nil) != 0 || sum.Crc(nil, nil) != 0 {
		t.Error("Crc of nil is not 0")
	}
}

func TestCrcOfEachByteAndManyLengths(t *testing.T) {
	tab := sum.Make()
	for x := range 256 {
		b := []byte{byte(x)}
		if c, want := sum.Crc(&tab, b), crc32.ChecksumIEEE(b); c != want || sum.Crc(nil, b) != want {
			t.Errorf("byte %d: %x, not %x", x, c, want)
		}
	}
	for _, n := range []int{2, 3, 4, 5, 7, 8, 9, 63, 64, 65, 255, 256, 257, 4096, 100003} {
		b := someBytes(n)
		if c, want := sum.Crc(&tab, b), crc32.ChecksumIEEE(b); c != want || sum.Crc(nil, b) != want {
			t.Errorf("%d bytes: %x, not %x", n, c, want)
		}
	}
}

var someCrcs = []uint32{0, 1, 0x80, 0xff, 0x100, 0x7fffffff, 0x80000000, 0xcbf43926, 0xfffffffe, 0xffffffff}

func TestMoreFromAnyCrc(t *testing.T) {
	tab := sum.Make()
	for _, c := range someCrcs {
		if got := sum.More(&tab, c, nil); got != c {
			t.Errorf("More of %x and nothing: %x", c, got)
		}
		if got := sum.More(nil, c, []byte{}); got != c {
			t.Errorf("More of %x and nothing, without a table: %x", c, got)
		}
		for n := range 40 {
			b := someBytes(n)
			want := crc32.Update(c, crc32.IEEETable, b)
			if got := sum.More(&tab, c, b); got != want {
				t.Errorf("More of %x and %d bytes: %x, not %x", c, n, got, want)
			}
			if got := sum.More(nil, c, b); got != want {
				t.Errorf("More of %x and %d bytes, without a table: %x, not %x", c, n, got, want)
			}
		}
	}
}

func TestOtherTablesAreGoneByAsTheyAre(t *testing.T) {
	for name, tab := range otherTables() {
		for n := range 40 {
			b := someBytes(n)
			if got, want := sum.Crc(tab, b), byWords(tab, 0, b); got != want {
				t.Errorf("Crc of %d bytes by the table %s: %x, not %x", n, name, got, want)
			}
			for _, c := range someCrcs {
				if got, want := sum.More(tab, c, b), byWords(tab, c, b); got != want {
					t.Errorf("More of %x and %d bytes by the table %s: %x, not %x", c, n, name, got, want)
				}
			}
		}
	}
	zero := api.Table{}
	if c := sum.Crc(&zero, []byte{1}); c != 0xff000000 {
		t.Errorf("Crc by a table of noughts: %x, not ff000000", c)
	}
	if c := sum.More(&zero, 0x12345678, []byte{1, 2}); c != 0xffff1234 {
		t.Errorf("More by a table of noughts: %x, not ffff1234", c)
	}
}

// An entry that is another one shows in just the sums that come by it: for a single byte behind nothing, entry 255 - byte.
func TestOneOtherEntryIsGoneBy(t *testing.T) {
	for i := range 256 {
		tab := sum.Make()
		tab[i] ^= 0x00010000
		for x := range 256 {
			want := crc32.ChecksumIEEE([]byte{byte(x)})
			if i == 255-x {
				want ^= 0x00010000
			}
			if got := sum.Crc(&tab, []byte{byte(x)}); got != want {
				t.Errorf("entry %d is another one, byte %d: %x, not %x", i, x, got, want)
			}
		}
	}
}

// P2.3

func TestDigestOfKnownTexts(t *testing.T) {
	for text, want := range map[string]uint64{
		"":       0xcbf29ce484222325,
		"\x00":   0xaf63bd4c8601b7df,
		"a":      0xaf63dc4c8601ec8c,
		"foobar": 0x85944171f73967e8,
	} {
		if d := sum.Digest([]byte(text)); d != want {
			t.Errorf("Digest of %q: %x, not %x", text, d, want)
		}
	}
	if d := sum.Digest(nil); d != 14695981039346656037 {
		t.Errorf("Digest of nil: %d", d)
	}
}

func TestDigestOfEachByteAndManyLengths(t *testing.T) {
	check := func(b []byte) {
		h := fnv.New64a()
		h.Write(b)
		if d := sum.Digest(b); d != h.Sum64() {
			t.Errorf("Digest of %d bytes: %x, not %x", len(b), d, h.Sum64())
		}
	}
	for x := range 256 {
		check([]byte{byte(x)})
	}
	for _, n := range []int{2, 3, 4, 5, 7, 8, 9, 63, 64, 65, 255, 256, 257, 4096, 100003} {
		check(someBytes(n))
	}
}

// onByWords is On as P2.3 words it, in numbers of any size.
func onByWords(d uint64, b []byte) uint64 {
	times, modulo := big.NewInt(1099511628211), new(big.Int).Lsh(big.NewInt(1), 64)
	n := new(big.Int).SetUint64(d)
	for _, x := range b {
		n.Xor(n, big.NewInt(int64(x)))
		n.Mul(n, times)
		n.Mod(n, modulo)
	}
	return n.Uint64()
}

var someDigests = []uint64{0, 1, 0xff, 0x100, 14695981039346656037, math.MaxInt64, 1 << 63, math.MaxUint64 - 1, math.MaxUint64}

func TestOnFromAnyDigest(t *testing.T) {
	for _, d := range someDigests {
		if got := sum.On(d, nil); got != d {
			t.Errorf("On of %x and nothing: %x", d, got)
		}
		for n := range 40 {
			b := someBytes(n)
			if got, want := sum.On(d, b), onByWords(d, b); got != want {
				t.Errorf("On of %x and %d bytes: %x, not %x", d, n, got, want)
			}
		}
	}
	if got := sum.On(0, []byte{0, 0, 1}); got != 1099511628211 {
		t.Errorf("On of 0 and [0 0 1]: %d", got)
	}
}

// P2.4

func TestSumsGoOnPartByPart(t *testing.T) {
	tables := otherTables()
	made := sum.Make()
	tables["good"], tables["none"] = &made, nil
	for _, n := range []int{0, 1, 2, 9, 64, 257} {
		b := someBytes(n)
		for cut := range n + 1 {
			first, second := b[:cut], b[cut:]
			for name, tab := range tables {
				if got, want := sum.More(tab, sum.Crc(tab, first), second), sum.Crc(tab, b); got != want {
					t.Errorf("table %s, %d bytes cut at %d: Crc %x, not %x", name, n, cut, got, want)
				}
			}
			if got, want := sum.On(sum.Digest(first), second), sum.Digest(b); got != want {
				t.Errorf("%d bytes cut at %d: Digest %x, not %x", n, cut, got, want)
			}
		}
	}
}

func TestSumsGoOnByteByByte(t *testing.T) {
	tab := sum.Make()
	b := someBytes(1000)
	c, d := sum.Crc(&tab, nil), sum.Digest(nil)
	for i := range b {
		c, d = sum.More(&tab, c, b[i:i+1]), sum.On(d, b[i:i+1])
	}
	if want := sum.Crc(&tab, b); c != want {
		t.Errorf("Crc byte by byte: %x, not %x", c, want)
	}
	if want := sum.Digest(b); d != want {
		t.Errorf("Digest byte by byte: %x, not %x", d, want)
	}
	for _, c := range someCrcs {
		if got, want := sum.More(&tab, sum.More(&tab, c, b[:333]), b[333:]), sum.More(&tab, c, b); got != want {
			t.Errorf("More of %x in two parts: %x, not %x", c, got, want)
		}
	}
	for _, d := range someDigests {
		if got, want := sum.On(sum.On(d, b[:333]), b[333:]), sum.On(d, b); got != want {
			t.Errorf("On of %x in two parts: %x, not %x", d, got, want)
		}
	}
}

// P2.5

// turnBits turns those bits of b that burst has, its bit 0 at the bit from; bit 0 of a byte is its first.
func turnBits(b []byte, from int, burst uint32) []byte {
	out := bytes.Clone(b)
	for i := range 32 {
		if burst>>i&1 == 1 {
			out[(from+i)/8] ^= 1 << ((from + i) % 8)
		}
	}
	return out
}

// bursts is patterns of n bits whose first and last bits are set.
func bursts(n int, chance *rand.Rand) []uint32 {
	ends := uint32(1) | 1<<(n-1)
	all := uint32(math.MaxUint32) >> (32 - n)
	return []uint32{ends, all, chance.Uint32()&all | ends, chance.Uint32()&all | ends}
}

func TestBurstsAreTold(t *testing.T) {
	tab := sum.Make()
	chance := rand.New(rand.NewSource(5))
	for _, size := range []int{1, 2, 4, 5, 9, 40} {
		for _, b := range [][]byte{make([]byte, size), bytes.Repeat([]byte{0xff}, size), someBytes(size)} {
			want := sum.Crc(&tab, b)
			for n := 1; n <= 32 && n <= 8*size; n++ {
				for from := range 8*size - n + 1 {
					for _, burst := range bursts(n, chance) {
						if got := sum.Crc(&tab, turnBits(b, from, burst)); got == want {
							t.Errorf("%d bytes, burst %x at bit %d: the same Crc %x", size, burst, from, got)
						}
					}
				}
			}
		}
	}
}

func TestBurstsInLongTexts(t *testing.T) {
	const size = 70000
	b := someBytes(size)
	want := sum.Crc(nil, b)
	for _, from := range []int{0, 1, 7, 8*size - 32, 8*size/2 - 3} {
		for _, burst := range []uint32{1, 1 << 31, 0x80000001, 0xedb88320, 0xdb710641, 0xffffffff} {
			if got := sum.Crc(nil, turnBits(b, from, burst)); got == want {
				t.Errorf("burst %x at bit %d: the same Crc %x", burst, from, got)
			}
		}
	}
}

// Any two texts of four bytes differ within 32 bits, so no Crc may come twice.
func TestAllCrcsOfFourBytesAreUnlike(t *testing.T) {
	tab := sum.Make()
	seen := map[uint32]uint32{}
	for n := range uint32(1 << 16) {
		for _, word := range []uint32{n, n << 16} {
			c := sum.Crc(&tab, []byte{byte(word), byte(word >> 8), byte(word >> 16), byte(word >> 24)})
			if other, ok := seen[c]; ok && other != word {
				t.Fatalf("%x and %x have one Crc, %x", word, other, c)
			}
			seen[c] = word
		}
	}
}

// Memory

func TestWhatIsHandedInStays(t *testing.T) {
	room := someBytes(64)
	b, was := room[:40], bytes.Clone(room)
	for name, tab := range otherTables() {
		before := *tab
		sum.Good(tab)
		sum.Crc(tab, b)
		sum.More(tab, 77, b)
		if *tab != before {
			t.Errorf("the table %s was changed", name)
		}
	}
	tab := sum.Make()
	before := tab
	sum.Good(&tab)
	sum.Crc(&tab, b)
	sum.More(&tab, 77, b)
	if tab != before {
		t.Error("the good table was changed")
	}
	sum.Crc(nil, b)
	sum.More(nil, 77, b)
	sum.Digest(b)
	sum.On(77, b)
	if !bytes.Equal(room, was) {
		t.Error("the bytes, or their spare room, were changed")
	}
}

// No table and no sum is kept from call to call.
func TestSumsHangOnArgumentsAlone(t *testing.T) {
	b := []byte("123456789")
	for name, tab := range otherTables() {
		sum.Crc(tab, b)
		sum.More(tab, 5, b)
		sum.Good(tab)
		if c := sum.Crc(nil, b); c != 0xcbf43926 {
			t.Errorf("behind calls with the table %s: Crc without a table is %x", name, c)
		}
		made := sum.Make()
		if !sum.Good(&made) || sum.Good(tab) {
			t.Errorf("behind calls with the table %s: Good is another one", name)
		}
	}
	if sum.Digest(b) != sum.Digest(b) || sum.Crc(nil, b) != sum.Crc(nil, b) {
		t.Error("one text has two sums")
	}
}
