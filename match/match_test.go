package match_test

import (
	"bytes"
	"math"
	"math/rand"
	"strings"
	"sync"
	"testing"

	"portmanteau/api"
	"portmanteau/gauge"
	"portmanteau/lz"
	"portmanteau/match"
)

// unrepeated is n bytes, MaxBlock at most, in which no four bytes stand twice: a row of de Bruijn, of the 32 bytes from 0 to 31.
func unrepeated(n int) []byte {
	return bytes.Clone(allFours()[:n])
}

var allFours = sync.OnceValue(func() []byte {
	var row, word []byte
	word = make([]byte, 5)
	var grow func(at, period int)
	grow = func(at, period int) {
		if at > 4 {
			if 4%period == 0 {
				row = append(row, word[1:period+1]...)
			}
			return
		}
		word[at] = word[at-period]
		grow(at+1, period)
		for c := word[at-period] + 1; c < 32; c++ {
			word[at] = c
			grow(at+1, at)
		}
	}
	grow(1, 1)
	return row
})

// sealed is b with another last byte, one that unrepeated texts have not: what goes over to a next piece repeats nothing then.
func sealed(b []byte) []byte {
	b = bytes.Clone(b)
	b[len(b)-1] = 99
	return b
}

// join is pieces one behind the other, in new memory.
func join(pieces ...[]byte) []byte {
	return bytes.Join(pieces, nil)
}

// again is the first n bytes of a text that is written again and again.
func again(text []byte, n int) []byte {
	return bytes.Repeat(text, n/len(text)+1)[:n]
}

// noise is n bytes by chance, of so many letters.
func noise(r *rand.Rand, n, letters int) []byte {
	b := make([]byte, n)
	for i := range b {
		b[i] = byte(r.Intn(letters))
	}
	return b
}

// encoded holds Encode(b) against all that P6.2 asks for, and tells the block and its sequences.
func encoded(t *testing.T, b []byte) ([]byte, []api.Seq) {
	t.Helper()
	block, e := match.Encode(b)
	if e != api.OK {
		t.Fatalf("Encode(%.40x of %d bytes): %d", b, len(b), e)
	}
	if len(block) > match.Bound(len(b)) {
		t.Fatalf("Encode(%.40x of %d bytes): %d bytes, more than %d", b, len(b), len(block), match.Bound(len(b)))
	}
	if out, e, _ := lz.Decode(block, len(b)); e != api.OK || !bytes.Equal(out, b) {
		t.Fatalf("Encode(%.40x of %d bytes): %.40x unpacks to %.40x, %d", b, len(b), block, out, e)
	}
	l, e, _ := lz.Cut(block)
	if e != api.OK {
		t.Fatalf("Encode(%.40x of %d bytes): Cut tells %d", b, len(b), e)
	}
	endsWell(t, b, l)
	if same, e := match.Encode(b); e != api.OK || !bytes.Equal(same, block) {
		t.Fatalf("Encode(%.40x of %d bytes): another block the second time", b, len(b))
	}
	return block, l
}

// endsWell asks how many literals the last sequence of b's block has, and where its last copy begins.
func endsWell(t *testing.T, b []byte, l []api.Seq) {
	t.Helper()
	last := len(l) - 1
	if last == 0 {
		return
	}
	lits := len(l[last].Lit)
	if lits < 5 {
		t.Fatalf("%.40x of %d bytes: the last sequence has %d literals", b, len(b), lits)
	}
	if gap := lits + l[last-1].Len; gap < 12 {
		t.Fatalf("%.40x of %d bytes: the last copy begins %d bytes ahead of the end", b, len(b), gap)
	}
}

// literals is the block of b's literals alone.
func literals(t *testing.T, b []byte) []byte {
	t.Helper()
	block, e := lz.Join([]api.Seq{{Lit: b}})
	if e != api.OK {
		t.Fatalf("Join of %d literals: %d", len(b), e)
	}
	return block
}

// P6.1

func TestBound(t *testing.T) {
	for n, want := range map[int]int{
		math.MinInt: 0, -1 << 32: 0, -api.MaxBlock: 0, -255: 0, -2: 0, -1: 0,
		0: 1, 1: 2, 13: 14, 14: 15, 15: 17, 16: 18, 254: 256, 255: 257, 256: 258,
		268: 270, 269: 271, 270: 273, 271: 274, 524: 527, 525: 529, 526: 530, 779: 783, 780: 785,
		api.MaxBlock - 2: 1052687, api.MaxBlock - 1: 1052689, api.MaxBlock: 1052690,
		api.MaxBlock + 1: 0, 2 * api.MaxBlock: 0, 1 << 32: 0, 1<<32 + 15: 0, math.MaxInt: 0,
	} {
		if m := match.Bound(n); m != want {
			t.Errorf("Bound(%d) = %d, not %d", n, m, want)
		}
	}
}

// TestBoundIsLiterals holds it against the blocks that it tells the lengths of.
func TestBoundIsLiterals(t *testing.T) {
	lits := make([]byte, api.MaxBlock)
	for n := range 3000 {
		if want := len(literals(t, lits[:n])); match.Bound(n) != want {
			t.Fatalf("Bound(%d) = %d, not %d", n, match.Bound(n), want)
		}
	}
	for n := api.MaxBlock - 600; n <= api.MaxBlock; n += 25 {
		if want := len(literals(t, lits[:n])); match.Bound(n) != want {
			t.Fatalf("Bound(%d) = %d, not %d", n, match.Bound(n), want)
		}
	}
}

// P6.2

func TestEncodeTexts(t *testing.T) {
	for _, s := range []string{
		"", "a", "ab", "abcdefghijklmnop", "abcabcabcabcabcabcabcabcabc",
		"the quick brown fox and the quick brown dog and the quick brown hen",
		strings.Repeat("a", 100), strings.Repeat("\x00", 100), strings.Repeat("\xff", 100),
		strings.Repeat("a", 40) + strings.Repeat("b", 40) + strings.Repeat("a", 40),
	} {
		encoded(t, []byte(s))
	}
	if block, e := match.Encode(nil); e != api.OK || !bytes.Equal(block, []byte{0}) {
		t.Errorf("of nothing: %x, %d", block, e)
	}
	if block, e := match.Encode([]byte("a")); e != api.OK || !bytes.Equal(block, []byte{0x10, 'a'}) {
		t.Errorf("of a: %x, %d", block, e)
	}
}

// TestEncodeShort has texts around the length from which on there is room for a copy.
func TestEncodeShort(t *testing.T) {
	for n := range 40 {
		for _, b := range [][]byte{again([]byte("a"), n), again([]byte("ab"), n), again([]byte("abcd"), n), unrepeated(n)} {
			if _, l := encoded(t, b); n < 13 && len(l) > 1 {
				t.Errorf("%q has a copy", b)
			}
		}
	}
	for n, long := range map[int]int{13: 7, 14: 8, 100: 94} { // a copy from the second byte on, up to the 5 last ones
		b := again([]byte("a"), n)
		if _, l := encoded(t, b); len(l) != 2 || len(l[0].Lit) != 1 || l[0].Off != 1 || l[0].Len != long || len(l[1].Lit) != 5 {
			t.Errorf("%d times a: %v", n, l)
		}
	}
}

// TestEncodeAllOfTwoLetters has every text of up to 15 letters a and b, alone and behind a longer one.
func TestEncodeAllOfTwoLetters(t *testing.T) {
	for n := range 16 {
		for bits := range 1 << n {
			b := make([]byte, n)
			for i := range b {
				b[i] = 'a' + byte(bits>>i&1)
			}
			encoded(t, b)
			if n == 11 {
				encoded(t, join([]byte("abbaabbbabaaaab"), b))
			}
		}
	}
}

// TestEncodeUnrepeated: of a text that nothing repeats in there are literals alone, up to the longest.
func TestEncodeUnrepeated(t *testing.T) {
	for _, n := range []int{0, 1, 11, 12, 13, 14, 15, 16, 254, 255, 256, 269, 270, 271, 524, 525, 4096, 65535, 65536, 65540, api.MaxBlock - 1, api.MaxBlock} {
		b := unrepeated(n)
		if block, _ := encoded(t, b); !bytes.Equal(block, literals(t, b)) || len(block) != match.Bound(n) {
			t.Errorf("%d bytes: a block of %d bytes, not %d", n, len(block), match.Bound(n))
		}
	}
}

// TestEncodeRepeatAtEnd repeats a text's begin at its end, so shortly first that a copy may not begin there.
func TestEncodeRepeatAtEnd(t *testing.T) {
	b := sealed(unrepeated(2000)[1000:])
	for n := range 60 {
		_, l := encoded(t, join(b, b[:n]))
		switch {
		case n < 12 && len(l) > 1:
			t.Errorf("a repeat of %d: it has a copy", n)
		case n >= 12 && (len(l) != 2 || l[0].Off != 1000 || l[0].Len != n-5):
			t.Errorf("a repeat of %d: it has %d sequences", n, len(l))
		}
	}
	for n := 4; n < 30; n++ { // and with something else behind it
		for tail := range 20 {
			encoded(t, join(b, b[:n], bytes.Repeat([]byte{99}, tail)))
		}
	}
}

// TestEncodeFarRepeats has repeats at the edge of what an offset tells.
func TestEncodeFarRepeats(t *testing.T) {
	for _, ahead := range []int{0, 1, 70000} {
		for _, back := range []int{65530, 65534, 65535, 65536, 65537, 65540, 131071, 131072, 200000} {
			b := sealed(unrepeated(ahead + back))
			b = join(b, b[ahead:ahead+100])
			_, l := encoded(t, b)
			far := back <= 65535
			if far && (len(l) < 2 || l[len(l)-2].Off != back || l[len(l)-2].Len < 90) {
				t.Errorf("a repeat from %d back: not found", back)
			}
			if !far && len(l) > 1 {
				t.Errorf("a repeat from %d back: a copy from %d back", back, l[0].Off)
			}
		}
	}
}

// TestEncodeBothRepeats has what stands out of reach once more within it.
func TestEncodeBothRepeats(t *testing.T) {
	b := unrepeated(70000)
	text := []byte("what is looked for")
	for _, near := range []int{0, 1, 100, 60000, 65535 - len(text), 65536 - len(text), 69999} {
		encoded(t, join(text, b[:70000-near], text, b[70000-near:], text, b[:20]))
	}
}

// TestEncodeLengths has rows of literals and copies of just so many bytes as lengths change their form at.
func TestEncodeLengths(t *testing.T) {
	lengths := []int{1, 4, 5, 13, 14, 15, 16, 17, 18, 19, 20, 268, 269, 270, 271, 272, 273, 274, 275, 524, 525, 529}
	for _, lits := range lengths {
		for _, copied := range lengths {
			u := unrepeated(6000)
			b := join(u[:1000], u[2000:2000+lits], u[:copied], u[4000:4000+lits], u[100:100+copied], u[5000:5000+lits])
			encoded(t, b)
		}
	}
}

// TestEncodeSmallCopies has as many copies of 4 bytes as may be, where least is won, and rows of literals of every length between them.
func TestEncodeSmallCopies(t *testing.T) {
	u := unrepeated(200000)
	for lits := range 300 {
		b := bytes.Clone(u[:400])
		for k := range 40 {
			b = join(b, u[10*k:10*k+4], u[1000+400*k:1000+400*k+lits])
		}
		encoded(t, b)
	}
}

// randomText is pieces that are new, or repeats of what stands ahead.
func randomText(r *rand.Rand) []byte {
	var b []byte
	letters := 1 + r.Intn(256)
	edges := []int{1, 3, 4, 5, 7, 11, 12, 13, 14, 15, 16, 19, 20, 64, 65, 255, 269, 270, 271, 274, 275, 525}
	for range r.Intn(12) {
		n := edges[r.Intn(len(edges))]
		if len(b) == 0 || r.Intn(2) == 0 {
			b = append(b, noise(r, n, letters)...)
			continue
		}
		off := 1 + r.Intn(len(b))
		for range n {
			b = append(b, b[len(b)-off])
		}
	}
	return b
}

func TestEncodeRandom(t *testing.T) {
	r := rand.New(rand.NewSource(6))
	for range 6000 {
		encoded(t, randomText(r))
	}
	for _, letters := range []int{1, 2, 3, 4, 16, 256} {
		for _, n := range []int{1000, 65535, 65536, 200000} {
			encoded(t, noise(r, n, letters))
		}
	}
}

func TestEncodeLongest(t *testing.T) {
	r := rand.New(rand.NewSource(7))
	encoded(t, make([]byte, api.MaxBlock))
	encoded(t, noise(r, api.MaxBlock, 256))
	encoded(t, noise(r, api.MaxBlock, 2))
	for _, n := range []int{api.MaxBlock + 1, api.MaxBlock + 2, 2 * api.MaxBlock} {
		for _, b := range [][]byte{make([]byte, n), noise(r, n, 256)} {
			if block, e := match.Encode(b); e != api.ErrLong || len(block) != 0 {
				t.Errorf("%d bytes: %d bytes, %d", n, len(block), e)
			}
		}
	}
}

// P6.3

// repeats holds the block of the first n bytes of a text again and again against how long it may be.
func repeats(t *testing.T, text []byte, n int) {
	t.Helper()
	if block, _ := encoded(t, again(text, n)); len(block) > 256+n/255 {
		t.Fatalf("%x again and again, %d bytes: a block of %d bytes, more than %d", text, n, len(block), 256+n/255)
	}
}

// texts is texts of n bytes that nothing repeats in, or much.
func texts(r *rand.Rand, n int) [][]byte {
	l := [][]byte{
		unrepeated(5000)[4000:][:n],
		noise(r, n, 256), noise(r, n, 16), noise(r, n, 3), noise(r, n, 2),
		again([]byte("a"), n), again([]byte("ab"), n), again([]byte("abcde"), n),
		append(again([]byte("a"), n-1), 'b'),
		append([]byte("b"), again([]byte("a"), n-1)...),
		again(append(again([]byte("xyz0"), max(n/3, 1)), 'q'), n),
		append(again(noise(r, max(n/2, 1), 256), n-1), 'b'), // nearly half as long
	}
	for i := range 4 { // a part of it by chance, then the same with another byte within
		part := noise(r, max(n/(i+2), 1), 4)
		b := again(part, n)
		b[r.Intn(n)] = 'z'
		l = append(l, b)
	}
	return l
}

func TestRepeats(t *testing.T) {
	r := rand.New(rand.NewSource(8))
	for p := 1; p <= 64; p++ {
		for _, text := range texts(r, p) {
			for _, n := range []int{p, p + 1, 2*p - 1, 2 * p, 2*p + 1, 3*p + 7, 255, 256, 257, 300, 511, 1000, 4096, 9973} {
				repeats(t, text, n)
			}
			for range 3 {
				repeats(t, text, r.Intn(3000))
			}
		}
	}
}

func TestLongRepeats(t *testing.T) {
	r := rand.New(rand.NewSource(9))
	for _, p := range []int{1, 2, 3, 4, 5, 31, 32, 33, 63, 64} {
		for _, text := range [][]byte{unrepeated(5000)[4000:][:p], noise(r, p, 256), noise(r, p, 2)} {
			for _, n := range []int{65535, 65536, 65537, 200001, api.MaxBlock - 1, api.MaxBlock} {
				repeats(t, text, n)
			}
		}
	}
	repeats(t, []byte("0123456789"), 10000)
}

// TestAllShortRepeats has every text of up to 9 letters a and b, and of 64 the ends of which these are.
func TestAllShortRepeats(t *testing.T) {
	u := unrepeated(5000)[4000:]
	for n := 1; n < 10; n++ {
		for bits := range 1 << n {
			b := make([]byte, n)
			for i := range b {
				b[i] = byte(bits >> i & 1)
			}
			repeats(t, b, 700)
			repeats(t, join(b, u[:64-n]), 700)
			repeats(t, append(again(b, 63), 9), 700)
		}
	}
}

// P6.4

func TestPackExamples(t *testing.T) {
	b := bytes.Repeat([]byte("a"), 100)
	block, _ := encoded(t, b)
	if out, packed, e := match.Pack(b, 0.5); !packed || e != api.OK || !bytes.Equal(out, block) {
		t.Errorf("with 0.5: %x, %v, %d", out, packed, e)
	}
	if out, packed, e := match.Pack(b, 0); packed || e != api.OK || !bytes.Equal(out, b) {
		t.Errorf("with 0: %x, %v, %d", out, packed, e)
	}
}

// limits is limits at all edges of floats, and those at which so many bytes of so many are just worth it.
func limits(plain, packed int) []float64 {
	part := gauge.Ratio(packed, plain)
	l := []float64{0, math.Copysign(0, -1), 1, -1, 0.5, 0.95, 2, -0.5, math.NaN(), math.Inf(1), math.Inf(-1), math.SmallestNonzeroFloat64, math.MaxFloat64, -math.MaxFloat64, math.Nextafter(1, 0), math.Nextafter(1, 2)}
	return append(l, part, math.Nextafter(part, 0), math.Nextafter(part, 9), -part)
}

// packs holds Pack(b, limit) against whether it should be packed, and unpacks it again (P6.5).
func packs(t *testing.T, b []byte, limit float64, want bool) {
	t.Helper()
	out, packed, e := match.Pack(b, limit)
	if packed != want || e != api.OK {
		t.Fatalf("Pack(%.40x of %d bytes, %v): packed is %v, %d", b, len(b), limit, packed, e)
	}
	plain := b
	if want {
		plain, _ = match.Encode(b)
	}
	if !bytes.Equal(out, plain) {
		t.Fatalf("Pack(%.40x of %d bytes, %v): %.40x, not %.40x", b, len(b), limit, out, plain)
	}
	for _, most := range []int{len(b), api.MaxBlock} {
		if back, e := match.Unpack(out, packed, most); e != api.OK || !bytes.Equal(back, b) {
			t.Fatalf("Unpack of Pack(%.40x of %d bytes, %v): %.40x, %d", b, len(b), limit, back, e)
		}
	}
}

func TestPackLimits(t *testing.T) {
	r := rand.New(rand.NewSource(10))
	for _, b := range [][]byte{nil, {}, []byte("a"), []byte("abcdefghijkl"), bytes.Repeat([]byte("ab"), 6), bytes.Repeat([]byte("ab"), 8), make([]byte, 64), make([]byte, 100), make([]byte, 4096), noise(r, 100, 2), noise(r, 4096, 256), unrepeated(256)} {
		block, _ := encoded(t, b)
		for _, limit := range limits(len(b), len(block)) {
			packs(t, b, limit, gauge.Worth(len(b), len(block), limit))
		}
	}
}

// TestPackRoundedLimits has lengths by which a limit is rounded up or down: it is the product that counts, not the quotient.
func TestPackRoundedLimits(t *testing.T) {
	for n := range 400 {
		b := bytes.Repeat([]byte("a"), n)
		block, _ := encoded(t, b)
		for _, limit := range limits(n, len(block)) {
			packs(t, b, limit, float64(len(block)) < float64(n)*limit)
		}
	}
}

// TestPackPlainLimits says what comes of limits without gauge's help.
func TestPackPlainLimits(t *testing.T) {
	same, other := bytes.Repeat([]byte("a"), 128), unrepeated(128)
	block, _ := encoded(t, same)
	part := float64(len(block)) / 128 // no rounding: 128 is a power of 2
	for _, limit := range []float64{0, math.Copysign(0, -1), -1, math.NaN(), math.Float64frombits(0xfff8000000000123), math.Inf(-1), math.SmallestNonzeroFloat64, part} {
		packs(t, same, limit, false)
		packs(t, other, limit, false)
		packs(t, nil, limit, false)
	}
	packs(t, same, math.Nextafter(part, 1), true)
	packs(t, same, 1, true)
	packs(t, other, 1, false)
	packs(t, other, float64(match.Bound(128))/128, false)
	for _, limit := range []float64{2, math.MaxFloat64, math.Inf(1)} { // even what becomes longer
		packs(t, same, limit, true)
		packs(t, other, limit, true)
		packs(t, nil, limit, false) // no limit makes something of nothing
	}
}

func TestPackLongest(t *testing.T) {
	for _, limit := range []float64{0, 0.5, 1, -1, math.NaN(), math.Inf(1), math.Inf(-1)} {
		packs(t, make([]byte, api.MaxBlock), limit, limit > 0)
		packs(t, unrepeated(api.MaxBlock), limit, limit > 1)
		for _, n := range []int{api.MaxBlock + 1, 2 * api.MaxBlock} {
			if out, packed, e := match.Pack(make([]byte, n), limit); len(out) != 0 || packed || e != api.ErrLong {
				t.Errorf("%d bytes with %v: %d bytes, %v, %d", n, limit, len(out), packed, e)
			}
		}
	}
}

// bounds is what most may be, and may not be, for n bytes.
func bounds(n int) []int {
	return []int{math.MinInt, -1 << 32, -2, -1, 0, 1, n - 1, n, n + 1, api.MaxBlock - 1, api.MaxBlock, api.MaxBlock + 1, 2 * api.MaxBlock, 1 << 32, math.MaxInt}
}

// unpackFails asks for an error, and nothing beside it.
func unpackFails(t *testing.T, b []byte, packed bool, most int, want api.Errno) {
	t.Helper()
	if out, e := match.Unpack(b, packed, most); len(out) != 0 || e != want {
		t.Errorf("Unpack(%.40x of %d bytes, %v, %d): %d bytes, %d, not %d", b, len(b), packed, most, len(out), e, want)
	}
}

// unpacks asks for a text.
func unpacks(t *testing.T, b []byte, packed bool, most int, want []byte) {
	t.Helper()
	if out, e := match.Unpack(b, packed, most); e != api.OK || !bytes.Equal(out, want) {
		t.Errorf("Unpack(%.40x of %d bytes, %v, %d): %.40x, %d, not %.40x", b, len(b), packed, most, out, e, want)
	}
}

func TestUnpackBounds(t *testing.T) {
	for _, b := range [][]byte{nil, []byte("a"), []byte("abc"), []byte("abababababababababab"), make([]byte, 300), unrepeated(300), make([]byte, api.MaxBlock), unrepeated(api.MaxBlock)} {
		block, _ := encoded(t, b)
		for _, most := range bounds(len(b)) {
			switch {
			case most < 0 || most > api.MaxBlock:
				unpackFails(t, b, false, most, api.ErrArg)
				unpackFails(t, block, true, most, api.ErrArg)
			case most < len(b):
				unpackFails(t, b, false, most, api.ErrLong)
				unpackFails(t, block, true, most, api.ErrLong)
			default:
				unpacks(t, b, false, most, b)
				unpacks(t, block, true, most, b)
			}
		}
	}
	unpackFails(t, make([]byte, api.MaxBlock+1), false, api.MaxBlock, api.ErrLong)
	unpackFails(t, make([]byte, api.MaxBlock+1), false, api.MaxBlock+1, api.ErrArg)
	unpackFails(t, make([]byte, api.MaxBlock+1), false, -1, api.ErrArg)
	unpacks(t, literals(t, unrepeated(api.MaxBlock)), true, api.MaxBlock, unrepeated(api.MaxBlock)) // a block that is longer than most
}

// TestUnpackWrongBlocks: not packed any bytes are themselves, packed lz.Decode's fault is told.
func TestUnpackWrongBlocks(t *testing.T) {
	for _, c := range []struct {
		block string
		most  int
		want  api.Errno
	}{
		{"", 9, api.ErrForm},
		{"\x10", 9, api.ErrForm},
		{"\x10a\x01\x00", 9, api.ErrForm},
		{"\x10a\x00\x00\x00", 9, api.ErrRange},
		{"\x10a\x02\x00\x00", 9, api.ErrRange},
		{"\x10a\x01\x00\x00", 4, api.ErrLong},
		{"\x10a\x00\x00\x00", 0, api.ErrLong},
		{"", -1, api.ErrArg},
		{"\x10", api.MaxBlock + 1, api.ErrArg},
	} {
		unpackFails(t, []byte(c.block), true, c.most, c.want)
		if c.most >= len(c.block) && c.most <= api.MaxBlock {
			unpacks(t, []byte(c.block), false, c.most, []byte(c.block))
		}
	}
	unpacks(t, []byte("\x10a\x01\x00\x00"), true, 5, []byte("aaaaa")) // sound, though Encode would not make it
	unpacks(t, []byte("\x2fab"), true, 2, []byte("ab"))
}

// TestUnpackAsDecode spoils blocks by chance and holds what is told against lz.Decode.
func TestUnpackAsDecode(t *testing.T) {
	r := rand.New(rand.NewSource(11))
	for range 4000 {
		b := randomText(r)
		block, _ := match.Encode(b)
		if r.Intn(4) > 0 {
			block[r.Intn(len(block))] = byte(r.Intn(256))
		}
		block = block[:len(block)-r.Intn(2)*r.Intn(len(block)+1)]
		most := r.Intn(2*len(b) + 3)
		want, e1, _ := lz.Decode(block, most)
		if out, e := match.Unpack(block, true, most); e != e1 || !bytes.Equal(out, want) {
			t.Fatalf("Unpack(%x, true, %d): %x, %d, not %x, %d", block, most, out, e, want, e1)
		}
	}
}

// P6.5

func TestThereAndBack(t *testing.T) {
	r := rand.New(rand.NewSource(12))
	for range 3000 {
		b := randomText(r)
		block, _ := match.Encode(b)
		for _, limit := range []float64{0, r.Float64(), 1, math.Inf(1), math.NaN()} {
			packs(t, b, limit, gauge.Worth(len(b), len(block), limit))
		}
	}
}

// Memory

// withRoom is a copy of b with spare room behind it, all of it aa.
func withRoom(b []byte) []byte {
	all := bytes.Repeat([]byte{0xaa}, len(b)+16)
	copy(all, b)
	return all[:len(b)]
}

// spoil changes all bytes of b, spare room included.
func spoil(b []byte) {
	b = b[:cap(b)]
	for i := range b {
		b[i] ^= 0xff
	}
}

// calls is each way from bytes to bytes.
var calls = map[string]func(b []byte) []byte{
	"Encode": func(b []byte) []byte {
		out, _ := match.Encode(b)
		return out
	},
	"Pack, packed": func(b []byte) []byte {
		out, _, _ := match.Pack(b, math.Inf(1))
		return out
	},
	"Pack, as it is": func(b []byte) []byte {
		out, _, _ := match.Pack(b, 0)
		return out
	},
	"Unpack, packed": func(b []byte) []byte {
		out, _ := match.Unpack(b, true, 999)
		return out
	},
	"Unpack, as it is": func(b []byte) []byte {
		out, _ := match.Unpack(b, false, 999)
		return out
	},
	"Unpack, too long": func(b []byte) []byte {
		out, _ := match.Unpack(b, false, 1)
		return out
	},
}

func TestMemory(t *testing.T) {
	for _, text := range []string{"", "a", "abcdefghijklmnop", strings.Repeat("a", 100), strings.Repeat("abcdefg", 50), "\x20ab\x02\x00\x10c", "\xf0\x00abcdefghijklmno", "\x10a\x00\x00"} {
		for name, call := range calls {
			b := withRoom([]byte(text))
			one, two := call(b), call(b)
			want := bytes.Clone(two)
			spoil(one)
			if fresh := withRoom([]byte(text)); !bytes.Equal(b[:cap(b)], fresh[:cap(fresh)]) {
				t.Errorf("%s of %q: it is changed, or shared with the answer: %q", name, text, b[:cap(b)])
			}
			if !bytes.Equal(two, want) {
				t.Errorf("%s of %q: two answers share memory", name, text)
			}
			spoil(b)
			if !bytes.Equal(two, want) {
				t.Errorf("%s of %q: what is handed in is kept", name, text)
			}
		}
	}
}

// TestArgumentsAlone asks the same again behind other calls, and of the same bytes with other room.
func TestArgumentsAlone(t *testing.T) {
	b := []byte("abcdefghabcdefghabcdefgh 12345678 abcdefgh")
	first, _ := encoded(t, b)
	for _, other := range [][]byte{nil, make([]byte, 5000), unrepeated(70000), b[1:]} {
		encoded(t, other)
		for _, same := range [][]byte{b, withRoom(b), append(bytes.Clone(b), other...)[:len(b)]} {
			if block, e := match.Encode(same); e != api.OK || !bytes.Equal(block, first) {
				t.Errorf("%x, not %x, %d", block, first, e)
			}
		}
	}
}
