package flash_test

import (
	"bytes"
	"math"
	"math/rand"
	"slices"
	"testing"

	"portmanteau/api"
	"portmanteau/flash"
)

// noNumbers is numbers that name no place of a small flash, whatever they are added to.
var noNumbers = []int{math.MinInt, math.MinInt + 1, -1 << 32, -65, -2, -1, 1 << 31, 1 << 32, 1 << 60, math.MaxInt - 64, math.MaxInt - 1, math.MaxInt}

// geometry is one in the order in which the document writes it.
func geometry(sectors, pages, size int) api.Geometry {
	return api.Geometry{Sectors: sectors, Pages: pages, Bytes: size}
}

// fresh is a flash of that geometry.
func fresh(t testing.TB, g api.Geometry) *flash.Flash {
	t.Helper()
	f, e := flash.New(g)
	if f == nil || e != api.OK {
		t.Fatalf("New(%v): %v %d", g, f, e)
	}
	return f
}

// small is a flash of 3 sectors with 2 pages of 16 bytes.
func small(t testing.TB) *flash.Flash {
	t.Helper()
	return fresh(t, geometry(3, 2, 16))
}

// ffs is n bytes of a blank flash.
func ffs(n int) []byte {
	return bytes.Repeat([]byte{0xff}, n)
}

// row is n bytes from first on, each one more than the one ahead of it.
func row(first byte, n int) []byte {
	b := make([]byte, n)
	for i := range b {
		b[i] = first + byte(i)
	}
	return b
}

// with is a copy of b, with what is laid over it from at on.
func with(b []byte, at int, over []byte) []byte {
	out := bytes.Clone(b)
	copy(out[at:], over)
	return out
}

// must stops a test at an answer that is another one.
func must(t testing.TB, what string, got, want api.Errno) {
	t.Helper()
	if got != want {
		t.Fatalf("%s: %d, not %d", what, got, want)
	}
}

// state is all that a flash tells. Its bytes are not to be read while the power is off: then there are none.
type state struct {
	g     api.Geometry
	size  int
	on    bool
	ops   int
	bytes []byte
	dirty []bool
	worn  []int
}

// stateOf asks f for all that it tells.
func stateOf(f *flash.Flash) state {
	s := state{g: f.Geometry(), size: f.Size(), on: f.On(), ops: f.Ops()}
	s.bytes, _ = f.Read(0, f.Size())
	for p := range s.g.Sectors * s.g.Pages {
		s.dirty = append(s.dirty, f.Dirty(p))
	}
	for i := range s.g.Sectors {
		s.worn = append(s.worn, f.Worn(i))
	}
	return s
}

// same says whether two flashes told the same.
func (s state) same(o state) bool {
	return s.g == o.g && s.size == o.size && s.on == o.on && s.ops == o.ops &&
		bytes.Equal(s.bytes, o.bytes) && slices.Equal(s.dirty, o.dirty) && slices.Equal(s.worn, o.worn)
}

// expect holds all that f tells against what it should.
func expect(t testing.TB, what string, f *flash.Flash, want state) {
	t.Helper()
	if got := stateOf(f); !got.same(want) {
		t.Fatalf("%s:\n%v, not\n%v", what, got, want)
	}
}

// P4.1

func TestCheckBounds(t *testing.T) {
	for _, c := range []struct {
		g    api.Geometry
		want api.Errno
	}{
		{geometry(1, 1, 16), api.OK},
		{geometry(2, 2, 16), api.OK},
		{geometry(4096, 1, 16), api.OK},
		{geometry(4095, 1, 17), api.OK},
		{geometry(1, 1024, 16), api.OK},
		{geometry(1, 1023, 17), api.OK},
		{geometry(1, 1, 65536), api.OK},
		{geometry(1, 1, 65535), api.OK},
		{geometry(0, 1, 16), api.ErrArg},
		{geometry(4097, 1, 16), api.ErrArg},
		{geometry(1, 0, 16), api.ErrArg},
		{geometry(1, 1025, 16), api.ErrArg},
		{geometry(1, 1, 15), api.ErrArg},
		{geometry(1, 1, 65537), api.ErrArg},
		{geometry(1, 1, 0), api.ErrArg},
		{geometry(-1, -1, 16), api.ErrArg},
		{geometry(-1, 1, -16), api.ErrArg},
		{geometry(1, -1, -16), api.ErrArg},
		{api.Geometry{}, api.ErrArg},
	} {
		if e := flash.Check(c.g); e != c.want {
			t.Errorf("Check(%v): %d, not %d", c.g, e, c.want)
		}
	}
	for _, n := range []int{math.MinInt, math.MinInt + 1, -1 << 32, -4096, -1, 0, 65537, 1 << 20, 1<<32 + 16, 1 << 60, 1 << 62, math.MaxInt} {
		for _, g := range []api.Geometry{geometry(n, 1, 16), geometry(1, n, 16), geometry(1, 1, n), geometry(n, n, 16), geometry(n, n, n), geometry(n, 16, n)} {
			if e := flash.Check(g); e != api.ErrArg {
				t.Errorf("Check(%v): %d, not ErrArg", g, e)
			}
		}
	}
}

func TestCheckTooLong(t *testing.T) {
	for _, c := range []struct {
		g    api.Geometry
		want api.Errno
	}{
		{geometry(256, 1, 65536), api.OK}, // MaxFlash bytes
		{geometry(257, 1, 65536), api.ErrLong},
		{geometry(1, 256, 65536), api.OK},
		{geometry(1, 257, 65536), api.ErrLong},
		{geometry(4096, 256, 16), api.OK},
		{geometry(4096, 257, 16), api.ErrLong},
		{geometry(1024, 1024, 16), api.OK},
		{geometry(1025, 1024, 16), api.ErrLong},
		{geometry(1024, 1024, 17), api.ErrLong},
		{geometry(256, 1, 65535), api.OK},
		{geometry(257, 1, 65535), api.ErrLong},
		{geometry(4096, 1024, 65536), api.ErrLong},
		{geometry(4096, 1024, 16), api.ErrLong},
		{geometry(4097, 1024, 65536), api.ErrArg}, // ErrArg comes ahead of ErrLong
		{geometry(4096, 1025, 65536), api.ErrArg},
		{geometry(4096, 1024, 65537), api.ErrArg},
		{geometry(4096, 1024, 15), api.ErrArg},
	} {
		if e := flash.Check(c.g); e != c.want {
			t.Errorf("Check(%v): %d, not %d", c.g, e, c.want)
		}
	}
	for size := int64(16); size <= 65536; size++ { // about MaxFlash bytes, of pages of all sizes
		for pages := int64(1); pages <= 1024; pages *= 4 {
			about := 16777216 / (size * pages)
			for sectors := max(about-1, 1); sectors <= min(about+1, 4096); sectors++ {
				want := api.OK
				if sectors*pages*size > 16777216 {
					want = api.ErrLong
				}
				if e := flash.Check(geometry(int(sectors), int(pages), int(size))); e != want {
					t.Fatalf("Check(%d %d %d): %d, not %d", sectors, pages, size, e, want)
				}
			}
		}
	}
}

func TestNewIsBlank(t *testing.T) {
	for _, g := range []api.Geometry{geometry(1, 1, 16), geometry(2, 2, 16), geometry(3, 5, 17), geometry(4096, 1, 16), geometry(1, 1024, 16), geometry(1, 1, 65536), geometry(256, 1, 65536), geometry(1024, 1024, 16)} {
		f := fresh(t, g)
		size := g.Sectors * g.Pages * g.Bytes
		expect(t, "a new flash", f, state{g: g, size: size, on: true, bytes: ffs(size), dirty: make([]bool, g.Sectors*g.Pages), worn: make([]int, g.Sectors)})
	}
}

func TestNewRefuses(t *testing.T) {
	for g, want := range map[api.Geometry]api.Errno{
		geometry(0, 2, 16):          api.ErrArg,
		geometry(2, 0, 16):          api.ErrArg,
		geometry(2, 2, 15):          api.ErrArg,
		geometry(4097, 1025, 65537): api.ErrArg,
		geometry(4097, 1024, 65536): api.ErrArg,
		geometry(257, 1, 65536):     api.ErrLong,
		geometry(4096, 1024, 65536): api.ErrLong,
		geometry(math.MinInt, 2, 2): api.ErrArg,
		geometry(2, math.MaxInt, 2): api.ErrArg,
	} {
		if f, e := flash.New(g); f != nil || e != want {
			t.Errorf("New(%v): %v %d, not %d", g, f, e, want)
		}
	}
}

func TestNewFlashesShareNothing(t *testing.T) {
	a, b := small(t), small(t)
	was := stateOf(b)
	must(t, "Write", a.Write(0, row(1, 16)), api.OK)
	must(t, "Erase", a.Erase(2), api.OK)
	must(t, "Arm", a.Arm(api.Crash{After: 1}), api.OK)
	must(t, "torn", a.Erase(1), api.ErrOff)
	expect(t, "another flash", b, was)
}

func TestNilFlash(t *testing.T) {
	var f *flash.Flash
	if g := f.Geometry(); g != (api.Geometry{}) {
		t.Error("Geometry", g)
	}
	if n := f.Size(); n != 0 {
		t.Error("Size", n)
	}
	for _, n := range append([]int{0, 1, 16}, noNumbers...) {
		if b, e := f.Read(n, n); len(b) != 0 || e != api.ErrNil {
			t.Error("Read", b, e)
		}
		if b, e := f.Read(0, n); len(b) != 0 || e != api.ErrNil {
			t.Error("Read", b, e)
		}
		if e := f.Write(n, make([]byte, 65537)); e != api.ErrNil {
			t.Error("Write", e)
		}
		if e := f.Write(n, nil); e != api.ErrNil {
			t.Error("Write", e)
		}
		if e := f.Erase(n); e != api.ErrNil {
			t.Error("Erase", e)
		}
		if e := f.Arm(api.Crash{After: n, Torn: []byte{1}}); e != api.ErrNil {
			t.Error("Arm", e)
		}
		if f.Dirty(n) || f.Worn(n) != 0 {
			t.Error("Dirty, Worn", f.Dirty(n), f.Worn(n))
		}
	}
	f.Boot()
	if f.On() || f.Ops() != 0 {
		t.Error("On, Ops", f.On(), f.Ops())
	}
}

// P4.2

func TestChapterExample(t *testing.T) {
	f := fresh(t, geometry(2, 2, 16))
	must(t, "Write(1)", f.Write(1, []byte{1, 2}), api.OK)
	if b, e := f.Read(16, 3); !bytes.Equal(b, []byte{1, 2, 0xff}) || e != api.OK {
		t.Error(b, e)
	}
	must(t, "Write(1) again", f.Write(1, []byte{0}), api.ErrDirty)
	must(t, "Erase(0)", f.Erase(0), api.OK)
	if b, e := f.Read(16, 1); !bytes.Equal(b, []byte{0xff}) || e != api.OK {
		t.Error(b, e)
	}
}

func TestReadPlaces(t *testing.T) {
	f := small(t)
	all := []byte{}
	for p := range 6 {
		part := row(byte(1+16*p), 16)
		must(t, "Write", f.Write(p, part), api.OK)
		all = append(all, part...)
	}
	for at := -3; at <= 99; at++ {
		for n := -3; n <= 99; n++ {
			b, e := f.Read(at, n)
			if at >= 0 && n >= 0 && at+n <= 96 {
				if !bytes.Equal(b, all[at:at+n]) || e != api.OK {
					t.Fatalf("Read(%d, %d): %v %d", at, n, b, e)
				}
			} else if len(b) != 0 || e != api.ErrRange {
				t.Fatalf("Read(%d, %d): %v %d, not ErrRange", at, n, b, e)
			}
		}
	}
	for _, x := range noNumbers {
		for _, y := range append([]int{0, 1, 95, 96, 97}, noNumbers...) {
			for _, c := range [][2]int{{x, y}, {y, x}} {
				if b, e := f.Read(c[0], c[1]); len(b) != 0 || e != api.ErrRange {
					t.Errorf("Read(%d, %d): %v %d, not ErrRange", c[0], c[1], b, e)
				}
			}
		}
	}
}

func TestReadIsNewMemory(t *testing.T) {
	f := small(t)
	must(t, "Write", f.Write(0, row(1, 16)), api.OK)
	for _, n := range []int{0, 1, 16, 40} {
		a, _ := f.Read(0, n)
		b, _ := f.Read(0, n)
		was := bytes.Clone(b)
		a = a[:cap(a)]
		for i := range a {
			a[i] ^= 0xff
		}
		if !bytes.Equal(b, was) {
			t.Errorf("a change of an answer of %d bytes changes another one", n)
		}
		if b, _ := f.Read(0, 96); !bytes.Equal(b, with(ffs(96), 0, row(1, 16))) {
			t.Errorf("a change of an answer of %d bytes changes the flash: %v", n, b)
		}
	}
	b, _ := f.Read(0, 32)
	was := bytes.Clone(b)
	must(t, "Write", f.Write(1, row(7, 16)), api.OK)
	must(t, "Erase", f.Erase(0), api.OK)
	if !bytes.Equal(b, was) {
		t.Error("an answer changes with the flash")
	}
}

func TestWriteLengths(t *testing.T) {
	for n := range 17 {
		f := small(t)
		was := stateOf(f)
		must(t, "Write", f.Write(3, row(1, n)), api.OK)
		was.bytes, was.ops, was.dirty[3] = with(was.bytes, 48, row(1, n)), 1, true
		expect(t, "behind a write", f, was)
	}
	for _, n := range []int{17, 18, 32, 33, 96, 97, 65536} {
		f := small(t)
		was := stateOf(f)
		must(t, "Write", f.Write(3, row(1, n)), api.ErrLong)
		expect(t, "behind a write that is too long", f, was)
	}
}

func TestWriteNothing(t *testing.T) {
	for _, b := range [][]byte{nil, {}} {
		f := small(t)
		was := stateOf(f)
		must(t, "Write of nothing", f.Write(5, b), api.OK)
		was.ops, was.dirty[5] = 1, true
		expect(t, "behind a write of nothing", f, was)
		must(t, "Write to it", f.Write(5, []byte{1}), api.ErrDirty)
		must(t, "Write of nothing to it", f.Write(5, nil), api.ErrDirty)
		expect(t, "behind a write to a dirty page", f, was)
	}
}

func TestWriteOfBlankBytesIsDirty(t *testing.T) {
	f := small(t)
	must(t, "Write", f.Write(0, ffs(16)), api.OK)
	if !f.Dirty(0) {
		t.Error("a page that was written is not dirty")
	}
	must(t, "Write again", f.Write(0, ffs(16)), api.ErrDirty)
}

func TestWriteNeitherChangesNorKeeps(t *testing.T) {
	for _, n := range []int{0, 3, 15, 16} {
		f := small(t)
		all := bytes.Repeat([]byte{0xaa}, 40)
		copy(all, row(1, n))
		was := bytes.Clone(all)
		must(t, "Write", f.Write(1, all[:n]), api.OK)
		if !bytes.Equal(all, was) {
			t.Errorf("a write of %d bytes changes them, or their spare room: %v", n, all)
		}
		for i := range all {
			all[i] = 0x55
		}
		if b, _ := f.Read(16, 16); !bytes.Equal(b, with(ffs(16), 0, row(1, n))) {
			t.Errorf("a write of %d bytes keeps them: %v", n, b)
		}
		kept := bytes.Clone(all)
		must(t, "Erase", f.Erase(0), api.OK)
		if !bytes.Equal(all, kept) {
			t.Errorf("a later erasure changes what was written from: %v", all)
		}
	}
}

func TestNoSuchPageOrSector(t *testing.T) {
	f := small(t)
	must(t, "Write", f.Write(5, []byte{1}), api.OK)
	must(t, "Erase", f.Erase(2), api.OK)
	was := stateOf(f)
	for _, n := range append([]int{6, 7, 96, 97}, noNumbers...) {
		must(t, "Write", f.Write(n, []byte{1}), api.ErrRange)
		must(t, "Write of nothing", f.Write(n, nil), api.ErrRange)
		must(t, "Write that is too long", f.Write(n, make([]byte, 17)), api.ErrRange)
		if f.Dirty(n) {
			t.Errorf("page %d is dirty", n)
		}
	}
	for _, n := range append([]int{3, 4, 6, 96}, noNumbers...) {
		must(t, "Erase", f.Erase(n), api.ErrRange)
		if f.Worn(n) != 0 {
			t.Errorf("sector %d was erased %d times", n, f.Worn(n))
		}
	}
	expect(t, "behind what is not there", f, was)
}

func TestPagesAreNumberedThrough(t *testing.T) {
	for _, g := range []api.Geometry{geometry(1, 1, 16), geometry(3, 1, 20), geometry(1, 4, 16), geometry(4, 3, 17), geometry(5, 7, 33)} {
		pages := g.Sectors * g.Pages
		for p := range pages {
			f := fresh(t, g)
			was := stateOf(f)
			must(t, "Write", f.Write(p, row(1, g.Bytes)), api.OK)
			was.bytes, was.ops, was.dirty[p] = with(was.bytes, p*g.Bytes, row(1, g.Bytes)), 1, true
			expect(t, "behind a write", f, was)
		}
		f := fresh(t, g)
		must(t, "Write behind the last page", f.Write(pages, nil), api.ErrRange)
		must(t, "Erase behind the last sector", f.Erase(g.Sectors), api.ErrRange)
	}
}

func TestErase(t *testing.T) {
	for sector := range 3 {
		f := small(t)
		for p := range 6 {
			must(t, "Write", f.Write(p, row(byte(1+16*p), 16)), api.OK)
		}
		want := stateOf(f)
		for n := 1; n <= 3; n++ {
			must(t, "Erase", f.Erase(sector), api.OK)
			want.bytes = with(want.bytes, 32*sector, ffs(32))
			want.dirty[2*sector], want.dirty[2*sector+1] = false, false
			want.ops, want.worn[sector] = 6+n, n
			expect(t, "behind an erasure", f, want)
		}
		must(t, "Write behind an erasure", f.Write(2*sector+1, []byte{3}), api.OK)
		want.bytes[32*sector+16], want.dirty[2*sector+1], want.ops = 3, true, 10
		expect(t, "behind a write to what was erased", f, want)
	}
}

func TestOpsCountsWhatIsDone(t *testing.T) {
	f := small(t)
	steps := []struct {
		what string
		do   func() api.Errno
		want api.Errno
		ops  int
	}{
		{"Write", func() api.Errno { return f.Write(0, nil) }, api.OK, 1},
		{"Write to a dirty page", func() api.Errno { return f.Write(0, nil) }, api.ErrDirty, 1},
		{"Write that is too long", func() api.Errno { return f.Write(1, make([]byte, 17)) }, api.ErrLong, 1},
		{"Write beyond", func() api.Errno { return f.Write(6, nil) }, api.ErrRange, 1},
		{"Erase", func() api.Errno { return f.Erase(1) }, api.OK, 2},
		{"Erase of what is blank", func() api.Errno { return f.Erase(1) }, api.OK, 3},
		{"Erase beyond", func() api.Errno { return f.Erase(3) }, api.ErrRange, 3},
		{"Read", func() api.Errno { _, e := f.Read(0, 96); return e }, api.OK, 3},
		{"Arm", func() api.Errno { return f.Arm(api.Crash{After: 1}) }, api.OK, 3},
		{"torn Write", func() api.Errno { return f.Write(1, nil) }, api.ErrOff, 4},
		{"Write while off", func() api.Errno { return f.Write(2, nil) }, api.ErrOff, 4},
		{"Erase while off", func() api.Errno { return f.Erase(2) }, api.ErrOff, 4},
		{"Boot", func() api.Errno { f.Boot(); return api.OK }, api.OK, 4},
		{"Arm", func() api.Errno { return f.Arm(api.Crash{After: 1}) }, api.OK, 4},
		{"torn Erase", func() api.Errno { return f.Erase(2) }, api.ErrOff, 5},
		{"Boot", func() api.Errno { f.Boot(); return api.OK }, api.OK, 5},
		{"Write", func() api.Errno { return f.Write(2, nil) }, api.OK, 6},
	}
	for _, s := range steps {
		must(t, s.what, s.do(), s.want)
		if f.Ops() != s.ops {
			t.Fatalf("behind %s: Ops %d, not %d", s.what, f.Ops(), s.ops)
		}
	}
}

// P4.3

func TestTornWrite(t *testing.T) {
	for laid := range 17 {
		for _, left := range []int{0, 1, 2, 7, 15, 16, 17, 31, 32, 33, 96, 200} {
			f := small(t)
			must(t, "Write", f.Write(1, row(1, 16)), api.OK)
			must(t, "Write", f.Write(4, row(1, 16)), api.OK)
			want := stateOf(f)
			must(t, "Arm", f.Arm(api.Crash{After: 1, Torn: row(0x80, left)}), api.OK)
			expect(t, "armed", f, want)
			must(t, "a torn write", f.Write(3, row(0x20, laid)), api.ErrOff)
			page := with(with(ffs(16), 0, row(0x20, laid)), 0, row(0x80, left))
			want.bytes, want.dirty[3], want.ops = with(want.bytes, 48, page), true, 3
			off := want
			off.on, off.bytes = false, nil
			expect(t, "behind a torn write", f, off)
			f.Boot()
			expect(t, "behind a torn write and a boot", f, want)
			must(t, "Write to what is torn", f.Write(3, nil), api.ErrDirty)
			must(t, "Erase of what is torn", f.Erase(1), api.OK)
			must(t, "Write to what was erased", f.Write(3, nil), api.OK)
		}
	}
}

func TestTornErasure(t *testing.T) {
	for _, left := range []int{0, 1, 15, 16, 17, 31, 32, 33, 95, 96, 97, 200} {
		for sector := range 3 {
			f := small(t)
			for _, p := range []int{0, 1, 3, 4, 5} {
				must(t, "Write", f.Write(p, row(byte(1+16*p), 16)), api.OK)
			}
			must(t, "Erase", f.Erase(2), api.OK)
			want := stateOf(f)
			must(t, "Arm", f.Arm(api.Crash{After: 1, Torn: row(0x80, left)}), api.OK)
			must(t, "a torn erasure", f.Erase(sector), api.ErrOff)
			want.bytes = with(want.bytes, 32*sector, row(0x80, min(left, 32)))
			want.dirty[2*sector], want.dirty[2*sector+1] = true, true
			want.ops, want.worn[sector] = want.ops+1, want.worn[sector]+1
			off := want
			off.on, off.bytes = false, nil
			expect(t, "behind a torn erasure", f, off)
			f.Boot()
			expect(t, "behind a torn erasure and a boot", f, want)
			must(t, "Write to what is torn", f.Write(2*sector, nil), api.ErrDirty)
			must(t, "Erase", f.Erase(sector), api.OK)
			want.bytes = with(want.bytes, 32*sector, ffs(32))
			want.dirty[2*sector], want.dirty[2*sector+1] = false, false
			want.ops, want.worn[sector] = want.ops+1, want.worn[sector]+1
			expect(t, "behind an erasure of what is torn", f, want)
		}
	}
}

func TestTornOnesAtTheFlashsEnd(t *testing.T) {
	f := small(t)
	must(t, "Arm", f.Arm(api.Crash{After: 1, Torn: row(1, 200)}), api.OK)
	must(t, "a torn write", f.Write(5, nil), api.ErrOff)
	f.Boot()
	if b, _ := f.Read(64, 32); !bytes.Equal(b, with(ffs(32), 16, row(1, 16))) {
		t.Error(b)
	}
	must(t, "Arm", f.Arm(api.Crash{After: 1, Torn: row(0x40, 200)}), api.OK)
	must(t, "a torn erasure", f.Erase(2), api.ErrOff)
	f.Boot()
	if b, _ := f.Read(32, 64); !bytes.Equal(b, with(ffs(64), 32, row(0x40, 32))) {
		t.Error(b)
	}
}

func TestArmCountsWhatWouldBeDone(t *testing.T) {
	f := small(t)
	must(t, "Write", f.Write(0, nil), api.OK)
	must(t, "Arm", f.Arm(api.Crash{After: 3, Torn: []byte{9}}), api.OK)
	for _, s := range []struct {
		what string
		e    api.Errno
		want api.Errno
	}{
		{"Write to a dirty page", f.Write(0, nil), api.ErrDirty},
		{"first", f.Write(1, nil), api.OK},
		{"Write beyond", f.Write(6, nil), api.ErrRange},
		{"Write that is too long", f.Write(2, make([]byte, 17)), api.ErrLong},
		{"Erase beyond", f.Erase(3), api.ErrRange},
		{"Arm that may not be", f.Arm(api.Crash{After: 0}), api.ErrArg},
		{"second", f.Erase(1), api.OK},
		{"Write to a dirty page", f.Write(1, nil), api.ErrDirty},
	} {
		must(t, s.what, s.e, s.want)
	}
	if _, e := f.Read(0, 96); e != api.OK || !f.On() {
		t.Fatal("the power is off too early", e)
	}
	must(t, "third", f.Write(2, []byte{1, 2}), api.ErrOff)
	f.Boot()
	if b, _ := f.Read(0, 96); f.Ops() != 4 || !bytes.Equal(b, with(ffs(96), 32, []byte{9, 2})) {
		t.Error(f.Ops(), b)
	}
}

func TestArmAfter(t *testing.T) {
	for after := 1; after <= 9; after++ {
		f := small(t)
		must(t, "Arm", f.Arm(api.Crash{After: after}), api.OK)
		for n := 1; n < after; n++ {
			must(t, "ahead of it", f.Erase(n%3), api.OK)
		}
		must(t, "that one", f.Erase(0), api.ErrOff)
		if f.On() || f.Ops() != after {
			t.Errorf("After %d: On %v, Ops %d", after, f.On(), f.Ops())
		}
	}
	f := small(t)
	must(t, "Arm", f.Arm(api.Crash{After: math.MaxInt, Torn: []byte{1}}), api.OK)
	for n := range 1000 {
		must(t, "Erase", f.Erase(n%3), api.OK)
	}
}

func TestArmRefuses(t *testing.T) {
	f := small(t)
	must(t, "Arm", f.Arm(api.Crash{After: 2, Torn: []byte{1}}), api.OK)
	for _, n := range []int{0, -1, -2, math.MinInt + 1, math.MinInt} {
		must(t, "Arm", f.Arm(api.Crash{After: n, Torn: []byte{2}}), api.ErrArg)
	}
	must(t, "first", f.Write(0, nil), api.OK)
	must(t, "second, armed still", f.Write(1, nil), api.ErrOff)
	must(t, "Arm while off", f.Arm(api.Crash{After: 1, Torn: []byte{3}}), api.ErrOff)
	must(t, "Arm while off, ErrArg first", f.Arm(api.Crash{After: 0}), api.ErrArg)
	f.Boot()
	must(t, "Write", f.Write(2, nil), api.OK)
	if b, _ := f.Read(0, 96); !bytes.Equal(b, with(ffs(96), 16, []byte{1})) {
		t.Error(b)
	}
}

func TestArmAnew(t *testing.T) {
	f := small(t)
	must(t, "Arm", f.Arm(api.Crash{After: 2, Torn: row(1, 16)}), api.OK)
	must(t, "Write", f.Write(0, nil), api.OK)
	must(t, "Arm anew", f.Arm(api.Crash{After: 2, Torn: []byte{9}}), api.OK)
	must(t, "Write", f.Write(1, nil), api.OK)
	must(t, "torn", f.Write(2, []byte{4, 5}), api.ErrOff)
	f.Boot()
	if b, _ := f.Read(0, 96); !bytes.Equal(b, with(ffs(96), 32, []byte{9, 5})) {
		t.Error(b)
	}
	must(t, "Arm", f.Arm(api.Crash{After: 1}), api.OK)
	must(t, "Arm later", f.Arm(api.Crash{After: 3}), api.OK)
	must(t, "Write", f.Write(3, nil), api.OK)
	must(t, "Write", f.Write(4, nil), api.OK)
	must(t, "Arm sooner", f.Arm(api.Crash{After: 1}), api.OK)
	must(t, "torn", f.Write(5, []byte{7}), api.ErrOff)
	f.Boot()
	if b, _ := f.Read(80, 2); !bytes.Equal(b, []byte{7, 0xff}) { // Torn is empty: nothing of an earlier one is left
		t.Error(b)
	}
}

func TestBootDisarms(t *testing.T) {
	f := small(t)
	was := stateOf(f)
	f.Boot()
	expect(t, "behind a boot of what is on", f, was)
	must(t, "Arm", f.Arm(api.Crash{After: 1, Torn: []byte{1}}), api.OK)
	f.Boot()
	expect(t, "behind a boot of what is armed", f, was)
	for p := range 6 {
		must(t, "Write", f.Write(p, nil), api.OK)
	}
	for range 3 { // what was torn is torn once
		must(t, "Arm", f.Arm(api.Crash{After: 1, Torn: []byte{1}}), api.OK)
		must(t, "torn", f.Erase(0), api.ErrOff)
		f.Boot()
		f.Boot()
		must(t, "Erase", f.Erase(0), api.OK)
		must(t, "Write", f.Write(0, []byte{2}), api.OK)
		if b, _ := f.Read(0, 2); !f.On() || !bytes.Equal(b, []byte{2, 0xff}) {
			t.Error(f.On(), b)
		}
	}
}

func TestOffRefusesAll(t *testing.T) {
	f := small(t)
	must(t, "Write", f.Write(0, row(1, 16)), api.OK)
	must(t, "Arm", f.Arm(api.Crash{After: 1}), api.OK)
	must(t, "torn", f.Write(1, row(1, 16)), api.ErrOff)
	was := stateOf(f)
	for _, s := range []struct {
		what string
		do   func() api.Errno
		want api.Errno
	}{
		{"Write", func() api.Errno { return f.Write(2, []byte{1}) }, api.ErrOff},
		{"Write to a dirty page: ErrOff first", func() api.Errno { return f.Write(0, []byte{1}) }, api.ErrOff},
		{"Write to the torn page: ErrOff first", func() api.Errno { return f.Write(1, nil) }, api.ErrOff},
		{"Write that is too long: ErrLong first", func() api.Errno { return f.Write(2, make([]byte, 17)) }, api.ErrLong},
		{"Write to a dirty page that is too long", func() api.Errno { return f.Write(0, make([]byte, 17)) }, api.ErrLong},
		{"Write beyond: ErrRange first", func() api.Errno { return f.Write(6, make([]byte, 17)) }, api.ErrRange},
		{"Erase", func() api.Errno { return f.Erase(0) }, api.ErrOff},
		{"Erase beyond: ErrRange first", func() api.Errno { return f.Erase(3) }, api.ErrRange},
		{"Erase below", func() api.Errno { return f.Erase(-1) }, api.ErrRange},
		{"Arm", func() api.Errno { return f.Arm(api.Crash{After: 1}) }, api.ErrOff},
		{"Arm: ErrArg first", func() api.Errno { return f.Arm(api.Crash{After: 0}) }, api.ErrArg},
	} {
		must(t, s.what, s.do(), s.want)
		expect(t, s.what, f, was)
	}
	for _, c := range []struct {
		at, n int
		want  api.Errno
	}{{0, 96, api.ErrOff}, {0, 0, api.ErrOff}, {96, 0, api.ErrOff}, {97, 0, api.ErrRange}, {96, 1, api.ErrRange}, {-1, 1, api.ErrRange}, {0, -1, api.ErrRange}, {math.MaxInt, math.MaxInt, api.ErrRange}} {
		if b, e := f.Read(c.at, c.n); len(b) != 0 || e != c.want {
			t.Errorf("Read(%d, %d) while off: %v %d, not %d", c.at, c.n, b, e, c.want)
		}
	}
	f.Boot()
	must(t, "Write", f.Write(2, nil), api.OK)
	must(t, "Write to a dirty page that is too long", f.Write(2, make([]byte, 17)), api.ErrLong)
}

func TestArmNeitherChangesNorKeeps(t *testing.T) {
	for _, n := range []int{0, 3, 16, 32, 50} {
		f := small(t)
		all := bytes.Repeat([]byte{0xaa}, 80)
		copy(all, row(1, n))
		was := bytes.Clone(all)
		must(t, "Arm", f.Arm(api.Crash{After: 1, Torn: all[:n]}), api.OK)
		if !bytes.Equal(all, was) {
			t.Errorf("Arm changes Torn of %d bytes, or its spare room: %v", n, all)
		}
		for i := range all {
			all[i] = 0x55
		}
		kept := bytes.Clone(all)
		must(t, "torn", f.Erase(1), api.ErrOff)
		f.Boot()
		if b, _ := f.Read(0, 96); !bytes.Equal(b, with(ffs(96), 32, row(1, min(n, 32)))) {
			t.Errorf("Arm keeps Torn of %d bytes: %v", n, b)
		}
		must(t, "Erase", f.Erase(1), api.OK)
		must(t, "Write", f.Write(2, row(9, 16)), api.OK)
		if !bytes.Equal(all, kept) {
			t.Errorf("Torn of %d bytes changes later: %v", n, all)
		}
	}
}

// P4.4

// model is a flash as the document words it: each page has bytes of its own.
type model struct {
	g     api.Geometry
	pages [][]byte
	dirty []bool
	worn  []int
	ops   int
	off   bool
	crash *api.Crash
}

func newModel(g api.Geometry) *model {
	m := &model{g: g, dirty: make([]bool, g.Sectors*g.Pages), worn: make([]int, g.Sectors)}
	for range m.dirty {
		m.pages = append(m.pages, ffs(g.Bytes))
	}
	return m
}

func (m *model) state() state {
	s := state{g: m.g, size: len(m.pages) * m.g.Bytes, on: !m.off, ops: m.ops, dirty: m.dirty, worn: m.worn}
	if !m.off {
		s.bytes = bytes.Join(m.pages, nil)
	}
	return s
}

// torn tells what is left behind, if the step that is done now is the one; there is none else.
func (m *model) torn() (left []byte, is bool) {
	m.ops++
	if m.crash == nil {
		return nil, false
	}
	m.crash.After--
	if m.crash.After > 0 {
		return nil, false
	}
	m.off = true
	return m.crash.Torn, true
}

func (m *model) write(page int, b []byte) api.Errno {
	if page < 0 || page >= len(m.pages) {
		return api.ErrRange
	}
	if len(b) > m.g.Bytes {
		return api.ErrLong
	}
	if m.off {
		return api.ErrOff
	}
	if m.dirty[page] {
		return api.ErrDirty
	}
	left, is := m.torn()
	m.dirty[page] = true
	m.pages[page] = with(with(ffs(m.g.Bytes), 0, b), 0, left)
	if is {
		return api.ErrOff
	}
	return api.OK
}

func (m *model) erase(sector int) api.Errno {
	if sector < 0 || sector >= m.g.Sectors {
		return api.ErrRange
	}
	if m.off {
		return api.ErrOff
	}
	left, is := m.torn()
	m.worn[sector]++
	for i := range m.g.Pages {
		page := sector*m.g.Pages + i
		m.dirty[page] = is
		if is {
			m.pages[page] = with(m.pages[page], 0, left)
			left = left[min(len(left), m.g.Bytes):]
		} else {
			m.pages[page] = ffs(m.g.Bytes)
		}
	}
	if is {
		return api.ErrOff
	}
	return api.OK
}

func (m *model) arm(c api.Crash) api.Errno {
	if c.After < 1 {
		return api.ErrArg
	}
	if m.off {
		return api.ErrOff
	}
	m.crash = &c
	return api.OK
}

func (m *model) boot() {
	m.off, m.crash = false, nil
}

// someBytes is bytes of any kind, at most n of them.
func someBytes(r *rand.Rand, n int) []byte {
	b := make([]byte, r.Intn(n+1))
	r.Read(b)
	return b
}

func TestScriptsAnswerAsTheModel(t *testing.T) {
	for seed := range int64(60) {
		r := rand.New(rand.NewSource(seed))
		g := geometry(1+r.Intn(5), 1+r.Intn(5), 16+r.Intn(20))
		f, m := fresh(t, g), newModel(g)
		for range 400 {
			what, got, want := "", api.OK, api.OK
			switch r.Intn(12) {
			case 0, 1, 2, 3, 4, 5:
				page, b := r.Intn(len(m.pages)+2)-1, someBytes(r, g.Bytes+1)
				what, got, want = "Write", f.Write(page, b), m.write(page, b)
			case 6, 7:
				sector := r.Intn(g.Sectors+2) - 1
				what, got, want = "Erase", f.Erase(sector), m.erase(sector)
			case 8, 9:
				c := api.Crash{After: r.Intn(6), Torn: someBytes(r, g.Pages*g.Bytes+9)}
				what, got, want = "Arm", f.Arm(c), m.arm(c)
			default:
				what = "Boot"
				f.Boot()
				m.boot()
			}
			must(t, what, got, want)
			expect(t, what, f, m.state())
		}
	}
}

func TestWhatIsWrittenIsReadUntilItIsErased(t *testing.T) {
	f := fresh(t, geometry(4, 4, 32))
	held := map[int][]byte{}
	hold := func(what string) {
		t.Helper()
		for p := range 16 {
			want, is := held[p]
			if !is {
				want = ffs(32)
			}
			if b, e := f.Read(32*p, 32); !bytes.Equal(b, want) || e != api.OK {
				t.Fatalf("%s: page %d: %v %d", what, p, b, e)
			}
		}
	}
	for _, p := range []int{15, 0, 7, 8, 3, 4, 12, 11, 1, 14, 5, 10} {
		held[p] = row(byte(p), 32)
		must(t, "Write", f.Write(p, held[p]), api.OK)
		hold("behind a write")
	}
	must(t, "Arm", f.Arm(api.Crash{After: 1, Torn: row(0x70, 40)}), api.OK)
	must(t, "torn", f.Write(6, nil), api.ErrOff)
	f.Boot()
	held[6] = row(0x70, 32)
	hold("behind a torn write")
	for sector := range 4 {
		must(t, "Erase", f.Erase(sector), api.OK)
		for i := range 4 {
			delete(held, 4*sector+i)
		}
		hold("behind an erasure")
	}
}

func TestCallsOnOneFlashLeaveAnotherAlone(t *testing.T) {
	script := func(f *flash.Flash, step int) {
		switch step % 5 {
		case 0:
			f.Write(step%6, []byte{byte(step)})
		case 1:
			f.Arm(api.Crash{After: 2, Torn: []byte{byte(step)}})
		case 2:
			f.Erase(step % 3)
		case 3:
			f.Write(step%6, nil)
		case 4:
			f.Boot()
		}
	}
	alone := small(t)
	for step := range 50 {
		script(alone, step)
	}
	a, b := small(t), small(t)
	for step := range 50 {
		script(a, step)
		script(b, step+3)
	}
	expect(t, "beside another flash", a, stateOf(alone))
}
