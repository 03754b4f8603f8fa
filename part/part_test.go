package part_test

import (
	"math"
	"math/rand"
	"testing"

	"portmanteau/api"
	"portmanteau/flash"
	"portmanteau/part"
)

// farNumbers is numbers that name no slot, and no byte and no sector of one, whatever they are added to or multiplied by.
var farNumbers = []int{math.MinInt, math.MinInt + 1, -1 << 62, -1 << 32, -3, -2, -1, 1 << 25, 1 << 31, 1 << 32, 1 << 62, math.MaxInt - 1, math.MaxInt}

// geometry is one in the order in which the document writes it.
func geometry(sectors, pages, size int) api.Geometry {
	return api.Geometry{Sectors: sectors, Pages: pages, Bytes: size}
}

// planOf makes the plan of g, which there must be.
func planOf(t testing.TB, g api.Geometry) api.Plan {
	t.Helper()
	p, e := part.Make(g)
	if e != api.OK {
		t.Fatalf("Make(%v): %d", g, e)
	}
	return p
}

// example is the plan of the document's example.
func example(t testing.TB) api.Plan {
	t.Helper()
	return planOf(t, geometry(7, 4, 64))
}

// wantSectors counts the sectors of a slot, one for both slots at a time, as long as there are two, and bytes for one more.
func wantSectors(g api.Geometry) int {
	n := 0
	for rest := g.Sectors - 2; rest >= 2; rest -= 2 {
		if n > 0 && (n+1)*g.Pages*g.Bytes > api.MaxImage {
			break
		}
		n++
	}
	return n
}

// wantPlan is what Make should answer.
func wantPlan(g api.Geometry) (api.Plan, api.Errno) {
	if e := flash.Check(g); e != api.OK {
		return api.Plan{}, e
	}
	if g.Sectors <= 3 || g.Bytes <= 63 {
		return api.Plan{}, api.ErrArg
	}
	n := wantSectors(g)
	return api.Plan{Geometry: g, Boot: [2]int{0, 1}, Slot: [2]int{2, 2 + n}, Sectors: n}, api.OK
}

// wantCheck is what Check should answer.
func wantCheck(p api.Plan) api.Errno {
	want, e := wantPlan(p.Geometry)
	if e == api.OK && p == want {
		return api.OK
	}
	return api.ErrArg
}

// geometries is many of them, right and wrong.
func geometries() []api.Geometry {
	var all []api.Geometry
	for _, sectors := range []int{math.MinInt, -1, 0, 1, 2, 3, 4, 5, 6, 7, 8, 9, 16, 31, 255, 256, 257, 4095, 4096, 4097, math.MaxInt} {
		for _, pages := range []int{math.MinInt, -1, 0, 1, 2, 3, 4, 64, 1023, 1024, 1025, math.MaxInt} {
			for _, size := range []int{math.MinInt, -1, 0, 15, 16, 17, 63, 64, 65, 100, 4096, 65535, 65536, 65537, math.MaxInt} {
				all = append(all, geometry(sectors, pages, size))
			}
		}
	}
	return all
}

// goodPlans is the plans of all geometries that have one.
func goodPlans(t testing.TB) []api.Plan {
	t.Helper()
	var all []api.Plan
	for _, g := range geometries() {
		if _, e := wantPlan(g); e == api.OK {
			all = append(all, planOf(t, g))
		}
	}
	if len(all) < 100 {
		t.Fatalf("only %d plans", len(all))
	}
	return all
}

// fields is all numbers of a plan, to be changed.
func fields(p *api.Plan) []*int {
	return []*int{&p.Geometry.Sectors, &p.Geometry.Pages, &p.Geometry.Bytes, &p.Boot[0], &p.Boot[1], &p.Slot[0], &p.Slot[1], &p.Sectors}
}

// wrongPlans is plans that are not what Make makes.
func wrongPlans(t testing.TB) []api.Plan {
	t.Helper()
	p := example(t)
	list := []api.Plan{
		{},
		{Geometry: p.Geometry},
		{Geometry: geometry(3, 4, 64), Boot: [2]int{0, 1}, Slot: [2]int{2, 2}},
		{Geometry: geometry(3, 4, 64), Boot: [2]int{0, 1}, Slot: [2]int{2, 3}, Sectors: 1},
		{Geometry: geometry(7, 4, 63), Boot: [2]int{0, 1}, Slot: [2]int{2, 4}, Sectors: 2},
		{Geometry: geometry(4096, 1024, 65536), Boot: [2]int{0, 1}, Slot: [2]int{2, 2049}, Sectors: 2047},
		{Geometry: p.Geometry, Boot: [2]int{1, 0}, Slot: p.Slot, Sectors: p.Sectors},
		{Geometry: p.Geometry, Boot: p.Boot, Slot: [2]int{4, 2}, Sectors: p.Sectors},
		{Geometry: p.Geometry, Boot: p.Boot, Slot: [2]int{2, 3}, Sectors: 1},
		{Geometry: p.Geometry, Boot: p.Boot, Slot: [2]int{3, 5}, Sectors: p.Sectors},
	}
	for i := range fields(&p) {
		for _, x := range farNumbers {
			q := p
			*fields(&q)[i] = x
			list = append(list, q)
		}
	}
	return list
}

// P7.1

func TestMakeExamples(t *testing.T) {
	for _, c := range []struct {
		g       api.Geometry
		slot    [2]int
		sectors int
	}{
		{geometry(7, 4, 64), [2]int{2, 4}, 2},
		{geometry(4, 4, 64), [2]int{2, 3}, 1},
		{geometry(5, 4, 64), [2]int{2, 3}, 1},
		{geometry(6, 4, 64), [2]int{2, 4}, 2},
		{geometry(8, 4, 64), [2]int{2, 5}, 3},
		{geometry(4, 1, 64), [2]int{2, 3}, 1},
		{geometry(4, 64, 65536), [2]int{2, 3}, 1},
		{geometry(5, 51, 65536), [2]int{2, 3}, 1},
		{geometry(6, 1024, 2730), [2]int{2, 4}, 2},
		{geometry(16, 16, 65536), [2]int{2, 9}, 7},
		{geometry(256, 1, 65536), [2]int{2, 129}, 127},
		{geometry(4096, 1, 4096), [2]int{2, 2049}, 2047},
		{geometry(4095, 1, 4096), [2]int{2, 2048}, 2046},
		{geometry(4096, 64, 64), [2]int{2, 2049}, 2047},
	} {
		want := api.Plan{Geometry: c.g, Boot: [2]int{0, 1}, Slot: c.slot, Sectors: c.sectors}
		if p, e := part.Make(c.g); p != want || e != api.OK {
			t.Errorf("Make(%v): %v %d, not %v", c.g, p, e, want)
		}
	}
}

func TestMakeRefuses(t *testing.T) {
	for _, c := range []struct {
		g    api.Geometry
		want api.Errno
	}{
		{geometry(3, 4, 64), api.ErrArg},
		{geometry(2, 4, 64), api.ErrArg},
		{geometry(1, 4, 64), api.ErrArg},
		{geometry(0, 4, 64), api.ErrArg},
		{geometry(-7, 4, 64), api.ErrArg},
		{geometry(4, 4, 63), api.ErrArg},
		{geometry(7, 4, 16), api.ErrArg},
		{geometry(7, 4, 15), api.ErrArg},
		{geometry(3, 4, 63), api.ErrArg},
		{geometry(7, 0, 64), api.ErrArg},
		{geometry(7, 1025, 64), api.ErrArg},
		{geometry(4097, 1, 64), api.ErrArg},
		{geometry(7, 1, 65537), api.ErrArg},
		{geometry(4, 65, 65536), api.ErrLong},
		{geometry(3, 1024, 65536), api.ErrLong}, // flash.Check's error comes first
		{geometry(4096, 1024, 63), api.ErrLong},
		{geometry(4096, 1024, 65536), api.ErrLong},
		{api.Geometry{}, api.ErrArg},
	} {
		if p, e := part.Make(c.g); p != (api.Plan{}) || e != c.want {
			t.Errorf("Make(%v): %v %d, not %d", c.g, p, e, c.want)
		}
	}
}

func TestMakeOfMany(t *testing.T) {
	for _, g := range geometries() {
		want, wantE := wantPlan(g)
		if p, e := part.Make(g); p != want || e != wantE {
			t.Fatalf("Make(%v): %v %d, not %v %d", g, p, e, want, wantE)
		}
	}
	for sectors := range 4097 {
		g := geometry(sectors, 1, 64)
		want, wantE := wantPlan(g)
		if p, e := part.Make(g); p != want || e != wantE {
			t.Fatalf("Make(%v): %v %d, not %v %d", g, p, e, want, wantE)
		}
	}
}

func TestSlotHoldsNoMoreThanAnImage(t *testing.T) {
	most := 0
	for _, p := range goodPlans(t) {
		most = max(most, part.Size(p))
		if part.Size(p) > api.MaxImage {
			t.Fatalf("%v: a slot of %d bytes", p, part.Size(p))
		}
	}
	if want := api.MaxImage - 4096; most != want {
		t.Errorf("the greatest slot: %d bytes, not %d", most, want)
	}
}

func TestCheckOfMade(t *testing.T) {
	for _, p := range goodPlans(t) {
		if e := part.Check(p); e != api.OK {
			t.Fatalf("Check(%v): %d", p, e)
		}
	}
}

func TestCheckOfChanged(t *testing.T) {
	for _, g := range []api.Geometry{geometry(4, 1, 64), geometry(5, 2, 65), geometry(6, 4, 64), geometry(7, 4, 64), geometry(4096, 64, 64), geometry(4, 64, 65536)} {
		p := planOf(t, g)
		for i := range fields(&p) {
			for _, by := range []int{-64, -2, -1, 1, 2, 64, 1 << 32, math.MinInt} {
				q := p
				*fields(&q)[i] += by
				want := api.ErrArg
				if i < 3 { // another geometry may have just such a plan
					want = wantCheck(q)
				}
				if e := part.Check(q); e != want {
					t.Errorf("Check(%v), of %v: %d, not %d", q, p, e, want)
				}
			}
		}
	}
}

// A sector that is left over is in no slot: a plan is right for a flash with it, and for one without.
func TestCheckOfLeftOver(t *testing.T) {
	p := example(t)
	for sectors, want := range map[int]api.Errno{5: api.ErrArg, 6: api.OK, 7: api.OK, 8: api.ErrArg} {
		p.Geometry.Sectors = sectors
		if e := part.Check(p); e != want {
			t.Errorf("%d sectors: %d, not %d", sectors, e, want)
		}
	}
}

func TestCheckOfWrong(t *testing.T) {
	for _, p := range wrongPlans(t) {
		if e := part.Check(p); e != api.ErrArg {
			t.Errorf("Check(%v): %d", p, e)
		}
	}
}

// P7.2

func TestExample(t *testing.T) {
	p := example(t)
	if n := part.Size(p); n != 512 {
		t.Errorf("Size: %d", n)
	}
	for slot, want := range [2]int{512, 1024} {
		if at, e := part.Base(p, slot); at != want || e != api.OK {
			t.Errorf("Base of %d: %d %d", slot, at, e)
		}
	}
	for _, c := range []struct{ slot, at, page, off int }{
		{0, 0, 8, 0}, {0, 1, 8, 1}, {0, 63, 8, 63}, {0, 64, 9, 0}, {0, 255, 11, 63}, {0, 256, 12, 0}, {0, 511, 15, 63},
		{1, 0, 16, 0}, {1, 300, 20, 44}, {1, 511, 23, 63},
	} {
		if page, off, e := part.Page(p, c.slot, c.at); page != c.page || off != c.off || e != api.OK {
			t.Errorf("Page(%d, %d): %d %d %d", c.slot, c.at, page, off, e)
		}
	}
	for _, c := range []struct{ slot, i, want int }{{0, 0, 2}, {0, 1, 3}, {1, 0, 4}, {1, 1, 5}} {
		if n, e := part.Sector(p, c.slot, c.i); n != c.want || e != api.OK {
			t.Errorf("Sector(%d, %d): %d %d", c.slot, c.i, n, e)
		}
	}
}

func TestSizeAndBaseOfMany(t *testing.T) {
	for _, p := range goodPlans(t) {
		g := p.Geometry
		size := wantSectors(g) * g.Pages * g.Bytes
		if n := part.Size(p); n != size {
			t.Fatalf("Size(%v): %d, not %d", p, n, size)
		}
		first := 2 * g.Pages * g.Bytes
		for slot, want := range [2]int{first, first + size} {
			if at, e := part.Base(p, slot); at != want || e != api.OK {
				t.Fatalf("Base(%v, %d): %d %d, not %d", p, slot, at, e, want)
			}
		}
	}
}

// slotEdges holds what is answered of a slot's first and last byte and sector, and beside them.
func slotEdges(t *testing.T, p api.Plan, slot int) {
	t.Helper()
	last := part.Size(p) - 1
	sectors := wantSectors(p.Geometry)
	first := 2 + slot*sectors
	for _, c := range []struct{ at, page, off int }{
		{0, first * p.Geometry.Pages, 0},
		{last, (first+sectors)*p.Geometry.Pages - 1, p.Geometry.Bytes - 1},
	} {
		if page, off, e := part.Page(p, slot, c.at); page != c.page || off != c.off || e != api.OK {
			t.Fatalf("Page(%v, %d, %d): %d %d %d", p, slot, c.at, page, off, e)
		}
	}
	for _, i := range []int{0, sectors - 1} {
		if n, e := part.Sector(p, slot, i); n != first+i || e != api.OK {
			t.Fatalf("Sector(%v, %d, %d): %d %d", p, slot, i, n, e)
		}
	}
	for _, at := range append([]int{last + 1}, farNumbers...) {
		if page, off, e := part.Page(p, slot, at); page != 0 || off != 0 || e != api.ErrRange {
			t.Fatalf("Page(%v, %d, %d): %d %d %d", p, slot, at, page, off, e)
		}
	}
	for _, i := range append([]int{sectors}, farNumbers...) {
		if n, e := part.Sector(p, slot, i); n != 0 || e != api.ErrRange {
			t.Fatalf("Sector(%v, %d, %d): %d %d", p, slot, i, n, e)
		}
	}
}

func TestSlotEdges(t *testing.T) {
	for _, p := range goodPlans(t) {
		slotEdges(t, p, 0)
		slotEdges(t, p, 1)
	}
}

// refuses holds that nothing is told of that slot, whatever is asked for.
func refuses(t *testing.T, p api.Plan, slot int) {
	t.Helper()
	if n, e := part.Base(p, slot); n != 0 || e != api.ErrArg {
		t.Errorf("Base(%v, %d): %d %d", p, slot, n, e)
	}
	for _, x := range append([]int{0, 1, 512}, farNumbers...) { // that x is in no slot is told behind ErrArg
		if page, off, e := part.Page(p, slot, x); page != 0 || off != 0 || e != api.ErrArg {
			t.Errorf("Page(%v, %d, %d): %d %d %d", p, slot, x, page, off, e)
		}
		if n, e := part.Sector(p, slot, x); n != 0 || e != api.ErrArg {
			t.Errorf("Sector(%v, %d, %d): %d %d", p, slot, x, n, e)
		}
	}
}

func TestNoSuchSlot(t *testing.T) {
	for _, slot := range append([]int{-1, 2, 3}, farNumbers...) {
		refuses(t, example(t), slot)
	}
}

func TestWrongPlanTellsNothing(t *testing.T) {
	for _, p := range wrongPlans(t) {
		if n := part.Size(p); n != 0 {
			t.Errorf("Size(%v): %d", p, n)
		}
		for slot := -1; slot <= 2; slot++ {
			refuses(t, p, slot)
		}
	}
}

func TestOther(t *testing.T) {
	for slot, want := range map[int]int{0: 1, 1: 0, 2: 0, -1: 0, 3: 0, -2: 0, math.MinInt: 0, math.MaxInt: 0, 1 << 32: 0} {
		if n := part.Other(slot); n != want {
			t.Errorf("Other(%d): %d, not %d", slot, n, want)
		}
	}
}

// P7.3

// sectorsOf is what each sector of the flash is part of: 0 nothing, 1 and 2 the boot records, 3 and 4 the slots.
func sectorsOf(t *testing.T, p api.Plan) []int {
	t.Helper()
	of := make([]int, p.Geometry.Sectors)
	lay := func(sector, what int) {
		if sector < 0 || sector >= len(of) {
			t.Fatalf("%v: sector %d is not in the flash", p, sector)
		}
		if of[sector] != 0 {
			t.Fatalf("%v: sector %d is in %d and %d", p, sector, of[sector], what)
		}
		of[sector] = what
	}
	for i, s := range p.Boot {
		lay(s, 1+i)
	}
	for slot := range p.Slot {
		for i := range p.Sectors {
			s, e := part.Sector(p, slot, i)
			if e != api.OK {
				t.Fatalf("Sector(%v, %d, %d): %d", p, slot, i, e)
			}
			lay(s, 3+slot)
		}
	}
	return of
}

func TestNoSectorInCommon(t *testing.T) {
	for _, p := range goodPlans(t) {
		free := 0
		for _, what := range sectorsOf(t, p) {
			if what == 0 {
				free++
			}
		}
		if free > 1 {
			t.Fatalf("%v: %d sectors are left over", p, free)
		}
	}
}

// pagesLie holds that a slot's byte is on a page of its own part, and where Base says.
func pagesLie(t *testing.T, p api.Plan, of []int, slot, at int) {
	t.Helper()
	page, off, e := part.Page(p, slot, at)
	base, e2 := part.Base(p, slot)
	if e != api.OK || e2 != api.OK || off < 0 || off >= p.Geometry.Bytes || page*p.Geometry.Bytes+off != base+at {
		t.Fatalf("Page(%v, %d, %d): %d %d %d; Base: %d %d", p, slot, at, page, off, e, base, e2)
	}
	sector, e := part.Sector(p, slot, at/(p.Geometry.Pages*p.Geometry.Bytes))
	if e != api.OK || page/p.Geometry.Pages != sector || of[sector] != 3+slot {
		t.Fatalf("Page(%v, %d, %d): %d, but sector %d", p, slot, at, page, sector)
	}
}

func TestEveryByteLiesInItsPart(t *testing.T) {
	for _, g := range []api.Geometry{geometry(4, 1, 64), geometry(5, 1, 65), geometry(6, 3, 100), geometry(7, 4, 64), geometry(9, 2, 127)} {
		p := planOf(t, g)
		of := sectorsOf(t, p)
		for slot := range 2 {
			for at := range part.Size(p) {
				pagesLie(t, p, of, slot, at)
			}
		}
	}
}

func TestSomeBytesLieInTheirPart(t *testing.T) {
	r := rand.New(rand.NewSource(7))
	for _, p := range goodPlans(t) {
		of := sectorsOf(t, p)
		for range 20 {
			pagesLie(t, p, of, r.Intn(2), r.Intn(part.Size(p)))
		}
	}
}

// A write to the page that Page names is read at the place that Base tells, and an erasure of the sector that Sector names takes it away.
func TestInAFlash(t *testing.T) {
	p := example(t)
	f, e := flash.New(p.Geometry)
	if e != api.OK {
		t.Fatal(e)
	}
	for slot := range 2 {
		page, off, _ := part.Page(p, slot, 300)
		base, _ := part.Base(p, slot)
		sector, _ := part.Sector(p, slot, 1)
		b := make([]byte, 64)
		b[off] = byte(7 + slot)
		if e := f.Write(page, b); e != api.OK {
			t.Fatal(e)
		}
		if got, e := f.Read(base+300, 1); e != api.OK || got[0] != byte(7+slot) {
			t.Errorf("slot %d: %v %d", slot, got, e)
		}
		if e := f.Erase(sector); e != api.OK {
			t.Fatal(e)
		}
		if got, e := f.Read(base+300, 1); e != api.OK || got[0] != 0xff {
			t.Errorf("slot %d, erased: %v %d", slot, got, e)
		}
	}
}

// From arguments alone

func TestTwiceTheSame(t *testing.T) {
	g := geometry(7, 4, 64)
	first := planOf(t, g)
	changed := first
	changed.Slot[1] = 5
	part.Check(changed)
	part.Size(planOf(t, geometry(9, 4, 64)))
	if p := planOf(t, g); p != first || part.Check(p) != api.OK || part.Size(first) != 512 {
		t.Errorf("%v, then %v", first, p)
	}
}
