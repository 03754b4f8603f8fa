package keep_test

import (
	"bytes"
	"fmt"
	"math"
	"slices"
	"testing"

	"portmanteau/api"
	"portmanteau/boot"
	"portmanteau/flash"
	"portmanteau/keep"
	"portmanteau/part"
)

// record is one in the order in which the document writes it.
func record(seq uint64, slot, length int, sum uint64) api.Record {
	return api.Record{Seq: seq, Slot: slot, Len: length, Sum: sum}
}

// Records that differ in all fields, and some that differ in one alone.
var (
	first  = record(1, 0, 5, 9)
	second = record(2, 1, 6, 8)
	third  = record(3, 0, 700, math.MaxUint64)
	twin   = record(2, 1, 6, 7) // second but for its Sum
	great  = record(api.MaxSeq, 1, api.MaxImage, 0)
	least  = record(0, 0, 1, 0)
)

// wrongRecords are some that Encode refuses.
var wrongRecords = []api.Record{{}, record(api.MaxSeq+1, 0, 5, 9), record(1, 2, 5, 9), record(1, -1, 5, 9), record(1, 0, 0, 9), record(1, 0, api.MaxImage+1, 9)}

// geometries of sectors of one page and of more, of the least pages and of longer ones.
var geometries = []api.Geometry{
	{Sectors: 4, Pages: 1, Bytes: 64},
	{Sectors: 4, Pages: 3, Bytes: 64},
	{Sectors: 7, Pages: 2, Bytes: 100},
	{Sectors: 9, Pages: 4, Bytes: 65},
}

// state is what both copies tell: nil where one tells nothing.
type state [2]*api.Record

func (s state) String() string {
	var l [2]string
	for side, r := range s {
		l[side] = "nothing"
		if r != nil {
			l[side] = fmt.Sprint(*r)
		}
	}
	return l[0] + " and " + l[1]
}

// states are all that the chapter tells apart: neither told, one alone, both with the same Seq (alike and not), either one the greater.
func states() []state {
	all := []*api.Record{nil, &first, &second, &twin, &third, &great, &least}
	var l []state
	for _, a := range all {
		for _, b := range all {
			l = append(l, state{a, b})
		}
	}
	return l
}

// front tells which copy comes first, -1 if none is told: by another hand than the program's.
func (s state) front() int {
	switch {
	case s[0] == nil && s[1] == nil:
		return -1
	case s[0] == nil:
		return 1
	case s[1] == nil || s[0].Seq >= s[1].Seq:
		return 0
	}
	return 1
}

// turns tells which copies are written one behind the other: by another hand than the program's.
func (s state) turns() []int {
	if s.front() == 1 {
		return []int{0, 1}
	}
	return []int{1, 0}
}

// plan is that of a geometry.
func plan(t testing.TB, g api.Geometry) api.Plan {
	t.Helper()
	p, e := part.Make(g)
	if e != api.OK {
		t.Fatal(g, e)
	}
	return p
}

// encoded is a record's bytes.
func encoded(t testing.TB, r api.Record) []byte {
	t.Helper()
	b, e := boot.Encode(r)
	if e != api.OK {
		t.Fatal(r, e)
	}
	return b
}

// must holds that something went well.
func must(t testing.TB, e api.Errno) {
	t.Helper()
	if e != api.OK {
		t.Fatal("an error where there is none:", e)
	}
}

// device is a flash of which every page is written, with such copies: what tells nothing holds bytes that are no record.
func device(t testing.TB, g api.Geometry, s state) *flash.Flash {
	t.Helper()
	f, e := flash.New(g)
	must(t, e)
	for page := range g.Sectors * g.Pages {
		b := bytes.Repeat([]byte{byte(page + 1)}, g.Bytes)
		side := page / g.Pages
		if side < 2 && page%g.Pages == 0 && s[side] != nil {
			copy(b, encoded(t, *s[side]))
		}
		must(t, f.Write(page, b))
	}
	return f
}

// op is an erasure of a sector, or a write of a page.
type op struct {
	page int // -1: the sector is erased
	at   int // the sector
	b    []byte
}

// written is what a Write of r to these copies does to the flash, one behind the other.
func written(t testing.TB, g api.Geometry, r api.Record, sides ...int) []op {
	t.Helper()
	var l []op
	for _, side := range sides {
		l = append(l, op{page: -1, at: side}, op{page: side * g.Pages, at: side, b: encoded(t, r)})
	}
	return l
}

// done does what ops say up to the first error, and tells it.
func done(f *flash.Flash, ops []op) api.Errno {
	for _, o := range ops {
		e := api.OK
		if o.page < 0 {
			e = f.Erase(o.at)
		} else {
			e = f.Write(o.page, o.b)
		}
		if e != api.OK {
			return e
		}
	}
	return api.OK
}

// held is all that a flash tells of itself: its text is of its pages, its sectors and its bytes.
type held struct {
	on   bool
	ops  int
	text string
}

// all is all that a flash tells of itself; it turns the power on, so it comes last.
func all(t testing.TB, f *flash.Flash) held {
	t.Helper()
	g := f.Geometry()
	h := held{on: f.On(), ops: f.Ops()}
	f.Boot()
	b, e := f.Read(0, f.Size())
	must(t, e)
	var dirty, worn []int
	for page := range g.Sectors * g.Pages {
		if f.Dirty(page) {
			dirty = append(dirty, page)
		}
	}
	for sector := range g.Sectors {
		worn = append(worn, f.Worn(sector))
	}
	h.text = fmt.Sprintf("dirty %v worn %v bytes %x", dirty, worn, b)
	return h
}

// same holds that a flash is like another one.
func same(t testing.TB, what string, got, want *flash.Flash) {
	t.Helper()
	if g, w := all(t, got), all(t, want); g != w {
		t.Errorf("%s: the flash is\n%v, not\n%v", what, g, w)
	}
}

// tears are what may be left where power fails: nothing, blanks, noughts, bytes, more than a sector holds, a record of its own, part of one.
func tears(t testing.TB, g api.Geometry) [][]byte {
	t.Helper()
	return [][]byte{
		nil,
		{1, 2, 3},
		bytes.Repeat([]byte{0xff}, 40),
		make([]byte, 32),
		bytes.Repeat([]byte{0xa5}, g.Pages*g.Bytes+7),
		encoded(t, record(api.MaxSeq, 0, 77, 77)),
		encoded(t, record(0, 1, 77, 77)),
		encoded(t, second)[:31],
		encoded(t, second)[:17],
		encoded(t, first)[:9],
	}
}

// told holds what Load tells.
func told(t testing.TB, what string, f *flash.Flash, p api.Plan, records []api.Record, copies []int) {
	t.Helper()
	l, which, e := keep.Load(f, p)
	if e != api.OK || !slices.Equal(l, records) || !slices.Equal(which, copies) {
		t.Errorf("%s: Load: %v %v %d, not %v %v", what, l, which, e, records, copies)
	}
}

// tellsOne holds that a copy at least tells one of these.
func tellsOne(t testing.TB, what string, f *flash.Flash, p api.Plan, some ...api.Record) {
	t.Helper()
	l, _, e := keep.Load(f, p)
	if e != api.OK || !slices.ContainsFunc(l, func(r api.Record) bool { return slices.Contains(some, r) }) {
		t.Errorf("%s: %v %d: none of %v", what, l, e, some)
	}
}

// calls are all four, with what each is handed; Load, Switch and Repair have no side, Load no record.
var calls = []struct {
	name       string
	side, text bool // whether it takes them
	call       func(f *flash.Flash, p api.Plan, side int, r api.Record) api.Errno
}{
	{"Load", false, false, func(f *flash.Flash, p api.Plan, side int, r api.Record) api.Errno {
		l, which, e := keep.Load(f, p)
		if e != api.OK && (l != nil || which != nil) {
			return -1
		}
		return e
	}},
	{"Write", true, true, keep.Write},
	{"Switch", false, true, func(f *flash.Flash, p api.Plan, side int, r api.Record) api.Errno { return keep.Switch(f, p, r) }},
	{"Repair", false, true, func(f *flash.Flash, p api.Plan, side int, r api.Record) api.Errno { return keep.Repair(f, p, r) }},
}

// P9.1

// wrongPlans are some that are not right, and right ones of other geometries than that of p.
func wrongPlans(t testing.TB, p api.Plan) map[string]api.Plan {
	t.Helper()
	swapped, behind, long, short, zero := p, p, p, p, p
	swapped.Boot = [2]int{1, 0}
	behind.Boot = [2]int{p.Slot[0], p.Slot[1]}
	long.Sectors++
	short.Slot[1]--
	zero.Geometry = api.Geometry{}
	out := p
	out.Boot = [2]int{-1, math.MaxInt}
	g := p.Geometry
	return map[string]api.Plan{
		"zero":            {},
		"swapped":         swapped,
		"in the slots":    behind,
		"out of it":       out,
		"long":            long,
		"short":           short,
		"no geometry":     zero,
		"another sectors": plan(t, api.Geometry{Sectors: g.Sectors + 1, Pages: g.Pages, Bytes: g.Bytes}),
		"another pages":   plan(t, api.Geometry{Sectors: g.Sectors, Pages: g.Pages + 1, Bytes: g.Bytes}),
		"another bytes":   plan(t, api.Geometry{Sectors: g.Sectors, Pages: g.Pages, Bytes: g.Bytes + 1}),
		"as many bytes":   plan(t, api.Geometry{Sectors: g.Sectors, Pages: g.Pages * g.Bytes / 64, Bytes: 64}),
	}
}

func TestWrongArguments(t *testing.T) {
	g := api.Geometry{Sectors: 6, Pages: 2, Bytes: 128}
	p := plan(t, g)
	s := state{&first, &second}
	for _, c := range calls {
		for name, wrong := range wrongPlans(t, p) {
			f := device(t, g, s)
			if e := c.call(f, wrong, 0, third); e != api.ErrArg {
				t.Errorf("%s of a plan that is %s: %d", c.name, name, e)
			}
			same(t, c.name+" of a plan that is "+name, f, device(t, g, s))
		}
		for _, side := range []int{-1, 2, 3, math.MinInt, math.MaxInt} {
			f := device(t, g, s)
			if e := c.call(f, p, side, third); c.side && e != api.ErrArg {
				t.Errorf("%s to the side %d: %d", c.name, side, e)
			}
			if c.side {
				same(t, c.name+" to no side", f, device(t, g, s))
			}
		}
		for _, r := range wrongRecords {
			f := device(t, g, s)
			if e := c.call(f, p, 0, r); c.text && e != api.ErrArg {
				t.Errorf("%s of %v: %d", c.name, r, e)
			}
			same(t, c.name+" of a wrong record", f, device(t, g, s))
		}
		if e := c.call(nil, p, 0, third); e != api.ErrNil {
			t.Errorf("%s of no flash: %d", c.name, e)
		}
	}
}

// The first error is told: nil ahead of the plan, of the side and of the record, these ahead of what the flash tells.
func TestTwoWrongAtOnce(t *testing.T) {
	g := geometries[1]
	p := plan(t, g)
	other := plan(t, geometries[0])
	s := state{&first, &second}
	for _, c := range calls {
		for _, wrong := range []struct {
			plan api.Plan
			side int
			r    api.Record
		}{{api.Plan{}, 0, first}, {other, 1, first}, {p, 2, first}, {p, 0, api.Record{}}, {other, -1, api.Record{}}, {p, -1, wrongRecords[1]}} {
			if e := c.call(nil, wrong.plan, wrong.side, wrong.r); e != api.ErrNil {
				t.Errorf("%s of no flash, %v: %d", c.name, wrong, e)
			}
			want := api.ErrOff
			if wrong.plan != p || c.side && (wrong.side < 0 || wrong.side > 1) || c.text && wrong.r != first {
				want = api.ErrArg
			}
			f := dark(t, g, s)
			if e := c.call(f, wrong.plan, wrong.side, wrong.r); e != want {
				t.Errorf("%s with the power off, %v: %d, not %d", c.name, wrong, e, want)
			}
			same(t, c.name, f, dark(t, g, s))
			if want != api.ErrArg {
				continue
			}
			if e := c.call(device(t, g, s), wrong.plan, wrong.side, wrong.r); e != api.ErrArg {
				t.Errorf("%s of %v: %d", c.name, wrong, e)
			}
		}
	}
}

// dark is a device whose power is off.
func dark(t testing.TB, g api.Geometry, s state) *flash.Flash {
	t.Helper()
	f := device(t, g, s)
	must(t, f.Arm(api.Crash{After: 1}))
	if e := f.Erase(g.Sectors - 1); e != api.ErrOff {
		t.Fatal(e)
	}
	return f
}

func TestPowerOffAheadOfACall(t *testing.T) {
	for _, g := range geometries {
		p := plan(t, g)
		for _, s := range []state{{nil, nil}, {&first, nil}, {nil, &second}, {&second, &second}, {&first, &second}} {
			for _, c := range calls {
				for side := range 2 {
					f := dark(t, g, s)
					if e := c.call(f, p, side, second); e != api.ErrOff {
						t.Errorf("%s with the power off: %d", c.name, e)
					}
					same(t, c.name, f, dark(t, g, s))
				}
			}
		}
	}
}

// A copy is told by the first 32 bytes of its sector alone.
func TestACopyIsTheFirstBytesOfItsSector(t *testing.T) {
	g := api.Geometry{Sectors: 5, Pages: 2, Bytes: 64}
	p := plan(t, g)
	f, e := flash.New(g)
	must(t, e)
	b := encoded(t, first)
	must(t, f.Write(1, b))                                     // copy 0's second page
	must(t, f.Write(2, append(bytes.Repeat(b[:1], 32), b...))) // copy 1's first page, behind
	must(t, f.Write(4, b))                                     // a slot
	told(t, "none in its place", f, p, nil, nil)
	must(t, f.Erase(1))
	must(t, f.Write(2, append(bytes.Clone(b), encoded(t, second)...)))
	told(t, "with bytes behind", f, p, []api.Record{first}, []int{1})
	must(t, f.Write(0, b[:31]))
	told(t, "one byte short", f, p, []api.Record{first}, []int{1})
	must(t, f.Erase(0))
	for i := range b {
		spoilt := bytes.Clone(b)
		spoilt[i] ^= 0x10
		must(t, f.Erase(0))
		must(t, f.Write(0, spoilt))
		told(t, fmt.Sprint("spoilt at ", i), f, p, []api.Record{first}, []int{1})
	}
}

// P9.2

func TestLoadOfAFreshFlash(t *testing.T) {
	for _, g := range geometries {
		f, e := flash.New(g)
		must(t, e)
		told(t, "fresh", f, plan(t, g), nil, nil)
	}
}

func TestLoad(t *testing.T) {
	for _, g := range geometries {
		p := plan(t, g)
		for _, s := range states() {
			var records []api.Record
			var copies []int
			for _, side := range slices.Backward(s.turns()) {
				if s[side] != nil {
					records, copies = append(records, *s[side]), append(copies, side)
				}
			}
			f := device(t, g, s)
			told(t, s.String(), f, p, records, copies)
			same(t, "Load of "+s.String(), f, device(t, g, s))
		}
	}
}

// The cases of Load's order, by hand.
func TestLoadOfEachCase(t *testing.T) {
	g := geometries[0]
	p := plan(t, g)
	for _, c := range []struct {
		s       state
		records []api.Record
		copies  []int
	}{
		{state{nil, nil}, nil, nil},
		{state{&first, nil}, []api.Record{first}, []int{0}},
		{state{nil, &first}, []api.Record{first}, []int{1}},
		{state{&second, &second}, []api.Record{second, second}, []int{0, 1}},
		{state{&second, &twin}, []api.Record{second, twin}, []int{0, 1}},
		{state{&twin, &second}, []api.Record{twin, second}, []int{0, 1}},
		{state{&second, &first}, []api.Record{second, first}, []int{0, 1}},
		{state{&first, &second}, []api.Record{second, first}, []int{1, 0}},
	} {
		told(t, c.s.String(), device(t, g, c.s), p, c.records, c.copies)
	}
}

func TestWrite(t *testing.T) {
	for _, g := range geometries {
		p := plan(t, g)
		for _, s := range []state{{nil, nil}, {&first, nil}, {&first, &second}, {&third, &third}} {
			for side := range 2 {
				for _, r := range []api.Record{first, second, third, twin, great, least} {
					what := fmt.Sprintf("Write of %v to copy %d of %v", r, side, s)
					f, want := device(t, g, s), device(t, g, s)
					if e := keep.Write(f, p, side, r); e != api.OK {
						t.Errorf("%s: %d", what, e)
					}
					must(t, done(want, written(t, g, r, side)))
					same(t, what, f, want)
					s := s
					s[side] = &r
					tellsOne(t, what, f, p, r)
					same(t, what, onlyCopies(t, f), onlyCopies(t, device(t, g, s)))
				}
			}
		}
	}
}

// onlyCopies is a flash with nothing but the first 32 bytes of both copies of f.
func onlyCopies(t testing.TB, f *flash.Flash) *flash.Flash {
	t.Helper()
	g := f.Geometry()
	o, e := flash.New(g)
	must(t, e)
	for side := range 2 {
		b, e := f.Read(side*g.Pages*g.Bytes, 32)
		must(t, e)
		must(t, o.Write(side*g.Pages, b))
	}
	return o
}

// A Write is an erasure, then a write: torn in either, what was done stays, and no more is done.
func TestWriteTorn(t *testing.T) {
	for _, g := range geometries {
		p := plan(t, g)
		s := state{&first, &second}
		for side := range 2 {
			for after := 1; after <= 3; after++ {
				for _, torn := range tears(t, g) {
					crash := api.Crash{After: after, Torn: torn}
					f, want := device(t, g, s), device(t, g, s)
					must(t, f.Arm(crash))
					must(t, want.Arm(crash))
					got, e := keep.Write(f, p, side, third), done(want, written(t, g, third, side))
					if got != e || (got == api.OK) != (after == 3) {
						t.Errorf("Write to copy %d, torn in op %d: %d, not %d", side, after, got, e)
					}
					same(t, "Write torn", f, want)
				}
			}
		}
	}
}

// P9.3

// The chapter's example.
func TestSwitchInAFreshFlash(t *testing.T) {
	for _, g := range geometries {
		p := plan(t, g)
		f, e := flash.New(g)
		must(t, e)
		told(t, "fresh", f, p, nil, nil)
		must(t, keep.Switch(f, p, first))
		told(t, "switched", f, p, []api.Record{first, first}, []int{0, 1})
		if f.Ops() != 4 {
			t.Error("Switch took", f.Ops(), "ops")
		}
	}
}

// acts are Switch and Repair, with the copies that each writes, in turn.
var acts = []struct {
	name  string
	act   func(f *flash.Flash, p api.Plan, r api.Record) api.Errno
	sides func(s state, r api.Record) []int
}{
	{"Switch", keep.Switch, func(s state, r api.Record) []int { return s.turns() }},
	{"Repair", keep.Repair, func(s state, r api.Record) []int {
		var l []int
		for _, side := range s.turns() {
			if s[side] == nil || *s[side] != r {
				l = append(l, side)
			}
		}
		return l
	}},
}

// Both act on every state as ops by hand do, with no failure, and with one in each op in turn, whatever is torn.
func TestSwitchAndRepair(t *testing.T) {
	for _, g := range geometries[:3] {
		p := plan(t, g)
		for _, a := range acts {
			for _, s := range states() {
				for _, r := range []api.Record{second, great, least} {
					ops := written(t, g, r, a.sides(s, r)...)
					for after := 1; after <= len(ops)+1; after++ {
						for _, torn := range tears(t, g) {
							what := fmt.Sprintf("%s to %v of %v, torn in op %d by %x", a.name, r, s, after, torn)
							crash := api.Crash{After: after, Torn: torn}
							f, want := device(t, g, s), device(t, g, s)
							must(t, f.Arm(crash))
							must(t, want.Arm(crash))
							got, e := a.act(f, p, r), done(want, ops)
							if got != e || (got == api.OK) != (after == len(ops)+1) {
								t.Errorf("%s: %d, not %d", what, got, e)
							}
							same(t, what, f, want)
						}
					}
				}
			}
		}
	}
}

// Which copy is erased first, by hand.
func TestWhichCopyIsWrittenFirst(t *testing.T) {
	g := geometries[1]
	p := plan(t, g)
	for _, c := range []struct {
		s    state
		want int
	}{
		{state{nil, nil}, 1},
		{state{&first, nil}, 1},
		{state{nil, &first}, 0},
		{state{&first, &first}, 1},
		{state{&second, &twin}, 1},
		{state{&second, &first}, 1},
		{state{&first, &second}, 0},
	} {
		for _, a := range acts {
			f := device(t, g, c.s)
			must(t, f.Arm(api.Crash{After: 1}))
			if e := a.act(f, p, third); e != api.ErrOff {
				t.Errorf("%s of %v, torn: %d", a.name, c.s, e)
			}
			if f.Worn(c.want) != 1 || f.Worn(1-c.want) != 0 {
				t.Errorf("%s of %v: copy %d is not erased first", a.name, c.s, c.want)
			}
		}
	}
}

// Which copies Repair writes, by hand: how often each one's sector is erased.
func TestWhichCopiesRepairWrites(t *testing.T) {
	g := geometries[1]
	p := plan(t, g)
	for _, c := range []struct {
		s    state
		r    api.Record
		want [2]int
	}{
		{state{nil, nil}, first, [2]int{1, 1}},
		{state{&first, nil}, first, [2]int{0, 1}},
		{state{nil, &first}, first, [2]int{1, 0}},
		{state{&first, nil}, second, [2]int{1, 1}},
		{state{&second, &first}, second, [2]int{0, 1}},
		{state{&second, &first}, first, [2]int{1, 0}},
		{state{&first, &second}, second, [2]int{1, 0}},
		{state{&second, &twin}, second, [2]int{0, 1}},
		{state{&second, &twin}, twin, [2]int{1, 0}},
		{state{&second, &second}, twin, [2]int{1, 1}},
		{state{&second, &second}, second, [2]int{0, 0}},
	} {
		f := device(t, g, c.s)
		must(t, keep.Repair(f, p, c.r))
		if got := [2]int{f.Worn(0), f.Worn(1)}; got != c.want {
			t.Errorf("Repair to %v of %v: erased %v, not %v", c.r, c.s, got, c.want)
		}
		told(t, "repaired", f, p, []api.Record{c.r, c.r}, []int{0, 1})
	}
}

// P9.4

// failures calls what for a crash in each of the ops of an act that may be, whatever is torn.
func failures(t testing.TB, g api.Geometry, what func(c api.Crash)) {
	t.Helper()
	for after := 1; after <= 4; after++ {
		for _, torn := range tears(t, g) {
			what(api.Crash{After: after, Torn: torn})
		}
	}
}

func TestASwitchThatFailsLosesNoRecord(t *testing.T) {
	for _, g := range geometries {
		p := plan(t, g)
		for _, pair := range [][2]api.Record{{first, second}, {second, first}, {second, twin}, {least, great}, {great, least}, {second, second}} {
			r, other := pair[0], pair[1]
			failures(t, g, func(c api.Crash) {
				f := device(t, g, state{&r, &r})
				must(t, f.Arm(c))
				if e := keep.Switch(f, p, other); e != api.ErrOff || f.On() {
					t.Errorf("Switch, torn in op %d: %d", c.After, e)
				}
				f.Boot()
				tellsOne(t, fmt.Sprintf("Switch from %v to %v, torn in op %d by %x", r, other, c.After, c.Torn), f, p, pair[:]...)
			})
		}
	}
}

// behind is what may stand beside a copy of r that comes first.
func behind(side int, r api.Record) []state {
	var l []state
	for _, s := range states() {
		s[side] = &r
		if s.front() == side {
			l = append(l, s)
		}
	}
	return l
}

func TestARepairThatFailsLosesNoRecord(t *testing.T) {
	for _, g := range geometries[:2] {
		p := plan(t, g)
		for side := range 2 {
			for _, s := range behind(side, second) {
				failures(t, g, func(c api.Crash) {
					f := device(t, g, s)
					must(t, f.Arm(c))
					keep.Repair(f, p, second)
					f.Boot()
					tellsOne(t, fmt.Sprintf("Repair to %v of %v, torn in op %d by %x", second, s, c.After, c.Torn), f, p, second)
				})
			}
		}
	}
}

// A Switch that failed, and a Repair of it that failed, are mended by one more Repair of what comes first.
func TestFailuresOneBehindTheOther(t *testing.T) {
	g := geometries[1]
	p := plan(t, g)
	for _, torn := range [][]byte{nil, {1, 2, 3}, make([]byte, 40), bytes.Repeat([]byte{0xff}, 500)} {
		for one := 1; one <= 5; one++ {
			for two := 1; two <= 3; two++ {
				f := device(t, g, state{&first, &first})
				must(t, f.Arm(api.Crash{After: one, Torn: torn}))
				keep.Switch(f, p, second)
				f.Boot()
				l, _, e := keep.Load(f, p)
				if e != api.OK || len(l) == 0 || l[0] != first && l[0] != second {
					t.Fatalf("torn in op %d: %v %d", one, l, e)
				}
				r := l[0]
				must(t, f.Arm(api.Crash{After: two, Torn: torn}))
				keep.Repair(f, p, r)
				f.Boot()
				tellsOne(t, fmt.Sprintf("torn in ops %d and %d", one, two), f, p, r)
				must(t, keep.Repair(f, p, r))
				told(t, "mended", f, p, []api.Record{r, r}, []int{0, 1})
			}
		}
	}
}

func TestWithoutAFailureBothTellTheRecord(t *testing.T) {
	for _, g := range geometries {
		p := plan(t, g)
		for _, a := range acts {
			for _, s := range states() {
				for _, r := range []api.Record{first, second, twin, third, great, least} {
					f := device(t, g, s)
					must(t, a.act(f, p, r))
					told(t, fmt.Sprintf("%s to %v of %v", a.name, r, s), f, p, []api.Record{r, r}, []int{0, 1})
				}
			}
		}
	}
}

// A Repair of what both tell does nothing: not even what is armed comes.
func TestRepairOfWhatBothTell(t *testing.T) {
	for _, g := range geometries {
		p := plan(t, g)
		for _, r := range []api.Record{first, second, third, great, least} {
			s := state{&r, &r}
			f := device(t, g, s)
			must(t, f.Arm(api.Crash{After: 1}))
			for range 3 {
				must(t, keep.Repair(f, p, r))
			}
			same(t, "Repair of what both tell", f, device(t, g, s))
		}
	}
}

// The rules that hold everywhere

func TestAnswersAreNewMemory(t *testing.T) {
	g := geometries[1]
	p := plan(t, g)
	s := state{&first, &second}
	f := device(t, g, s)
	l, which, e := keep.Load(f, p)
	must(t, e)
	m, whose, e := keep.Load(f, p)
	must(t, e)
	clear(l[:cap(l)])
	clear(which[:cap(which)])
	if !slices.Equal(m, []api.Record{second, first}) || !slices.Equal(whose, []int{1, 0}) {
		t.Error("another answer of Load changed:", m, whose)
	}
	same(t, "Load's answer was changed", f, device(t, g, s))
}
