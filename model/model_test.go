package model_test

import (
	"bytes"
	"fmt"
	"math"
	"slices"
	"strings"
	"testing"

	"portmanteau/api"
	"portmanteau/model"
	"portmanteau/tree"
)

// Entries of each kind, with nothing in them but what is said.

func folder(path string) api.Entry { return api.Entry{Path: path, Kind: api.KindDir} }

func file(path, data string, size int) api.Entry {
	return api.Entry{Path: path, Kind: api.KindFile, Data: []byte(data), Size: size}
}

func link(path, target string) api.Entry {
	return api.Entry{Path: path, Kind: api.KindLink, Target: target}
}

func further(path, target string) api.Entry {
	return api.Entry{Path: path, Kind: api.KindHard, Target: target}
}

// planted is the tree of some entries.
func planted(t *testing.T, l ...api.Entry) api.Tree {
	t.Helper()
	x, e := tree.Canon(l)
	if e != api.OK {
		at, e := tree.Check(l)
		t.Fatalf("entry %d is told %d", at, e)
	}
	return x
}

// modelOf is the model of some entries.
func modelOf(t *testing.T, l ...api.Entry) *model.Model {
	t.Helper()
	m, e := model.New(planted(t, l...))
	if e != api.OK || m == nil {
		t.Fatalf("New tells %v, %d", m, e)
	}
	return m
}

// The nodes of zoo.
const (
	root  = iota
	bin   // a folder with a folder in it
	sub   // a folder in bin, with a file
	deep  // that file
	exe   // a file in bin, which has a name in the root too
	char  // a device
	disk  // a device
	empty // a folder
	full  // a file without noughts
	holes // a file of noughts alone
	jump  // a link from the root on
	rel   // a link from where it is on
	count
)

// zoo has one node of each sort.
func zoo() []api.Entry {
	return []api.Entry{
		{Path: "", Kind: api.KindDir, Mode: 0o700, Uid: 1, Gid: 2, Time: 3},
		{Path: "bin", Kind: api.KindDir, Mode: 0o755, Uid: 4, Gid: 5, Time: 6, Attrs: []api.Attr{{Name: "on a folder"}}},
		{Path: "bin/a", Kind: api.KindDir, Mode: 4095, Time: api.MaxWord},
		file("bin/a/deep", "d", 1),
		{Path: "bin/exe", Kind: api.KindFile, Mode: 0o4755, Uid: 7, Gid: api.MaxWord, Time: 8, Data: []byte("ab\x00c\x00"), Size: 9,
			Attrs: []api.Attr{{Name: "z", Value: []byte("last")}, {Name: "user.k", Value: []byte("value")}, {Name: "none"}}},
		{Path: "c", Kind: api.KindChar, Mode: 0o600, Dev: api.MaxWord, Size: 5, Target: "no", Data: []byte("no")},
		{Path: "disk", Kind: api.KindBlock, Dev: 7, Attrs: []api.Attr{{Name: "on a device", Value: []byte{0, 1}}}},
		folder("empty"),
		file("full", "12345", 5),
		file("holes", "", 4),
		further("exe", "bin/exe"),
		link("jump", "/bin/a"),
		{Path: "rel", Kind: api.KindLink, Mode: 0o777, Uid: 9, Target: "empty/../bin", Size: 3, Dev: 4, Attrs: []api.Attr{{Name: "on a link", Value: []byte("l")}}},
	}
}

func zooModel(t *testing.T) *model.Model {
	t.Helper()
	return modelOf(t, zoo()...)
}

// said is all that a call told, its error last.
type said []any

// all is every call on a node, some arguments given.
func all(m *model.Model, ino int) map[string]said {
	a := map[string]said{}
	note := func(call string, l ...any) { a[call] = l }
	lookup, e := m.Lookup(ino, "bin")
	note("Lookup", lookup, e)
	stat, e := m.Stat(ino)
	note("Stat", stat, e)
	kids, next, e := m.Readdir(ino, 1, 2)
	note("Readdir", len(kids), next, e)
	target, e := m.Readlink(ino)
	note("Readlink", target, e)
	b, e := m.Read(ino, 1, 2)
	note("Read", string(b), e)
	names, e := m.Names(ino)
	note("Names", len(names), e)
	v, e := m.Attr(ino, "z")
	note("Attr", string(v), e)
	to, e := m.Walk(ino, "bin", true)
	note("Walk", to, e)
	to, e = m.Walk(ino, "/bin", false)
	note("Walk from the root on", to, e)
	return a
}

// nothing is what each call tells beside an error.
func nothing(e api.Errno) map[string]said {
	return map[string]said{
		"Lookup": {0, e}, "Stat": {api.Stat{}, e}, "Readdir": {0, 0, e}, "Readlink": {"", e}, "Read": {"", e},
		"Names": {0, e}, "Attr": {"", e}, "Walk": {0, e}, "Walk from the root on": {0, e},
	}
}

// P12.1

func TestNilModelTellsErrNil(t *testing.T) {
	var m *model.Model
	for _, ino := range []int{math.MinInt, -1, 0, 1, math.MaxInt} {
		if got, want := fmt.Sprint(all(m, ino)), fmt.Sprint(nothing(api.ErrNil)); got != want {
			t.Errorf("node %d: %s, not %s", ino, got, want)
		}
	}
	// ahead of everything else that is wrong
	if _, e := m.Lookup(0, "/"); e != api.ErrNil {
		t.Error(e)
	}
	if _, _, e := m.Readdir(0, -1, -1); e != api.ErrNil {
		t.Error(e)
	}
	if _, e := m.Read(0, -1, api.MaxRead+1); e != api.ErrNil {
		t.Error(e)
	}
	if _, e := m.Walk(0, "a\x00", true); e != api.ErrNil {
		t.Error(e)
	}
}

func TestNodesThatThereAreNot(t *testing.T) {
	for _, l := range [][]api.Entry{nil, {folder("a")}, zoo()} {
		m := modelOf(t, l...)
		last := len(planted(t, l...).Nodes) - 1
		for _, ino := range []int{math.MinInt, -2, -1, last + 1, last + 2, math.MaxInt} {
			if got, want := fmt.Sprint(all(m, ino)), fmt.Sprint(nothing(api.ErrRange)); got != want {
				t.Errorf("node %d of %d: %s, not %s", ino, last+1, got, want)
			}
		}
		for _, ino := range []int{0, last} {
			for call, a := range all(m, ino) {
				if a[len(a)-1] == api.ErrRange {
					t.Errorf("%s of node %d of %d tells ErrRange", call, ino, last+1)
				}
			}
		}
	}
}

func TestErrRangeIsAskedFirst(t *testing.T) {
	m := zooModel(t)
	for _, ino := range []int{-1, count} {
		if _, e := m.Lookup(ino, "a/b"); e != api.ErrRange {
			t.Error("Lookup", e)
		}
		if _, _, e := m.Readdir(ino, -1, -1); e != api.ErrRange {
			t.Error("Readdir", e)
		}
		if _, e := m.Read(ino, -1, api.MaxRead+1); e != api.ErrRange {
			t.Error("Read", e)
		}
		if _, e := m.Attr(ino, ""); e != api.ErrRange {
			t.Error("Attr", e)
		}
		for _, path := range []string{"", "/", "a\x00", strings.Repeat("a", 256), strings.Repeat("/", 4097), strings.Repeat("a/", 129)} {
			if to, e := m.Walk(ino, path, true); to != 0 || e != api.ErrRange {
				t.Errorf("Walk along %.9q: %d", path, e)
			}
		}
	}
}

func TestNewTakesWhatListTakes(t *testing.T) {
	for _, l := range [][]api.Entry{nil, {folder("")}, {file("a", "", 0)}, zoo()} {
		x := planted(t, l...)
		if _, e := tree.List(x); e != api.OK {
			t.Fatal(e)
		}
		if m, e := model.New(x); m == nil || e != api.OK {
			t.Errorf("%d entries: %v, %d", len(l), m, e)
		}
	}
}

func TestNewRefusesWhatListRefuses(t *testing.T) {
	spoil := func(change func(n []api.Node) []api.Node) api.Tree {
		x := planted(t, zoo()...)
		x.Nodes = change(x.Nodes)
		return x
	}
	exchanged := func(l []api.Node) []api.Node {
		l[full], l[holes] = l[holes], l[full]
		l[root].Kids[5].Ino, l[root].Kids[6].Ino = holes, full
		return l
	}
	one := func(change func(n *api.Node), ino int) api.Tree {
		return spoil(func(l []api.Node) []api.Node { change(&l[ino]); return l })
	}
	for what, x := range map[string]api.Tree{
		"no node":                  {},
		"a root that is a file":    {Nodes: []api.Node{{Kind: api.KindFile, Links: 1}}},
		"a root of no kind":        {Nodes: []api.Node{{}}},
		"a root with no Links":     {Nodes: []api.Node{{Kind: api.KindDir}}},
		"a root in itself":         {Nodes: []api.Node{{Kind: api.KindDir, Links: 3, Kids: []api.Kid{{Name: "a"}}}}},
		"a node more":              spoil(func(l []api.Node) []api.Node { return append(l, api.Node{Kind: api.KindFile}) }),
		"a node less":              spoil(func(l []api.Node) []api.Node { return l[:count-1] }),
		"two numbers exchanged":    spoil(exchanged),
		"a nought behind Data":     one(func(n *api.Node) { n.Data = append(n.Data, 0) }, holes),
		"a Size that is too short": one(func(n *api.Node) { n.Size = 4 }, full),
		"a wrong Parent":           one(func(n *api.Node) { n.Parent = 0 }, sub),
		"a wrong count of Links":   one(func(n *api.Node) { n.Links = 1 }, exe),
		"names out of their order": one(func(n *api.Node) { slices.Reverse(n.Kids) }, root),
		"attributes out of theirs": one(func(n *api.Node) { slices.Reverse(n.Attrs) }, exe),
		"a name twice":             one(func(n *api.Node) { n.Kids = append(n.Kids, n.Kids[0]) }, root),
		"a name that is none":      one(func(n *api.Node) { n.Kids[0].Name = "a/b" }, bin),
		"a kid that there is not":  one(func(n *api.Node) { n.Kids[0].Ino = count }, bin),
		"a kid below 0":            one(func(n *api.Node) { n.Kids[0].Ino = -1 }, bin),
		"a link without a target":  one(func(n *api.Node) { n.Target = "" }, rel),
		"a Mode that is too much":  one(func(n *api.Node) { n.Mode = 4096 }, exe),
		"a field of another kind":  one(func(n *api.Node) { n.Dev = 1 }, exe),
	} {
		if _, e := tree.List(x); e == api.OK {
			t.Fatalf("%s: List takes it", what)
		}
		if m, e := model.New(x); m != nil || e != api.ErrArg {
			t.Errorf("%s: %v, %d", what, m, e)
		}
	}
}

// P12.2

func TestLookup(t *testing.T) {
	m := zooModel(t)
	long := strings.Repeat("n", 255)
	for _, c := range []struct {
		dir  int
		name string
		ino  int
		e    api.Errno
	}{
		{root, "bin", bin, 0}, {root, "c", char, 0}, {root, "disk", disk, 0}, {root, "exe", exe, 0}, {root, "rel", rel, 0},
		{bin, "a", sub, 0}, {bin, "exe", exe, 0}, {sub, "deep", deep, 0},
		{root, ".", root, 0}, {root, "..", root, 0}, {bin, ".", bin, 0}, {bin, "..", root, 0}, {sub, ".", sub, 0}, {sub, "..", bin, 0},
		{empty, ".", empty, 0}, {empty, "..", root, 0},
		{root, "", 0, api.ErrForm}, {root, "/", 0, api.ErrForm}, {root, "/bin", 0, api.ErrForm}, {root, "bin/", 0, api.ErrForm}, {root, "bin/a", 0, api.ErrForm},
		{root, "b\x00", 0, api.ErrForm}, {root, "\x00", 0, api.ErrForm}, {root, long + "n", 0, api.ErrForm}, {root, "./", 0, api.ErrForm}, {empty, "", 0, api.ErrForm},
		{root, long, 0, api.ErrNone}, {root, "b", 0, api.ErrNone}, {root, "bin ", 0, api.ErrNone}, {root, "BIN", 0, api.ErrNone}, {root, "...", 0, api.ErrNone},
		{root, "a", 0, api.ErrNone}, {root, "deep", 0, api.ErrNone}, {bin, "bin", 0, api.ErrNone}, {sub, "exe", 0, api.ErrNone}, {empty, "bin", 0, api.ErrNone},
		{exe, "bin", 0, api.ErrKind}, {jump, "deep", 0, api.ErrKind}, {rel, "a", 0, api.ErrKind}, {char, "a", 0, api.ErrKind}, {disk, "a", 0, api.ErrKind},
		// the kind is asked ahead of the name
		{exe, ".", 0, api.ErrKind}, {exe, "..", 0, api.ErrKind}, {exe, "", 0, api.ErrKind}, {rel, "..", 0, api.ErrKind}, {rel, "a/b", 0, api.ErrKind}, {char, "\x00", 0, api.ErrKind},
	} {
		if ino, e := m.Lookup(c.dir, c.name); ino != c.ino || e != c.e {
			t.Errorf("%.20q in node %d: %d, %d, not %d, %d", c.name, c.dir, ino, e, c.ino, c.e)
		}
	}
}

func TestLookupOfTheLongestName(t *testing.T) {
	long := strings.Repeat("n", 255)
	m := modelOf(t, file(long, "", 0), file("\xff\xfe", "", 0))
	for s, want := range map[string]int{long: 1, "\xff\xfe": 2} {
		if ino, e := m.Lookup(0, s); ino != want || e != api.OK {
			t.Errorf("%.9q: %d, %d", s, ino, e)
		}
	}
}

func TestStat(t *testing.T) {
	m := zooModel(t)
	for _, want := range []api.Stat{
		{Ino: root, Kind: api.KindDir, Mode: 0o700, Uid: 1, Gid: 2, Time: 3, Size: 9, Links: 4},
		{Ino: bin, Kind: api.KindDir, Mode: 0o755, Uid: 4, Gid: 5, Time: 6, Size: 2, Links: 3},
		{Ino: sub, Kind: api.KindDir, Mode: 4095, Time: api.MaxWord, Size: 1, Links: 2},
		{Ino: deep, Kind: api.KindFile, Size: 1, Links: 1},
		{Ino: exe, Kind: api.KindFile, Mode: 0o4755, Uid: 7, Gid: api.MaxWord, Time: 8, Size: 9, Links: 2},
		{Ino: char, Kind: api.KindChar, Mode: 0o600, Dev: api.MaxWord, Links: 1},
		{Ino: disk, Kind: api.KindBlock, Dev: 7, Links: 1},
		{Ino: empty, Kind: api.KindDir, Links: 2},
		{Ino: full, Kind: api.KindFile, Size: 5, Links: 1},
		{Ino: holes, Kind: api.KindFile, Size: 4, Links: 1},
		{Ino: jump, Kind: api.KindLink, Size: 6, Links: 1},
		{Ino: rel, Kind: api.KindLink, Mode: 0o777, Uid: 9, Size: 12, Links: 1},
	} {
		if s, e := m.Stat(want.Ino); s != want || e != api.OK {
			t.Errorf("%+v, %d, not %+v", s, e, want)
		}
	}
	if s, e := modelOf(t).Stat(0); s != (api.Stat{Kind: api.KindDir, Mode: 493, Links: 2}) || e != api.OK {
		t.Errorf("a root alone: %+v, %d", s, e)
	}
	if s, e := modelOf(t, file("a", "", api.MaxFile-1)).Stat(1); s.Size != api.MaxFile-1 || e != api.OK {
		t.Errorf("the longest file: %+v, %d", s, e)
	}
}

func TestReaddir(t *testing.T) {
	m := zooModel(t)
	top := []api.Kid{{Name: "bin", Ino: bin}, {Name: "c", Ino: char}, {Name: "disk", Ino: disk}, {Name: "empty", Ino: empty}, {Name: "exe", Ino: exe},
		{Name: "full", Ino: full}, {Name: "holes", Ino: holes}, {Name: "jump", Ino: jump}, {Name: "rel", Ino: rel}}
	for _, c := range []struct {
		ino, cursor, n int
		l              []api.Kid
		next           int
		e              api.Errno
	}{
		{root, 0, 9, top, 9, 0}, {root, 0, 10, top, 9, 0}, {root, 0, math.MaxInt, top, 9, 0}, {root, 0, 8, top[:8], 8, 0}, {root, 0, 1, top[:1], 1, 0},
		{root, 0, 0, nil, 0, 0}, {root, 5, 0, nil, 5, 0}, {root, 5, 1, top[5:6], 6, 0}, {root, 5, 3, top[5:8], 8, 0}, {root, 5, math.MaxInt, top[5:], 9, 0},
		{root, 8, 0, nil, 8, 0}, {root, 8, 1, top[8:], 9, 0}, {root, 8, 2, top[8:], 9, 0},
		{root, 9, 0, nil, 9, 0}, {root, 9, 1, nil, 9, 0}, {root, 10, 1, nil, 10, 0}, {root, 77, 77, nil, 77, 0},
		{root, math.MaxInt, 0, nil, math.MaxInt, 0}, {root, math.MaxInt, math.MaxInt, nil, math.MaxInt, 0},
		{bin, 0, 9, []api.Kid{{Name: "a", Ino: sub}, {Name: "exe", Ino: exe}}, 2, 0}, {sub, 0, 1, []api.Kid{{Name: "deep", Ino: deep}}, 1, 0},
		{empty, 0, 0, nil, 0, 0}, {empty, 0, 1, nil, 0, 0}, {empty, 1, 1, nil, 1, 0},
		{root, -1, 0, nil, 0, api.ErrArg}, {root, 0, -1, nil, 0, api.ErrArg}, {root, -1, -1, nil, 0, api.ErrArg}, {root, 5, -1, nil, 0, api.ErrArg}, {root, -1, 5, nil, 0, api.ErrArg},
		{root, math.MinInt, 1, nil, 0, api.ErrArg}, {root, 1, math.MinInt, nil, 0, api.ErrArg}, {root, 9, -1, nil, 0, api.ErrArg}, {empty, -1, 1, nil, 0, api.ErrArg},
		{exe, 0, 1, nil, 0, api.ErrKind}, {jump, 0, 1, nil, 0, api.ErrKind}, {rel, 0, 1, nil, 0, api.ErrKind}, {char, 0, 1, nil, 0, api.ErrKind}, {disk, 3, 0, nil, 0, api.ErrKind},
		{exe, -1, 1, nil, 0, api.ErrKind}, {rel, 1, -1, nil, 0, api.ErrKind},
	} {
		l, next, e := m.Readdir(c.ino, c.cursor, c.n)
		if !slices.Equal(l, c.l) || next != c.next || e != c.e {
			t.Errorf("node %d from %d, %d: %v, %d, %d, not %v, %d, %d", c.ino, c.cursor, c.n, l, next, e, c.l, c.next, c.e)
		}
	}
}

func TestReadlink(t *testing.T) {
	m := zooModel(t)
	for ino := range count {
		want, we := "", api.ErrKind
		switch ino {
		case jump:
			want, we = "/bin/a", api.OK
		case rel:
			want, we = "empty/../bin", api.OK
		}
		if s, e := m.Readlink(ino); s != want || e != we {
			t.Errorf("node %d: %q, %d", ino, s, e)
		}
	}
	for _, target := range []string{"/", "//x/./", "no such", strings.Repeat("a", 4096), "\xff\n"} { // just as it is written, wherever it leads
		m := modelOf(t, link("l", target))
		if s, e := m.Readlink(1); s != target || e != api.OK {
			t.Errorf("%.9q: %.9q, %d", target, s, e)
		}
	}
}

// P12.3

func TestRead(t *testing.T) {
	m := zooModel(t)
	const whole = "ab\x00c\x00\x00\x00\x00\x00" // four bytes of Data, nine in all
	for _, c := range []struct {
		ino, off, n int
		b           string
		e           api.Errno
	}{
		{exe, 0, 9, whole, 0}, {exe, 0, 10, whole, 0}, {exe, 0, 8, whole[:8], 0}, {exe, 0, api.MaxRead, whole, 0}, {exe, 0, 0, "", 0}, {exe, 0, 1, "a", 0},
		{exe, 3, 0, "", 0}, {exe, 3, 1, "c", 0}, {exe, 3, 2, "c\x00", 0}, {exe, 3, 9, whole[3:], 0},
		{exe, 4, 0, "", 0}, {exe, 4, 1, "\x00", 0}, {exe, 4, 5, whole[4:], 0}, {exe, 4, 6, whole[4:], 0}, {exe, 5, 2, "\x00\x00", 0},
		{exe, 8, 1, "\x00", 0}, {exe, 8, 9, "\x00", 0}, {exe, 9, 0, "", 0}, {exe, 9, 1, "", 0}, {exe, 10, 1, "", 0}, {exe, math.MaxInt, api.MaxRead, "", 0}, {exe, math.MaxInt, 0, "", 0},
		{full, 0, 5, "12345", 0}, {full, 4, 5, "5", 0}, {full, 5, 5, "", 0}, {full, 6, 5, "", 0}, {holes, 0, 9, "\x00\x00\x00\x00", 0}, {holes, 3, 9, "\x00", 0}, {holes, 4, 9, "", 0}, {deep, 0, 1, "d", 0},
		{exe, -1, 0, "", api.ErrArg}, {exe, 0, -1, "", api.ErrArg}, {exe, -1, -1, "", api.ErrArg}, {exe, math.MinInt, 1, "", api.ErrArg}, {exe, 1, math.MinInt, "", api.ErrArg}, {exe, 99, -1, "", api.ErrArg},
		{exe, 0, api.MaxRead + 1, "", api.ErrLong}, {exe, 99, api.MaxRead + 1, "", api.ErrLong}, {exe, 0, math.MaxInt, "", api.ErrLong}, {exe, math.MaxInt, math.MaxInt, "", api.ErrLong},
		{exe, -1, api.MaxRead + 1, "", api.ErrArg}, {exe, -1, math.MaxInt, "", api.ErrArg},
		{root, 0, 1, "", api.ErrKind}, {bin, 0, 1, "", api.ErrKind}, {rel, 0, 1, "", api.ErrKind}, {jump, 0, 1, "", api.ErrKind}, {char, 0, 1, "", api.ErrKind}, {disk, 0, 0, "", api.ErrKind},
		{root, -1, 1, "", api.ErrKind}, {rel, 0, -1, "", api.ErrKind}, {disk, 0, api.MaxRead + 1, "", api.ErrKind}, {char, -1, api.MaxRead + 1, "", api.ErrKind},
	} {
		if b, e := m.Read(c.ino, c.off, c.n); string(b) != c.b || e != c.e {
			t.Errorf("node %d from %d, %d: %q, %d, not %q, %d", c.ino, c.off, c.n, b, e, c.b, c.e)
		}
	}
}

func TestReadOfLongFiles(t *testing.T) {
	data := make([]byte, api.MaxRead+3)
	for i := range data {
		data[i] = byte(i%255 + 1)
	}
	const long = api.MaxFile - 1
	m := modelOf(t, file("a", string(data), api.MaxRead+5), file("b", "x", long), file("c", "", 0))
	for _, c := range []struct {
		ino, off, n int
		b           []byte
	}{
		{1, 0, api.MaxRead, data[:api.MaxRead]},
		{1, 1, api.MaxRead, data[1 : api.MaxRead+1]},
		{1, 4, api.MaxRead, append(slices.Clone(data[4:]), 0)}, // one byte behind Data
		{1, 5, api.MaxRead, append(slices.Clone(data[5:]), 0, 0)},
		{1, 6, api.MaxRead, append(slices.Clone(data[6:]), 0, 0)},
		{2, 0, api.MaxRead, append([]byte("x"), make([]byte, api.MaxRead-1)...)},
		{2, long - api.MaxRead, api.MaxRead, make([]byte, api.MaxRead)},
		{2, long - 2, 9, make([]byte, 2)},
		{2, long - 1, 9, make([]byte, 1)},
		{2, long, 9, nil},
		{2, long + 1, 9, nil},
		{3, 0, 9, nil},
		{3, 1, 9, nil},
	} {
		if b, e := m.Read(c.ino, c.off, c.n); !bytes.Equal(b, c.b) || e != api.OK {
			t.Errorf("node %d from %d, %d: %d bytes, %d, not %d", c.ino, c.off, c.n, len(b), e, len(c.b))
		}
	}
}

func TestNames(t *testing.T) {
	m := zooModel(t)
	want := map[int][]string{bin: {"on a folder"}, exe: {"none", "user.k", "z"}, disk: {"on a device"}, rel: {"on a link"}}
	for ino := range count {
		if l, e := m.Names(ino); !slices.Equal(l, want[ino]) || e != api.OK {
			t.Errorf("node %d: %q, %d", ino, l, e)
		}
	}
}

func TestAttr(t *testing.T) {
	m := zooModel(t)
	for _, c := range []struct {
		ino  int
		name string
		v    string
		e    api.Errno
	}{
		{exe, "none", "", 0}, {exe, "user.k", "value", 0}, {exe, "z", "last", 0}, {bin, "on a folder", "", 0}, {disk, "on a device", "\x00\x01", 0}, {rel, "on a link", "l", 0},
		{exe, "", "", api.ErrNone}, {exe, "user", "", api.ErrNone}, {exe, "user.k ", "", api.ErrNone}, {exe, "USER.K", "", api.ErrNone}, {exe, "a", "", api.ErrNone}, {exe, "zz", "", api.ErrNone},
		{exe, "z\x00", "", api.ErrNone}, {exe, "on a folder", "", api.ErrNone}, {root, "z", "", api.ErrNone}, {root, "", "", api.ErrNone}, {jump, "on a link", "", api.ErrNone}, {exe, strings.Repeat("z", 256), "", api.ErrNone},
	} {
		if v, e := m.Attr(c.ino, c.name); string(v) != c.v || e != c.e {
			t.Errorf("%.9q of node %d: %q, %d, not %q, %d", c.name, c.ino, v, e, c.v, c.e)
		}
	}
}

func TestAsManyAttributesAsMayBe(t *testing.T) {
	x := file("f", "", 0)
	var want []string
	for i := range api.MaxAttrs {
		s := fmt.Sprintf("%0*d", 255-i, i)
		x.Attrs = append(x.Attrs, api.Attr{Name: s, Value: bytes.Repeat([]byte{byte(i)}, api.MaxValue-i)})
		want = append(want, s)
	}
	slices.Sort(want)
	m := modelOf(t, x)
	if l, e := m.Names(1); !slices.Equal(l, want) || e != api.OK {
		t.Errorf("%d names, %d", len(l), e)
	}
	for _, a := range x.Attrs {
		if v, e := m.Attr(1, a.Name); !bytes.Equal(v, a.Value) || e != api.OK {
			t.Errorf("%d bytes, %d", len(v), e)
		}
	}
}
