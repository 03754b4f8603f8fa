package tree_test

import (
	"slices"
	"strings"
	"testing"

	"portmanteau/api"
	"portmanteau/tree"
)

// P11.2

// makes holds which tree a list makes.
func makes(t *testing.T, what string, l []api.Entry, want ...api.Node) {
	t.Helper()
	if x := canon(t, l); told(x) != told(api.Tree{Nodes: want}) {
		t.Errorf("%s:\n%s, not\n%s", what, short(x), short(want))
	}
}

// root is one without an entry, with such names.
func root(links int, kids ...api.Kid) api.Node {
	return api.Node{Kind: api.KindDir, Mode: 493, Kids: kids, Links: links}
}

func TestCanonExamples(t *testing.T) {
	a := api.Node{Kind: api.KindDir, Mode: 0o755, Links: 2}
	b := api.Node{Kind: api.KindFile, Mode: 0o644, Size: 1, Data: []byte{7}, Links: 2}
	c := api.Node{Kind: api.KindFile, Mode: 0o644, Links: 1}
	a.Kids = []api.Kid{{Name: "c", Ino: 2}, {Name: "d", Ino: 3}}
	makes(t, "the chapter's", []api.Entry{file("b", 7), folder("a"), file("a/c"), further("a/d", "b")},
		root(3, api.Kid{Name: "a", Ino: 1}, api.Kid{Name: "b", Ino: 3}), a, c, b)
	a.Kids = []api.Kid{{Name: "d", Ino: 2}}
	makes(t, "the document's", []api.Entry{file("b", 7), folder("a"), further("a/d", "b")},
		root(3, api.Kid{Name: "a", Ino: 1}, api.Kid{Name: "b", Ino: 2}), a, b)
}

func TestCanonRoot(t *testing.T) {
	makes(t, "nil", nil, root(2))
	makes(t, "empty", []api.Entry{}, root(2))
	makes(t, "a root", []api.Entry{{Kind: api.KindDir}}, api.Node{Kind: api.KindDir, Links: 2})
	x := api.Entry{Kind: api.KindDir, Mode: 0o700, Uid: 1, Gid: 2, Time: 3, Attrs: []api.Attr{{Name: "b"}, {Name: "a"}}}
	want := api.Node{Kind: api.KindDir, Mode: 0o700, Uid: 1, Gid: 2, Time: 3, Attrs: []api.Attr{{Name: "a"}, {Name: "b"}}, Links: 3}
	want.Kids = []api.Kid{{Name: "a", Ino: 1}, {Name: "b", Ino: 2}}
	l := []api.Entry{file("b"), x, folder("a")}
	makes(t, "a root among others", l, want, api.Node{Kind: api.KindDir, Mode: 0o755, Links: 2}, api.Node{Kind: api.KindFile, Mode: 0o644, Links: 1})
	l = slices.Delete(l, 1, 2)
	want = root(3, want.Kids...)
	makes(t, "no root among others", l, want, api.Node{Kind: api.KindDir, Mode: 0o755, Links: 2}, api.Node{Kind: api.KindFile, Mode: 0o644, Links: 1})
}

// Fields that are not asked of a kind play no part.
func TestCanonFields(t *testing.T) {
	all := api.Entry{Path: "a", Mode: 1, Uid: 2, Gid: 3, Time: 4, Size: 5, Data: []byte{6, 0, 7}, Target: "t", Dev: 8, Attrs: []api.Attr{{Name: "n", Value: []byte{9}}}}
	for _, want := range []api.Node{
		{Kind: api.KindFile, Size: 5, Data: []byte{6, 0, 7}, Links: 1},
		{Kind: api.KindDir, Links: 2},
		{Kind: api.KindLink, Target: "t", Links: 1},
		{Kind: api.KindBlock, Dev: 8, Links: 1},
		{Kind: api.KindChar, Dev: 8, Links: 1},
	} {
		x := all
		x.Kind = want.Kind
		want.Mode, want.Uid, want.Gid, want.Time, want.Attrs = 1, 2, 3, 4, all.Attrs
		links := 2
		if want.Kind == api.KindDir {
			links = 3
		}
		makes(t, "all fields", []api.Entry{x}, root(links, api.Kid{Name: "a", Ino: 1}), want)
	}
	hard := all
	hard.Path, hard.Kind, hard.Target = "b", api.KindHard, "f"
	hard.Mode, hard.Size, hard.Dev = -1, -1, -1
	makes(t, "a further name", []api.Entry{hard, file("f", 1)}, root(2, api.Kid{Name: "b", Ino: 1}, api.Kid{Name: "f", Ino: 1}),
		api.Node{Kind: api.KindFile, Mode: 0o644, Size: 1, Data: []byte{1}, Links: 2})
}

func TestCanonNoughts(t *testing.T) {
	for _, c := range []struct{ data, want []byte }{
		{nil, nil},
		{[]byte{0}, nil},
		{make([]byte, 5000), nil},
		{[]byte{1, 0}, []byte{1}},
		{[]byte{0, 1, 0, 0}, []byte{0, 1}},
		{[]byte{0, 0, 1}, []byte{0, 0, 1}},
		{[]byte("0"), []byte("0")},
		{[]byte{1, 0, 0xff, 0, ' ', 0}, []byte{1, 0, 0xff, 0, ' '}},
	} {
		makes(t, "noughts", []api.Entry{file("a", c.data...)}, root(2, api.Kid{Name: "a", Ino: 1}),
			api.Node{Kind: api.KindFile, Mode: 0o644, Size: len(c.data), Data: c.want, Links: 1})
	}
}

func TestCanonAttrs(t *testing.T) {
	x := file("a")
	for _, name := range []string{"b", "\xff", "a", "ab", "B", "a\x01", "/", "\xc3\xa4", "aa", strings.Repeat("a", 255)} {
		x.Attrs = append(x.Attrs, api.Attr{Name: name, Value: []byte(name)})
	}
	var got []string
	for _, a := range canon(t, []api.Entry{x}).Nodes[1].Attrs {
		if a.Name != string(a.Value) {
			t.Errorf("%q has the value %q", a.Name, a.Value)
		}
		got = append(got, a.Name)
	}
	if want := []string{"/", "B", "a", "a\x01", "aa", strings.Repeat("a", 255), "ab", "b", "\xc3\xa4", "\xff"}; !slices.Equal(got, want) {
		t.Errorf("%q", got)
	}
}

// Nodes are numbered as the parts of their paths lead, not as the texts do.
func TestCanonOrder(t *testing.T) {
	l := []api.Entry{file("a.b"), file("a b"), folder("a"), file("a/z"), folder("a/\xff"), file("a/\xff/a"), file("ab"), file("\xff"), file("B")}
	x := canon(t, l)
	want := []api.Kid{{Name: "B", Ino: 1}, {Name: "a", Ino: 2}, {Name: "a b", Ino: 6}, {Name: "a.b", Ino: 7}, {Name: "ab", Ino: 8}, {Name: "\xff", Ino: 9}}
	if got := x.Nodes[0].Kids; !slices.Equal(got, want) {
		t.Errorf("%v", got)
	}
	if got := x.Nodes[2].Kids; !slices.Equal(got, []api.Kid{{Name: "z", Ino: 3}, {Name: "\xff", Ino: 4}}) {
		t.Errorf("%v", got)
	}
	if n := x.Nodes[4]; n.Parent != 2 || n.Links != 2 || !slices.Equal(n.Kids, []api.Kid{{Name: "a", Ino: 5}}) {
		t.Errorf("%+v", n)
	}
}

// A node is numbered by the first of its names, wherever its entry stands.
func TestCanonFurtherNames(t *testing.T) {
	names := []string{"a", "m/b", "m/m/x", "z"}
	for _, own := range names {
		l := []api.Entry{file("b", 9), folder("m"), folder("m/m"), file("c", 8)}
		for _, s := range names {
			if s == own {
				l = append(l, link(s, "t"))
			} else {
				l = append([]api.Entry{further(s, own)}, l...)
			}
		}
		makes(t, "its entry is "+own, l,
			root(3, api.Kid{Name: "a", Ino: 1}, api.Kid{Name: "b", Ino: 2}, api.Kid{Name: "c", Ino: 3}, api.Kid{Name: "m", Ino: 4}, api.Kid{Name: "z", Ino: 1}),
			api.Node{Kind: api.KindLink, Mode: 0o777, Target: "t", Links: 4},
			api.Node{Kind: api.KindFile, Mode: 0o644, Size: 1, Data: []byte{9}, Links: 1},
			api.Node{Kind: api.KindFile, Mode: 0o644, Size: 1, Data: []byte{8}, Links: 1},
			api.Node{Kind: api.KindDir, Mode: 0o755, Kids: []api.Kid{{Name: "b", Ino: 1}, {Name: "m", Ino: 5}}, Links: 3},
			api.Node{Kind: api.KindDir, Mode: 0o755, Kids: []api.Kid{{Name: "x", Ino: 1}}, Parent: 4, Links: 2})
	}
}

func TestCanonByHand(t *testing.T) {
	if x, want := canon(t, mixed()), canonByHand(mixed()); told(x) != told(want) {
		t.Errorf("\n%s, not\n%s", told(x), told(want))
	}
	d := thrown(1102)
	names := 0
	for range 3000 {
		l := d.grown(25)
		if x, want := canon(t, l), canonByHand(l); told(x) != told(want) {
			t.Fatalf("%s:\n%s, not\n%s", short(l), short(x), short(want))
		}
		for _, x := range l {
			if x.Kind == api.KindHard {
				names++
			}
		}
	}
	if names < 1000 {
		t.Errorf("but %d further names came", names)
	}
}

func TestCanonMany(t *testing.T) {
	for what, l := range map[string][]api.Entry{"without the root's": many(16384), "with the root's": append(many(16383), folder(""))} {
		x := canon(t, l)
		files, names := 0, 0
		for i, n := range x.Nodes {
			names += len(n.Kids)
			if n.Kind == api.KindFile {
				files++
			}
			if i > 0 && n.Parent != 0 || n.Kind == api.KindDir && i > 0 && n.Links != 2 {
				t.Fatalf("%s: node %d: %s", what, i, short(n))
			}
		}
		if names != len(x.Nodes)-1 || len(x.Nodes[0].Kids) != 128 || x.Nodes[0].Links != 130 || files+129 != len(x.Nodes) {
			t.Errorf("%s: %d nodes, %d names, %d files", what, len(x.Nodes), names, files)
		}
		if want := map[string]int{"without the root's": 16385, "with the root's": 16384}[what]; len(x.Nodes) != want {
			t.Errorf("%s: %d nodes", what, len(x.Nodes))
		}
	}
	var l []api.Entry
	for i, x := range many(16384) {
		if i%128 > 1 {
			x = further(x.Path, "f0/1")
		}
		l = append(l, x)
	}
	x := canon(t, l)
	if n := x.Nodes[2]; len(x.Nodes) != 1+2*128 || n.Links != 1+128*126 || n.Kind != api.KindFile {
		t.Errorf("%d nodes, %s", len(x.Nodes), short(n))
	}
}

func TestCanonDeep(t *testing.T) {
	l, path := down(slices.Repeat([]string{"d"}, 64)...)
	slices.Reverse(l)
	x := canon(t, l)
	for i, n := range x.Nodes {
		links, kids := 3, []api.Kid{{Name: "d", Ino: i + 1}}
		if i == 64 {
			links, kids = 2, nil
		}
		if n.Parent != max(i-1, 0) || n.Links != links || !slices.Equal(n.Kids, kids) {
			t.Errorf("node %d: %+v", i, n)
		}
	}
	if len(x.Nodes) != 65 {
		t.Errorf("%d nodes", len(x.Nodes))
	}
	if got := list(t, x); len(got) != 65 || got[64].Path != path {
		t.Errorf("%d entries", len(got))
	}
}

// P11.4: what Canon does not hang on

// moved is a list with the entry of a node with further names at another one of them.
func moved(d dice, l []api.Entry) []api.Entry {
	l = slices.Clone(l)
	for i := range l {
		if l[i].Kind != api.KindHard || d.Intn(2) == 0 {
			continue
		}
		was, now := l[i].Target, l[i].Path
		at := slices.IndexFunc(l, func(x api.Entry) bool { return x.Path == was })
		l[at].Path, l[i].Path = now, was
		for j := range l {
			if l[j].Kind == api.KindHard && l[j].Target == was {
				l[j].Target = now
			}
		}
	}
	return l
}

// padded is a list with noughts behind the Data of some files, as their Size lets them be.
func padded(d dice, l []api.Entry) []api.Entry {
	l = slices.Clone(l)
	for i, x := range l {
		if x.Kind == api.KindFile {
			l[i].Data = append(slices.Clone(x.Data), make([]byte, d.Intn(min(9, x.Size-len(x.Data)+1)))...)
		}
	}
	return l
}

func TestCanonHangsOnTheTreeAlone(t *testing.T) {
	d := thrown(1103)
	changed := 0
	for round := range 2000 {
		l := d.grown(25)
		if round%10 == 0 {
			l = mixed()
		}
		x := canon(t, l)
		other := padded(d, moved(d, l))
		d.Shuffle(len(other), func(i, j int) { other[i], other[j] = other[j], other[i] })
		for i := range other {
			l := slices.Clone(other[i].Attrs)
			d.Shuffle(len(l), func(a, b int) { l[a], l[b] = l[b], l[a] })
			other[i].Attrs = l
		}
		if y := canon(t, other); told(x) != told(y) || !tree.Same(x, y) {
			t.Fatalf("%s and %s:\n%s and\n%s", short(l), short(other), short(x), short(y))
		}
		if told(l) != told(other) {
			changed++
		}
	}
	if changed < 1000 {
		t.Errorf("but %d lists were changed", changed)
	}
}

// Each order of a short list, and each name at which a node's entry may stand.
func TestCanonEachOrder(t *testing.T) {
	names := []string{"a", "d/a", "z"}
	var first string
	for _, own := range names {
		l := []api.Entry{folder("d"), file("b", 1, 0)}
		for _, s := range names {
			if s == own {
				l = append(l, device(s, api.KindChar, 3))
			} else {
				l = append(l, further(s, own))
			}
		}
		orders(l, len(l), func() {
			x := told(canon(t, l))
			if first == "" {
				first = x
			}
			if x != first {
				t.Errorf("%s:\n%s, not\n%s", told(l), x, first)
			}
		})
	}
}

// orders brings the first n of l into each order, one behind the other.
func orders(l []api.Entry, n int, do func()) {
	if n <= 1 {
		do()
		return
	}
	for i := range n {
		l[i], l[n-1] = l[n-1], l[i]
		orders(l, n-1, do)
		l[i], l[n-1] = l[n-1], l[i]
	}
}
