package tree_test

import (
	"bytes"
	"cmp"
	"fmt"
	"math/rand"
	"slices"
	"strings"
	"testing"

	"portmanteau/api"
	"portmanteau/name"
	"portmanteau/tree"
)

// What the chapter says of lists and trees, by another hand than the program's: slowly, and word by word.

// namesOf is what stands between a path's slashes.
func namesOf(path string) []string {
	if path == "" {
		return nil
	}
	return strings.Split(path, "/")
}

// folderOf is a path without its last part.
func folderOf(path string) string {
	l := namesOf(path)
	return strings.Join(l[:len(l)-1], "/")
}

// byOrder holds two paths against one another.
func byOrder(a, b string) int {
	return name.Order(namesOf(a), namesOf(b))
}

// checkByHand is what Check tells.
func checkByHand(l []api.Entry) (int, api.Errno) {
	if len(l) > 16384 {
		return 0, api.ErrMany
	}
	all := 0
	for _, x := range l {
		if x.Kind == api.KindFile {
			all += len(x.Data)
		}
	}
	if all > 8388608 {
		return 0, api.ErrLong
	}
	for i := range l {
		if e := faultByHand(l, i); e != api.OK {
			return i, e
		}
	}
	return 0, api.OK
}

func faultByHand(l []api.Entry, i int) api.Errno {
	x := l[i]
	if !slices.Contains([]int{1, 2, 3, 4, 5, 6}, x.Kind) {
		return api.ErrKind
	}
	names := namesOf(x.Path)
	made, e := name.Join(names)
	if e != api.OK || made != x.Path || slices.Contains(names, "..") || x.Path == "" && x.Kind != api.KindDir {
		return api.ErrForm
	}
	if len(names) > 64 {
		return api.ErrMany
	}
	if slices.ContainsFunc(l[:i], func(y api.Entry) bool { return y.Path == x.Path }) {
		return api.ErrTwice
	}
	if len(names) >= 2 && !slices.ContainsFunc(l, func(y api.Entry) bool { return y.Kind == api.KindDir && y.Path == folderOf(x.Path) }) {
		return api.ErrNone
	}
	if x.Kind == api.KindHard {
		leads := func(y api.Entry) bool {
			return y.Path == x.Target && slices.Contains([]int{1, 3, 4, 5}, y.Kind)
		}
		if !slices.ContainsFunc(l, leads) {
			return api.ErrNone
		}
		return api.OK
	}
	return fieldsByHand(x)
}

func fieldsByHand(x api.Entry) api.Errno {
	out := func(n, most int) bool { return n < 0 || n > most }
	text := func(s string, most int) bool { return len(s) >= 1 && len(s) <= most && !strings.Contains(s, "\x00") }
	wrong := out(x.Mode, 4095) || out(x.Uid, 1<<32-1) || out(x.Gid, 1<<32-1) || out(x.Time, 1<<32-1)
	switch x.Kind {
	case api.KindFile:
		wrong = wrong || x.Size < len(x.Data) || x.Size > 1<<40-1
	case api.KindLink:
		wrong = wrong || !text(x.Target, 4096)
	case api.KindBlock, api.KindChar:
		wrong = wrong || out(x.Dev, 1<<32-1)
	}
	wrong = wrong || len(x.Attrs) > 64
	twice := false
	for i, a := range x.Attrs {
		wrong = wrong || !text(a.Name, 255) || len(a.Value) > 4096
		twice = twice || slices.ContainsFunc(x.Attrs[:i], func(b api.Attr) bool { return b.Name == a.Name })
	}
	switch {
	case wrong:
		return api.ErrArg
	case twice:
		return api.ErrTwice
	}
	return api.OK
}

// known is a node of a list: its entry, and all its names in their order.
type known struct {
	x     api.Entry
	names []string
}

// knownOf is all nodes of a list that is a tree, in the order of their numbers.
func knownOf(l []api.Entry) []known {
	if !slices.ContainsFunc(l, func(x api.Entry) bool { return x.Path == "" }) {
		l = append([]api.Entry{{Kind: api.KindDir, Mode: 493}}, l...)
	}
	var all []known
	for _, x := range l {
		if x.Kind == api.KindHard {
			continue
		}
		k := known{x, []string{x.Path}}
		for _, y := range l {
			if y.Kind == api.KindHard && y.Target == x.Path {
				k.names = append(k.names, y.Path)
			}
		}
		slices.SortFunc(k.names, byOrder)
		all = append(all, k)
	}
	slices.SortFunc(all, func(a, b known) int { return byOrder(a.names[0], b.names[0]) })
	return all
}

// canonByHand is the tree of a list that is one.
func canonByHand(l []api.Entry) api.Tree {
	all := knownOf(l)
	t := api.Tree{}
	for _, k := range all {
		n := api.Node{Kind: k.x.Kind, Mode: k.x.Mode, Uid: k.x.Uid, Gid: k.x.Gid, Time: k.x.Time, Links: len(k.names)}
		n.Attrs = slices.Clone(k.x.Attrs)
		slices.SortFunc(n.Attrs, func(a, b api.Attr) int { return cmp.Compare(a.Name, b.Name) })
		switch k.x.Kind {
		case api.KindFile:
			n.Size, n.Data = k.x.Size, k.x.Data
			for len(n.Data) > 0 && n.Data[len(n.Data)-1] == 0 {
				n.Data = n.Data[:len(n.Data)-1]
			}
		case api.KindLink:
			n.Target = k.x.Target
		case api.KindBlock, api.KindChar:
			n.Dev = k.x.Dev
		case api.KindDir:
			n.Links = 2
			for i, other := range all {
				for _, s := range other.names {
					if s == "" || folderOf(s) != k.x.Path {
						continue
					}
					n.Kids = append(n.Kids, api.Kid{Name: s[strings.LastIndex(s, "/")+1:], Ino: i})
					if other.x.Kind == api.KindDir {
						n.Links++
					}
				}
			}
			slices.SortFunc(n.Kids, func(a, b api.Kid) int { return cmp.Compare(a.Name, b.Name) })
			if k.x.Path != "" {
				n.Parent = slices.IndexFunc(all, func(o known) bool { return o.names[0] == folderOf(k.x.Path) })
			}
		}
		t.Nodes = append(t.Nodes, n)
	}
	return t
}

// listByHand is what List tells of the tree of a list that is one.
func listByHand(l []api.Entry) []api.Entry {
	var out []api.Entry
	for i, n := range canonByHand(l).Nodes {
		names := knownOf(l)[i].names
		out = append(out, api.Entry{Path: names[0], Kind: n.Kind, Mode: n.Mode, Uid: n.Uid, Gid: n.Gid, Time: n.Time, Size: n.Size, Data: n.Data, Target: n.Target, Dev: n.Dev, Attrs: n.Attrs})
		for _, s := range names[1:] {
			out = append(out, api.Entry{Path: s, Kind: api.KindHard, Target: names[0]})
		}
	}
	slices.SortFunc(out, func(a, b api.Entry) int { return byOrder(a.Path, b.Path) })
	return out
}

// told is a tree or a list as a text, in which nil and empty lists are alike.
func told(x any) string {
	return fmt.Sprintf("%+v", x)
}

// short is told, cut where it is long.
func short(x any) string {
	s := told(x)
	if len(s) > 1000 {
		s = s[:500] + " .. " + s[len(s)-500:]
	}
	return s
}

// check holds what Check tells, and that Canon tells the same error and nothing beside it.
func check(t testing.TB, what string, l []api.Entry, at int, e api.Errno) {
	t.Helper()
	if gotAt, got := tree.Check(l); gotAt != at || got != e {
		t.Errorf("%s: Check: %d %d, not %d %d", what, gotAt, got, at, e)
	}
	x, got := tree.Canon(l)
	if got != e || e != api.OK && x.Nodes != nil {
		t.Errorf("%s: Canon: %s %d, not error %d", what, short(x), got, e)
	}
}

// canon is the tree of a list that is one.
func canon(t testing.TB, l []api.Entry) api.Tree {
	t.Helper()
	x, e := tree.Canon(l)
	if e != api.OK {
		t.Fatalf("Canon(%s): error %d", short(l), e)
	}
	return x
}

// list is the entries of a tree.
func list(t testing.TB, x api.Tree) []api.Entry {
	t.Helper()
	l, e := tree.List(x)
	if e != api.OK {
		t.Fatalf("List(%s): error %d", short(x), e)
	}
	return l
}

// none holds that List takes no such tree.
func none(t testing.TB, what string, x api.Tree) {
	t.Helper()
	if l, e := tree.List(x); e != api.ErrArg || len(l) != 0 {
		t.Errorf("%s: List: %s %d", what, short(l), e)
	}
}

// Entries of each kind, as plain as may be.

func file(path string, data ...byte) api.Entry {
	return api.Entry{Path: path, Kind: api.KindFile, Mode: 0o644, Size: len(data), Data: data}
}

func folder(path string) api.Entry {
	return api.Entry{Path: path, Kind: api.KindDir, Mode: 0o755}
}

func link(path, target string) api.Entry {
	return api.Entry{Path: path, Kind: api.KindLink, Mode: 0o777, Target: target}
}

func device(path string, kind, dev int) api.Entry {
	return api.Entry{Path: path, Kind: kind, Mode: 0o600, Dev: dev}
}

func further(path, target string) api.Entry {
	return api.Entry{Path: path, Kind: api.KindHard, Target: target}
}

// plain is an entry of each kind at a path, but of further names.
func plain(path string) []api.Entry {
	return []api.Entry{file(path, 1, 2), folder(path), link(path, "t"), device(path, api.KindBlock, 8), device(path, api.KindChar, 9)}
}

// mixed is a list with all kinds, in an order of its own, and with further names on both sides of those that they lead to.
func mixed() []api.Entry {
	return []api.Entry{
		further("a.", "c/f"),
		further("c/z", "b"),
		{Path: "b", Kind: api.KindChar, Mode: 0o4600, Uid: 7, Gid: 8, Time: 9, Dev: 10, Attrs: []api.Attr{{Name: "z"}, {Name: "a", Value: []byte{1}}, {Name: "\xff"}, {Name: "aa"}, {Name: "B"}}},
		file("c/f", 5, 0, 6, 0, 0),
		{Path: "a", Kind: api.KindDir, Mode: 0o1700, Uid: 1, Gid: 2, Time: 3, Attrs: []api.Attr{{Name: "u", Value: bytes.Repeat([]byte{3}, 40)}}},
		folder("c"),
		folder("a/b"),
		further("a/b/h", "a/l"),
		link("a/l", "../c/f"),
		further("\xff", "a/l"),
		device("c/d", api.KindBlock, 77),
		folder("c/ä"),
		file("c/ä/n"),
		{Path: "a/b/s", Kind: api.KindFile, Size: api.MaxFile - 1, Data: []byte{0, 0, 0}},
	}
}

// whole is as many bytes as all files have at most.
var whole = make([]byte, 8388608)

// dice throws what random lists are made of.
type dice struct{ *rand.Rand }

func thrown(seed int64) dice {
	return dice{rand.New(rand.NewSource(seed))}
}

// pick is one of some, mostly one of the first.
func pick[T any](d dice, wrongOf int, right, wrong []T) T {
	if d.Intn(wrongOf) == 0 {
		return wrong[d.Intn(len(wrong))]
	}
	return right[d.Intn(len(right))]
}

// attrs is some attributes, now and then wrong ones.
func (d dice) attrs(wrongOf int) []api.Attr {
	var l []api.Attr
	for range max(0, d.Intn(7)-3) {
		l = append(l, api.Attr{
			Name:  pick(d, 1+d.Intn(2*wrongOf), []string{"a", "b", "c", "d", "/", "..", "\xff", "ab", strings.Repeat("n", 255)}, []string{"", "\x00", "a\x00", strings.Repeat("n", 256), "e", "f"}),
			Value: pick(d, wrongOf, [][]byte{nil, {}, {0}, {1, 2}, whole[:4096]}, [][]byte{whole[:4097]}),
		})
	}
	return l
}

// entry is some entry, now and then a wrong one.
func (d dice) entry(wrongOf int) api.Entry {
	word := func() int {
		return pick(d, wrongOf, []int{0, 1, 4294967295}, []int{-1, 4294967296})
	}
	paths := []string{"a", "b", "a/a", "a/b", "b/a", "b/b", "a/a/a", "a/a/b", "a.", "c", "\xff", "a/\xff"}
	data := pick(d, wrongOf, [][]byte{nil, {}, {1}, {1, 0}, {0, 0}, {0, 1, 0}}, [][]byte{whole})
	return api.Entry{
		Path:   pick(d, wrongOf, paths, []string{"", "", "a/", "/a", "a//b", ".", "..", "a/..", "a/./b", "a\x00", "a/" + strings.Repeat("n", 256), "/"}),
		Kind:   pick(d, wrongOf, []int{1, 2, 2, 2, 2, 3, 4, 5, 6, 6}, []int{0, -1, 7, 1, 2, 6}),
		Mode:   pick(d, wrongOf, []int{0, 420, 4095}, []int{-1, 4096}),
		Uid:    word(),
		Gid:    word(),
		Time:   word(),
		Size:   pick(d, wrongOf, []int{len(data), len(data) + 3, 1<<40 - 1}, []int{len(data) - 1, -1, 1 << 40}),
		Data:   data,
		Target: pick(d, wrongOf, append([]string{".."}, paths...), []string{"", "\x00", strings.Repeat("t", 4096), strings.Repeat("t", 4097)}),
		Dev:    word(),
		Attrs:  d.attrs(wrongOf),
	}
}

// entries is a list, which is a tree or not.
func (d dice) entries(most, wrongOf int) []api.Entry {
	var l []api.Entry
	for range d.Intn(most + 1) {
		l = append(l, d.entry(wrongOf))
	}
	return l
}

// grown is a list that is a tree: what has no fault is kept of many tries.
func (d dice) grown(tries int) []api.Entry {
	var l []api.Entry
	if d.Intn(2) == 0 {
		l = append(l, api.Entry{Kind: api.KindDir, Mode: d.Intn(4096), Time: d.Intn(9)})
	}
	for range tries {
		x := d.entry(1000)
		if len(l) > 0 && d.Intn(2) == 0 {
			x.Kind, x.Target = api.KindHard, l[d.Intn(len(l))].Path
		}
		if more := append(slices.Clone(l), x); len(x.Data) < 100 && faultByHand(more, len(l)) == api.OK {
			l = more
		}
	}
	d.Shuffle(len(l), func(i, j int) { l[i], l[j] = l[j], l[i] })
	return l
}
