package tree_test

import (
	"fmt"
	"math"
	"slices"
	"strings"
	"testing"

	"portmanteau/api"
	"portmanteau/tree"
)

// P11.3: List, and P11.4: Canon of List is the tree

// lists holds what List tells of the tree of a list, and that it makes the tree again.
func lists(t *testing.T, l []api.Entry, want []api.Entry) {
	t.Helper()
	x := canon(t, l)
	got := list(t, x)
	if told(got) != told(want) {
		t.Errorf("the list of %s:\n%s, not\n%s", short(l), short(got), short(want))
	}
	if y := canon(t, got); told(x) != told(y) || !tree.Same(x, y) {
		t.Errorf("%s makes\n%s, not\n%s", short(got), short(y), short(x))
	}
}

func TestList(t *testing.T) {
	lists(t, nil, []api.Entry{{Kind: api.KindDir, Mode: 493}})
	lists(t, []api.Entry{{Kind: api.KindDir, Mode: 1, Attrs: []api.Attr{{Name: "b"}, {Name: "a"}}}}, []api.Entry{{Kind: api.KindDir, Mode: 1, Attrs: []api.Attr{{Name: "a"}, {Name: "b"}}}})
	lists(t, []api.Entry{file("b", 7, 0), folder("a"), file("a/c"), further("a/d", "b")}, []api.Entry{
		folder(""), folder("a"), file("a/c"), {Path: "a/d", Kind: api.KindFile, Mode: 0o644, Size: 2, Data: []byte{7}}, further("b", "a/d"),
	})
	lists(t, []api.Entry{file("a.b"), folder("a"), device("a/b", api.KindBlock, 5), link("B", "a"), further("C", "B"), further("a/a", "B")}, []api.Entry{
		folder(""), link("B", "a"), further("C", "B"), folder("a"), further("a/a", "B"), device("a/b", api.KindBlock, 5), file("a.b"),
	})
	hard := further("a", "b")
	hard.Mode, hard.Uid, hard.Size, hard.Data, hard.Dev, hard.Attrs = -1, 5, 6, []byte{7}, 8, attrs(70)
	lists(t, []api.Entry{hard, file("b")}, []api.Entry{folder(""), file("a"), further("b", "a")})
	lists(t, mixed(), listByHand(mixed()))
}

func TestListByHand(t *testing.T) {
	d := thrown(1104)
	for range 2000 {
		l := d.grown(25)
		lists(t, l, listByHand(l))
	}
}

// A tree of so many names that there is no room for the root's entry is listed without it; else the root's comes first.
func TestListMany(t *testing.T) {
	for what, c := range map[string]struct {
		l      []api.Entry
		rooted bool // whether its list has the root's entry
	}{
		"16384 with the root's":             {append(many(16383), folder("")), true},
		"16384 with another root":           {append(many(16383), api.Entry{Kind: api.KindDir, Uid: 5}), true},
		"16383 without the root's":          {many(16383), true},
		"16384 without the root's":          {many(16384), false},
		"16384 names, the last one further": {append(many(16383), further("x", "f0/1")), false},
	} {
		x := canon(t, c.l)
		got := list(t, x)
		if len(got) != 16384 || (got[0].Path == "") != c.rooted {
			t.Errorf("%s: %d entries, the first %q", what, len(got), got[0].Path)
		}
		if !slices.IsSortedFunc(got, func(a, b api.Entry) int { return byOrder(a.Path, b.Path) }) {
			t.Errorf("%s: not in order", what)
		}
		if y := canon(t, got); !tree.Same(x, y) {
			t.Errorf("%s: it makes another tree", what)
		}
	}
	x := canon(t, many(16384))
	x.Nodes[0].Mode++
	none(t, "16384 names and a root with an entry", x)
	x = canon(t, many(16384))
	x.Nodes[0].Attrs = attrs(1)
	none(t, "16384 names and a root with attributes", x)
	x = canon(t, many(16384))
	x.Nodes[0].Kids = append(x.Nodes[0].Kids, api.Kid{Name: "z", Ino: 2})
	x.Nodes[2].Links++
	none(t, "16385 names", x)
	x.Nodes[0].Kids = slices.Repeat(x.Nodes[0].Kids, 1000)
	none(t, "very many names", x)
	none(t, "very many nodes", api.Tree{Nodes: make([]api.Node, 1000000)})
	none(t, "very many nodes behind a tree", api.Tree{Nodes: append(slices.Clone(canon(t, nil).Nodes), make([]api.Node, 100000)...)})
}

func TestListNone(t *testing.T) {
	none(t, "no node", api.Tree{})
	none(t, "no node", api.Tree{Nodes: []api.Node{}})
	none(t, "a zero node", api.Tree{Nodes: make([]api.Node, 1)})
	for what, do := range map[string]func(n []api.Node) []api.Node{
		"a kid that leads to -1":              func(n []api.Node) []api.Node { n[1].Kids[0].Ino = -1; return n },
		"a kid that leads behind all":         func(n []api.Node) []api.Node { n[1].Kids[0].Ino = len(n); return n },
		"a kid that leads far":                func(n []api.Node) []api.Node { n[1].Kids[0].Ino = math.MaxInt; return n },
		"a kid that leads far below":          func(n []api.Node) []api.Node { n[1].Kids[0].Ino = math.MinInt; return n },
		"a kid that leads to the root":        func(n []api.Node) []api.Node { n[1].Kids[0].Ino = 0; return n },
		"a kid that leads to its folder":      func(n []api.Node) []api.Node { n[1].Kids[0].Ino = 1; return n },
		"a kid that leads to another":         func(n []api.Node) []api.Node { n[1].Kids[0].Ino = 4; return n },
		"a kid that leads to another folder":  func(n []api.Node) []api.Node { n[1].Kids[0].Ino = 5; return n },
		"a kid more of a folder":              func(n []api.Node) []api.Node { return kid(n, 0, "z", 1) },
		"a kid more of a folder, links right": func(n []api.Node) []api.Node { n[0].Links++; return kid(n, 0, "z", 1) },
		"a kid more of the root":              func(n []api.Node) []api.Node { n[0].Links++; return kid(n, 0, "z", 0) },
		"a ring":                              func(n []api.Node) []api.Node { n[2].Links++; return kid(n, 2, "z", 1) },
		"a ring of its own":                   func(n []api.Node) []api.Node { n[2].Links++; return kid(n, 2, "z", 2) },
		"a ring that nothing leads to":        ring,
		"a node that nothing leads to": func(n []api.Node) []api.Node {
			return append(n, api.Node{Kind: api.KindFile, Links: 1})
		},
		"a node without a name": func(n []api.Node) []api.Node {
			return append(n, api.Node{Kind: api.KindFile})
		},
		"a folder that nothing leads to": func(n []api.Node) []api.Node {
			return append(n, api.Node{Kind: api.KindDir, Links: 2})
		},
		"kids out of order":         func(n []api.Node) []api.Node { slices.Reverse(n[0].Kids); return n },
		"kids out of order, deeper": func(n []api.Node) []api.Node { slices.Reverse(n[1].Kids); return n },
		"a kid twice":               func(n []api.Node) []api.Node { n[3].Links++; n[1].Kids = append(n[1].Kids, n[1].Kids[1]); return n },
		"a kid too few":             func(n []api.Node) []api.Node { n[1].Kids = n[1].Kids[:1]; return n },
		"attributes out of order":   func(n []api.Node) []api.Node { slices.Reverse(n[4].Attrs); return n },
		"attributes twice":          func(n []api.Node) []api.Node { n[4].Attrs[1].Name = n[4].Attrs[0].Name; return n },
		"65 attributes":             func(n []api.Node) []api.Node { n[4].Attrs = many65(); return n },
		"nodes out of order":        swapped,
		"a nought at the end":       func(n []api.Node) []api.Node { n[3].Data = append(n[3].Data, 0); n[3].Size = 99; return n },
		"a nought alone":            func(n []api.Node) []api.Node { n[3].Data = []byte{0}; return n },
		"a size that is too small":  func(n []api.Node) []api.Node { n[3].Size = len(n[3].Data) - 1; return n },
		"a size that is too great":  func(n []api.Node) []api.Node { n[3].Size = api.MaxFile; return n },
		"too many bytes": func(n []api.Node) []api.Node {
			n[3].Data = slices.Repeat([]byte{1}, api.MaxImage+1)
			n[3].Size = len(n[3].Data)
			return n
		},
		"a mode that is none":         func(n []api.Node) []api.Node { n[0].Mode = 4096; return n },
		"a time that is none":         func(n []api.Node) []api.Node { n[4].Time = -1; return n },
		"a device's number":           func(n []api.Node) []api.Node { n[6].Dev = api.MaxWord + 1; return n },
		"a link to nothing":           func(n []api.Node) []api.Node { n[4].Target = ""; return n },
		"a root that is a file":       func(n []api.Node) []api.Node { return []api.Node{{Kind: api.KindFile}} },
		"a root that is a file twice": func(n []api.Node) []api.Node { return []api.Node{{Kind: api.KindFile, Links: 1}} },
		"a root in a folder":          func(n []api.Node) []api.Node { n[0].Parent = 1; return n },
		"a folder that is a file":     func(n []api.Node) []api.Node { n[1].Kind = api.KindFile; return n },
		"a file that is a folder":     func(n []api.Node) []api.Node { n[3].Kind = api.KindDir; return n },
		"a further name as a node": func(n []api.Node) []api.Node {
			n = kid(n, 0, "z", len(n))
			return append(n, api.Node{Kind: api.KindHard, Target: "a/f", Links: 1})
		},
		"a further name as a node, links right": func(n []api.Node) []api.Node {
			n[3].Links++
			n = kid(n, 0, "z", len(n))
			return append(n, api.Node{Kind: api.KindHard, Target: "a/f"})
		},
	} {
		x := small(t)
		none(t, what, api.Tree{Nodes: do(x.Nodes)})
	}
}

// small is a tree: 1 a, 2 a/e, 3 a/f (and s), 4 l, 5 m, 6 m/d.
func small(t *testing.T) api.Tree {
	t.Helper()
	l := link("l", "t")
	l.Attrs = []api.Attr{{Name: "p", Value: []byte{1}}, {Name: "q"}}
	x := canon(t, []api.Entry{folder("a"), folder("a/e"), file("a/f", 1, 2), further("s", "a/f"), l, folder("m"), device("m/d", api.KindChar, 3)})
	if len(x.Nodes) != 7 || len(list(t, x)) != 8 {
		t.Fatal(told(x))
	}
	return x
}

// kid is nodes with a name more at the end of a folder's.
func kid(n []api.Node, folder int, name string, ino int) []api.Node {
	n[folder].Kids = append(n[folder].Kids, api.Kid{Name: name, Ino: ino})
	return n
}

// ring is nodes and two folders behind them that are in one another.
func ring(n []api.Node) []api.Node {
	at := len(n)
	for i := range 2 {
		other := at + 1 - i
		n = append(n, api.Node{Kind: api.KindDir, Links: 3, Parent: other, Kids: []api.Kid{{Name: "r", Ino: other}}})
	}
	return n
}

// many65 is attributes in their order, one more than may be.
func many65() []api.Attr {
	l := attrs(65)
	slices.SortFunc(l, func(a, b api.Attr) int { return strings.Compare(a.Name, b.Name) })
	return l
}

// swapped is nodes of which two have one another's numbers, and all that leads to them leads there.
func swapped(n []api.Node) []api.Node {
	n[3], n[4] = n[4], n[3]
	for i := range n {
		for j, k := range n[i].Kids {
			switch k.Ino {
			case 3:
				n[i].Kids[j].Ino = 4
			case 4:
				n[i].Kids[j].Ino = 3
			}
		}
	}
	return n
}

// A name that is none, or that only its path lets be one.
func TestListNames(t *testing.T) {
	for _, s := range []string{"", ".", "..", "/", "a/", "/a", "a/b", "\x00", "a\x00", strings.Repeat("n", 256), strings.Repeat("n", 1<<20)} {
		for _, c := range []struct{ folder, at int }{{0, 0}, {0, 3}, {1, 0}, {1, 1}, {5, 0}} {
			x := small(t)
			x.Nodes[c.folder].Kids[c.at].Name = s
			none(t, fmt.Sprintf("%.20q in %d", s, c.folder), x)
		}
	}
	x := api.Tree{Nodes: []api.Node{
		root(3, api.Kid{Name: "a", Ino: 1}, api.Kid{Name: "a/b", Ino: 2}),
		{Kind: api.KindDir, Links: 2}, {Kind: api.KindFile, Links: 1},
	}}
	none(t, "a path as a name", x)
	x.Nodes[0].Kids[1] = api.Kid{Name: strings.Repeat("n", 255), Ino: 2}
	list(t, x)
}

// chain is a tree of folders one in the other, with a name of so many bytes each, and a file in the last one.
func chain(sizes ...int) api.Tree {
	var x api.Tree
	for i, n := range sizes {
		x.Nodes = append(x.Nodes, api.Node{Kind: api.KindDir, Mode: 493, Kids: []api.Kid{{Name: strings.Repeat("n", n), Ino: i + 1}}, Parent: max(i-1, 0), Links: 3})
	}
	x.Nodes[len(sizes)-1].Links = 2
	x.Nodes = append(x.Nodes, api.Node{Kind: api.KindFile, Links: 1})
	return x
}

func TestListDeepAndLong(t *testing.T) {
	ones := slices.Repeat([]int{1}, 100000)
	if l := list(t, chain(ones[:64]...)); len(l) != 65 || len(l[64].Path) != 127 {
		t.Errorf("%d entries", len(l))
	}
	for _, n := range []int{65, 66, 127, 128, 129, 130, 3000, 100000} {
		none(t, fmt.Sprint(n, " parts"), chain(ones[:n]...))
	}
	long := append(slices.Repeat([]int{255}, 15), 1, 254)
	if l := list(t, chain(long...)); len(l) != 18 || len(l[17].Path) != 4096 {
		t.Errorf("%d entries", len(l))
	}
	long[16]++
	none(t, "a path of 4097 bytes", chain(long...))
	none(t, "long paths", chain(slices.Repeat([]int{255}, 64)...))
}

// A field that is not asked of a kind must be zero; each number that the names tell must be right.
func TestListFields(t *testing.T) {
	var all []api.Entry
	for i, x := range plain("x") {
		x.Path = fmt.Sprint("k", i+1)
		all = append(all, x)
	}
	made := func() []api.Node { return canon(t, all).Nodes } // node i has the kind i, and 0 is the root
	spoil := map[string]func(n *api.Node){
		"Size":     func(n *api.Node) { n.Size = 1 },
		"Size -1":  func(n *api.Node) { n.Size = -1 },
		"Data":     func(n *api.Node) { n.Data = []byte{1} },
		"Data 0":   func(n *api.Node) { n.Data = []byte{0} },
		"Target":   func(n *api.Node) { n.Target = "t" },
		"Dev":      func(n *api.Node) { n.Dev = 5 },
		"Kids":     func(n *api.Node) { n.Kids = []api.Kid{{Name: "k", Ino: 1}} },
		"no Kids":  func(n *api.Node) { n.Kids = []api.Kid{{}} },
		"Parent":   func(n *api.Node) { n.Parent = 2 },
		"Parent 1": func(n *api.Node) { n.Parent = 1 },
		"below":    func(n *api.Node) { n.Parent = -1 },
		"Links +":  func(n *api.Node) { n.Links++ },
		"Links -":  func(n *api.Node) { n.Links-- },
		"Links 0":  func(n *api.Node) { n.Links = 0 },
		"Kind 0":   func(n *api.Node) { n.Kind = 0 },
		"Kind 6":   func(n *api.Node) { n.Kind = 6 },
		"Kind 7":   func(n *api.Node) { n.Kind = 7 },
	}
	asked := map[int]string{api.KindFile: "Size Data", api.KindLink: "Target", api.KindBlock: "Dev", api.KindChar: "Dev", api.KindDir: "-"}
	for what, do := range spoil {
		for i := range made() {
			n := made()
			do(&n[i])
			if strings.Contains(asked[n[i].Kind], what) {
				continue
			}
			none(t, fmt.Sprintf("%s of node %d", what, i), api.Tree{Nodes: n})
		}
	}
	list(t, api.Tree{Nodes: made()})
	n := made()
	n[1].Size, n[1].Data, n[3].Target, n[4].Dev = 9, []byte{0, 5}, "u", 0
	list(t, api.Tree{Nodes: n})
}

// sound holds that List tells of a tree entries that make it, or ErrArg and nothing; it tells which.
func sound(t *testing.T, x api.Tree) bool {
	l, e := tree.List(x)
	if e == api.ErrArg && len(l) == 0 {
		return false
	}
	if at, fault := checkByHand(l); e != api.OK || fault != api.OK {
		t.Fatalf("List(%s): %s %d: entry %d has error %d", short(x), short(l), e, at, fault)
	}
	if y := canonByHand(l); told(x) != told(y) {
		t.Fatalf("List(%s): %s, which makes\n%s", short(x), short(l), short(y))
	}
	return true
}

// kidLists is all lists of at most two kids by two names, that lead to one of n nodes.
func kidLists(n int) [][]api.Kid {
	var one []api.Kid
	for ino := range n {
		one = append(one, api.Kid{Name: "a", Ino: ino}, api.Kid{Name: "b", Ino: ino})
	}
	all := [][]api.Kid{nil}
	for _, a := range one {
		all = append(all, []api.Kid{a})
		for _, b := range one {
			all = append(all, []api.Kid{a, b})
		}
	}
	return all
}

// counted gives nodes the Parent and the Links that their kids tell.
func counted(nodes []api.Node) []api.Node {
	nodes = slices.Clone(nodes)
	for i, n := range nodes {
		if n.Kind != api.KindDir {
			continue
		}
		nodes[i].Links += 2
		for _, k := range n.Kids {
			if nodes[k.Ino].Kind == api.KindDir {
				nodes[i].Links++
				nodes[k.Ino].Parent = i
			} else {
				nodes[k.Ino].Links++
			}
		}
	}
	return nodes
}

// Each tree and each that is none, of three nodes with two kids at most.
func TestListEachOfThree(t *testing.T) {
	var choices []api.Node
	for _, kids := range kidLists(3) {
		choices = append(choices, api.Node{Kind: api.KindDir, Kids: kids}, api.Node{Kind: api.KindFile, Kids: kids})
	}
	trees := map[string]int{}
	for _, a := range choices {
		for _, b := range choices {
			for _, c := range choices {
				if a.Kind == api.KindFile && len(a.Kids) > 0 || len(b.Kids) == 2 && len(c.Kids) == 2 {
					continue // enough of these
				}
				x := api.Tree{Nodes: counted([]api.Node{a, b, c})}
				if sound(t, x) {
					trees[told(x)]++
				}
			}
		}
	}
	want := eachOfThree(t)
	if len(trees) != len(want) {
		t.Errorf("%d trees, not %d", len(trees), len(want))
	}
	for x := range want {
		if trees[x] == 0 {
			t.Errorf("not taken: %s", x)
		}
	}
}

// eachOfThree is the trees of three nodes that lists make, of files and folders by the names a and b, with a root of no mode.
func eachOfThree(t *testing.T) map[string]int {
	t.Helper()
	paths := []string{"a", "b", "a/a", "a/b", "b/a", "b/b", "a/a/a", "a/a/b", "a/b/a", "a/b/b", "b/a/a", "b/a/b", "b/b/a", "b/b/b"}
	found := map[string]int{}
	var grow func(l []api.Entry, from, nodes int)
	grow = func(l []api.Entry, from, nodes int) {
		if _, e := checkByHand(l); e == api.OK && nodes == 3 {
			found[told(canon(t, l))]++
		}
		for i := from; i < len(paths); i++ {
			if nodes < 3 {
				grow(append(slices.Clone(l), api.Entry{Path: paths[i], Kind: api.KindFile}), i+1, nodes+1)
				grow(append(slices.Clone(l), api.Entry{Path: paths[i], Kind: api.KindDir}), i+1, nodes+1)
			}
			for _, target := range paths {
				if len(l) < 6 && leads(l, target) {
					grow(append(slices.Clone(l), further(paths[i], target)), i+1, nodes)
				}
			}
		}
	}
	grow([]api.Entry{{Kind: api.KindDir}}, 0, 1)
	return found
}

// leads tells whether a file of the list has that path.
func leads(l []api.Entry, path string) bool {
	return slices.ContainsFunc(l, func(x api.Entry) bool { return x.Path == path && x.Kind == api.KindFile })
}

// Each Parent, Links and kid of two nodes.
func TestListEachOfTwo(t *testing.T) {
	var choices []api.Node
	for _, kids := range kidLists(4) { // of which 2 and 3 lead to -1 and nowhere
		kids = slices.Clone(kids)
		for i := range kids {
			if kids[i].Ino == 3 {
				kids[i].Ino = -1
			}
		}
		for parent := range 2 {
			for links := range 4 {
				choices = append(choices, api.Node{Kind: api.KindDir, Kids: kids, Parent: parent, Links: links})
				if len(kids) < 2 {
					choices = append(choices, api.Node{Kind: api.KindFile, Kids: kids, Parent: parent, Links: links})
				}
			}
		}
	}
	trees := 0
	for _, a := range choices {
		for _, b := range choices {
			if a.Parent == 1 && b.Parent == 1 || len(a.Kids) == 2 && len(b.Kids) == 2 {
				continue // enough of these
			}
			if sound(t, api.Tree{Nodes: []api.Node{a, b}}) {
				trees++
			}
		}
	}
	if trees != 5 { // a folder a or b, a file a or b, a file a and b
		t.Errorf("%d trees", trees)
	}
}

// What is made of a tree by a change at random.
func TestListSpoilt(t *testing.T) {
	d := thrown(1105)
	went := map[bool]int{}
	for range 30000 {
		x := canon(t, d.grown(12))
		for range 1 + d.Intn(2) {
			d.spoil(x.Nodes)
		}
		went[sound(t, x)]++
	}
	if went[true] < 1000 || went[false] < 1000 {
		t.Errorf("%v", went)
	}
}

// spoil changes something of some node.
func (d dice) spoil(nodes []api.Node) {
	n := &nodes[d.Intn(len(nodes))]
	numbers := []*int{&n.Kind, &n.Mode, &n.Uid, &n.Gid, &n.Time, &n.Size, &n.Dev, &n.Parent, &n.Links}
	for i := range n.Kids {
		numbers = append(numbers, &n.Kids[i].Ino, &n.Kids[i].Ino)
	}
	switch d.Intn(12) {
	case 0:
		n.Target = []string{"", "a", "\x00"}[d.Intn(3)]
	case 1:
		n.Data = append(slices.Clone(n.Data), byte(d.Intn(2)))
	case 2:
		n.Data = nil
	case 3:
		n.Attrs = d.attrs(3)
	case 4:
		n.Kids = append(slices.Clone(n.Kids), api.Kid{Name: "zz", Ino: d.Intn(len(nodes))})
	case 5:
		n.Kids = n.Kids[:d.Intn(len(n.Kids)+1)]
	case 6:
		if len(n.Kids) > 0 {
			n.Kids[d.Intn(len(n.Kids))].Name = []string{"", "a", "b", "a/a", "..", "\xff\xff", "aa"}[d.Intn(7)]
		}
	default:
		*numbers[d.Intn(len(numbers))] = []int{-1, 0, 1, 2, 3, 4, 5, 6, 7, 4095, 4096, 1 << 32, 1 << 40}[d.Intn(13)]
	}
}

// P11.3: Same

func TestSame(t *testing.T) {
	full := func() api.Tree {
		return api.Tree{Nodes: []api.Node{{}, {
			Kind: 1, Mode: 2, Uid: 3, Gid: 4, Time: 5, Size: 6, Data: []byte{7, 8}, Target: "t", Dev: 9,
			Attrs:  []api.Attr{{Name: "a", Value: []byte{1}}, {Name: "b"}},
			Kids:   []api.Kid{{Name: "k", Ino: 1}, {Name: "l", Ino: -2}},
			Parent: 10, Links: 11,
		}}}
	}
	if !tree.Same(full(), full()) {
		t.Error("not the same as itself")
	}
	for what, do := range map[string]func(n *api.Node){
		"Kind":              func(n *api.Node) { n.Kind++ },
		"Mode":              func(n *api.Node) { n.Mode++ },
		"Uid":               func(n *api.Node) { n.Uid++ },
		"Gid":               func(n *api.Node) { n.Gid++ },
		"Time":              func(n *api.Node) { n.Time++ },
		"Size":              func(n *api.Node) { n.Size++ },
		"Data":              func(n *api.Node) { n.Data[1]++ },
		"longer Data":       func(n *api.Node) { n.Data = append(n.Data, 0) },
		"no Data":           func(n *api.Node) { n.Data = nil },
		"Target":            func(n *api.Node) { n.Target = "u" },
		"Dev":               func(n *api.Node) { n.Dev++ },
		"attribute's Name":  func(n *api.Node) { n.Attrs[0].Name = "c" },
		"attribute's Value": func(n *api.Node) { n.Attrs[0].Value[0]++ },
		"a value more":      func(n *api.Node) { n.Attrs[1].Value = []byte{0} },
		"attributes' order": func(n *api.Node) { slices.Reverse(n.Attrs) },
		"no attributes":     func(n *api.Node) { n.Attrs = nil },
		"kid's Name":        func(n *api.Node) { n.Kids[1].Name = "m" },
		"kid's Ino":         func(n *api.Node) { n.Kids[0].Ino++ },
		"kids' order":       func(n *api.Node) { slices.Reverse(n.Kids) },
		"a kid less":        func(n *api.Node) { n.Kids = n.Kids[:1] },
		"Parent":            func(n *api.Node) { n.Parent++ },
		"Links":             func(n *api.Node) { n.Links++ },
	} {
		x := full()
		do(&x.Nodes[1])
		if tree.Same(x, full()) || tree.Same(full(), x) || !tree.Same(x, x) {
			t.Errorf("another %s", what)
		}
	}
	x := full()
	x.Nodes = x.Nodes[:1]
	if tree.Same(x, full()) || tree.Same(full(), x) || tree.Same(api.Tree{}, x) || tree.Same(x, api.Tree{}) {
		t.Error("a node less")
	}
	if y := full(); tree.Same(api.Tree{Nodes: []api.Node{y.Nodes[1], y.Nodes[0]}}, y) {
		t.Error("nodes in another order")
	}
}

func TestSameNilAndEmpty(t *testing.T) {
	a := api.Tree{Nodes: []api.Node{{Attrs: []api.Attr{{Name: "a"}}}}}
	b := api.Tree{Nodes: []api.Node{{Data: []byte{}, Attrs: []api.Attr{{Name: "a", Value: []byte{}}}, Kids: []api.Kid{}}}}
	if !tree.Same(a, b) || !tree.Same(b, a) {
		t.Error("nil and empty lists are not alike")
	}
	b.Nodes[0].Attrs = []api.Attr{}
	a.Nodes[0].Attrs = nil
	if !tree.Same(a, b) || !tree.Same(b, a) || !tree.Same(api.Tree{}, api.Tree{Nodes: []api.Node{}}) {
		t.Error("nil and empty lists are not alike")
	}
	x := canon(t, []api.Entry{file("a"), folder("b")})
	for i := range x.Nodes {
		n := &x.Nodes[i]
		n.Data, n.Attrs, n.Kids = append([]byte{}, n.Data...), append([]api.Attr{}, n.Attrs...), append([]api.Kid{}, n.Kids...)
	}
	if got := told(list(t, x)); got != told([]api.Entry{folder(""), file("a"), folder("b")}) {
		t.Error(got)
	}
}
