package model_test

import (
	"bytes"
	"fmt"
	"math"
	"math/rand"
	"slices"
	"strings"
	"testing"

	"portmanteau/api"
	"portmanteau/model"
	"portmanteau/name"
	"portmanteau/tree"
)

// What the chapter says of a tree, by another hand than the program's: slowly, on its entries and their paths instead of its nodes.

// hand is the entries of a tree, as tree.List lists them.
type hand struct{ list []api.Entry }

func handOf(t *testing.T, x api.Tree) hand {
	t.Helper()
	l, e := tree.List(x)
	if e != api.OK {
		t.Fatal(e)
	}
	return hand{l}
}

// entry is that at a path, of which there must be one. A further name is that of whose it is.
func (h hand) entry(path string) api.Entry {
	for _, x := range h.list {
		switch {
		case x.Path == path && x.Kind == api.KindHard:
			return h.entry(x.Target)
		case x.Path == path:
			return x
		}
	}
	panic("no entry at " + path)
}

func (h hand) there(path string) bool {
	return slices.ContainsFunc(h.list, func(x api.Entry) bool { return x.Path == path })
}

// nodes is the entries that are no further names: their places are their numbers, since each is listed at its first name.
func (h hand) nodes() []api.Entry {
	return slices.DeleteFunc(slices.Clone(h.list), func(x api.Entry) bool { return x.Kind == api.KindHard })
}

// number is that of what is at a path.
func (h hand) number(path string) int {
	own := h.entry(path).Path
	return slices.IndexFunc(h.nodes(), func(x api.Entry) bool { return x.Path == own })
}

// under is the path of a name in a folder.
func under(folder, name string) string {
	return strings.TrimPrefix(folder+"/"+name, "/")
}

// over is what a path is in; of the root the root.
func over(path string) string {
	return path[:max(strings.LastIndexByte(path, '/'), 0)]
}

// kids is the names in a folder.
func (h hand) kids(folder string) []api.Kid {
	var l []api.Kid
	for _, x := range h.list {
		if x.Path != "" && over(x.Path) == folder {
			l = append(l, api.Kid{Name: strings.TrimPrefix(x.Path[len(folder):], "/"), Ino: h.number(x.Path)})
		}
	}
	return l
}

func (h hand) stat(ino int) api.Stat {
	x := h.nodes()[ino]
	s := api.Stat{Ino: ino, Kind: x.Kind, Mode: x.Mode, Uid: x.Uid, Gid: x.Gid, Time: x.Time}
	for _, y := range h.list {
		if x.Kind != api.KindDir && h.number(y.Path) == ino {
			s.Links++
		}
	}
	switch x.Kind {
	case api.KindFile:
		s.Size = x.Size
	case api.KindDir:
		s.Size, s.Links = len(h.kids(x.Path)), 2
		for _, k := range h.kids(x.Path) {
			if h.nodes()[k.Ino].Kind == api.KindDir {
				s.Links++
			}
		}
	case api.KindLink:
		s.Size = len(x.Target)
	default:
		s.Dev = x.Dev
	}
	return s
}

func (h hand) lookup(dir int, s string) (int, api.Errno) {
	x := h.nodes()[dir]
	switch {
	case x.Kind != api.KindDir:
		return 0, api.ErrKind
	case s == ".":
		return dir, api.OK
	case s == "..":
		return h.number(over(x.Path)), api.OK
	case !name.Valid(s):
		return 0, api.ErrForm
	case !h.there(under(x.Path, s)):
		return 0, api.ErrNone
	}
	return h.number(under(x.Path, s)), api.OK
}

func (h hand) readdir(ino, cursor, n int) ([]api.Kid, int, api.Errno) {
	x := h.nodes()[ino]
	if x.Kind != api.KindDir {
		return nil, 0, api.ErrKind
	}
	if cursor < 0 || n < 0 {
		return nil, 0, api.ErrArg
	}
	var l []api.Kid
	for i, k := range h.kids(x.Path) {
		if i >= cursor && len(l) < n {
			l = append(l, k)
		}
	}
	return l, cursor + len(l), api.OK
}

func (h hand) read(ino, off, n int) ([]byte, api.Errno) {
	x := h.nodes()[ino]
	switch {
	case x.Kind != api.KindFile:
		return nil, api.ErrKind
	case off < 0 || n < 0:
		return nil, api.ErrArg
	case n > 1048576:
		return nil, api.ErrLong
	}
	var b []byte
	for i := off; i < x.Size && len(b) < n; i++ {
		if i < len(x.Data) {
			b = append(b, x.Data[i])
		} else {
			b = append(b, 0)
		}
	}
	return b, api.OK
}

func (h hand) walk(from int, path string, follow bool) (int, api.Errno) {
	x := h.nodes()[from]
	if !strings.HasPrefix(path, "/") && x.Kind != api.KindDir {
		return 0, api.ErrKind
	}
	todo, e := name.Split(path)
	if e != api.OK {
		return 0, e
	}
	here := x.Path
	if strings.HasPrefix(path, "/") {
		here = ""
	}
	return h.along(here, todo, follow, 0)
}

// along is where parts lead to from a path on, some links gone through. Paths of folders have no other names, so that the path tells what each is in.
func (h hand) along(here string, todo []string, follow bool, links int) (int, api.Errno) {
	if len(todo) == 0 {
		return h.number(here), api.OK
	}
	if h.entry(here).Kind != api.KindDir {
		return 0, api.ErrKind
	}
	part, rest := todo[0], todo[1:]
	if part == ".." {
		return h.along(over(here), rest, follow, links)
	}
	next := under(here, part)
	if !h.there(next) {
		return 0, api.ErrNone
	}
	x := h.entry(next)
	if x.Kind != api.KindLink || len(rest) == 0 && !follow {
		return h.along(next, rest, follow, links)
	}
	if links == 40 {
		return 0, api.ErrLoop
	}
	more, e := name.Split(x.Target)
	if e != api.OK {
		return 0, e
	}
	if len(more)+len(rest) > 256 {
		return 0, api.ErrMany
	}
	if strings.HasPrefix(x.Target, "/") {
		here = ""
	}
	return h.along(here, slices.Concat(more, rest), follow, links+1)
}

// dice throws trees, and arguments of calls.
type dice struct{ *rand.Rand }

func thrown(seed int64) dice { return dice{rand.New(rand.NewSource(seed))} }

func (d dice) pick(l ...string) string { return l[d.Intn(len(l))] }

// path is some parts, of which few are no names of a tree.
func (d dice) path() string {
	s := d.pick("", "", "", "/", "//")
	for range d.Intn(6) {
		s += d.pick("a", "a", "b", "b", "c", "c", "d", "d", "..", "..", ".", "", "none")
		s += d.pick("/", "/", "/", "//")
	}
	if d.Intn(2) == 0 {
		s = strings.TrimRight(s, "/")
	}
	return s
}

// grown is a tree of up to n entries, many of them links.
func (d dice) grown(n int) []api.Entry {
	l := []api.Entry{{Path: "", Kind: api.KindDir, Mode: d.Intn(4096)}}
	folders := []string{""}
	var others []string
	for range n {
		path := under(d.pick(folders...), d.pick("a", "b", "c", "d"))
		if slices.ContainsFunc(l, func(x api.Entry) bool { return x.Path == path }) {
			continue
		}
		x := api.Entry{Path: path, Kind: d.kind(), Mode: d.Intn(4096), Uid: d.Intn(9), Gid: d.Intn(9), Time: d.Intn(9)}
		if x.Kind == api.KindHard && len(others) == 0 {
			x.Kind = api.KindFile
		}
		switch x.Kind {
		case api.KindDir:
			folders = append(folders, path)
		case api.KindHard:
			x.Target = d.pick(others...)
		default:
			others = append(others, path)
		}
		d.fill(&x)
		l = append(l, x)
	}
	d.Shuffle(len(l), func(i, j int) { l[i], l[j] = l[j], l[i] })
	return l
}

func (d dice) kind() int {
	return []int{api.KindFile, api.KindDir, api.KindDir, api.KindDir, api.KindLink, api.KindLink, api.KindLink, api.KindBlock, api.KindChar, api.KindHard}[d.Intn(10)]
}

// fill gives an entry what its kind asks for.
func (d dice) fill(x *api.Entry) {
	switch x.Kind {
	case api.KindFile:
		x.Data = make([]byte, d.Intn(6))
		for i := range x.Data {
			x.Data[i] = byte(d.Intn(3))
		}
		x.Size = len(x.Data) + d.Intn(4)
	case api.KindLink:
		x.Target = d.path()
		if x.Target == "" {
			x.Target = "."
		}
	case api.KindBlock, api.KindChar:
		x.Dev = d.Intn(9)
	case api.KindHard:
		return
	}
	for _, s := range []string{"p", "q", "r"} {
		if d.Intn(4) == 0 {
			x.Attrs = append(x.Attrs, api.Attr{Name: s, Value: []byte(d.pick("", "v", "w"))})
		}
	}
}

// alike holds two texts of what was told against one another.
func alike(t *testing.T, l []api.Entry, what string, got, want []any) {
	t.Helper()
	if a, b := fmt.Sprint(got...), fmt.Sprint(want...); a != b {
		t.Errorf("%s: %s, not %s, of %+v", what, a, b, l)
	}
}

func TestAgainstAnotherHand(t *testing.T) {
	d := thrown(1201)
	for range 300 {
		l := d.grown(25)
		x := planted(t, l...)
		m, e := model.New(x)
		if e != api.OK {
			t.Fatal(e)
		}
		h := handOf(t, x)
		for ino := range x.Nodes {
			against(t, d, m, h, ino)
		}
	}
}

// against holds what is told of a node against what the other hand tells.
func against(t *testing.T, d dice, m *model.Model, h hand, ino int) {
	t.Helper()
	x := h.nodes()[ino]
	s, e := m.Stat(ino)
	alike(t, h.list, "Stat", []any{s, e}, []any{h.stat(ino), api.OK})
	for _, name := range []string{"a", "b", "c", "d", "none", ".", "..", "", "a/", "\x00"} {
		to, e := m.Lookup(ino, name)
		want, we := h.lookup(ino, name)
		alike(t, h.list, "Lookup "+name, []any{to, e}, []any{want, we})
	}
	for cursor := -1; cursor < 6; cursor++ {
		for n := -1; n < 6; n++ {
			kids, next, e := m.Readdir(ino, cursor, n)
			want, wnext, we := h.readdir(ino, cursor, n)
			alike(t, h.list, "Readdir", []any{kids, next, e}, []any{want, wnext, we})
		}
	}
	target, e := m.Readlink(ino)
	if x.Kind == api.KindLink {
		alike(t, h.list, "Readlink", []any{target, e}, []any{x.Target, api.OK})
	} else {
		alike(t, h.list, "Readlink", []any{target, e}, []any{"", api.ErrKind})
	}
	for off := -1; off < 10; off++ {
		for n := -1; n < 10; n++ {
			b, e := m.Read(ino, off, n)
			want, we := h.read(ino, off, n)
			alike(t, h.list, "Read", []any{b, e}, []any{want, we})
		}
	}
	attrsAgainst(t, m, h, ino)
	for range 30 {
		path, follow := d.path(), d.Intn(2) == 0
		to, e := m.Walk(ino, path, follow)
		want, we := h.walk(ino, path, follow)
		alike(t, h.list, fmt.Sprint("Walk ", ino, " ", path, " ", follow), []any{to, e}, []any{want, we})
	}
}

func attrsAgainst(t *testing.T, m *model.Model, h hand, ino int) {
	t.Helper()
	var names []string
	for _, s := range []string{"", "p", "q", "r", "s"} {
		want, we := []byte(nil), api.ErrNone
		for _, a := range h.nodes()[ino].Attrs {
			if a.Name == s {
				want, we = a.Value, api.OK
				names = append(names, s)
			}
		}
		v, e := m.Attr(ino, s)
		alike(t, h.list, "Attr", []any{v, e}, []any{want, we})
	}
	l, e := m.Names(ino)
	alike(t, h.list, "Names", []any{l, e}, []any{names, api.OK})
}

// Links that lead through one another, so that walks come to the bounds of links and of parts.
func TestTanglesAgainstAnotherHand(t *testing.T) {
	d := thrown(1202)
	met := map[api.Errno]int{}
	for range 400 {
		l := []api.Entry{folder("d")}
		for _, s := range []string{"a", "b", "c", "d/a", "d/b"} {
			target := d.pick("", "/")
			for range 1 + d.Intn(d.pickOf(3, 20, 125, 130)) {
				target += d.pick("a", "b", "c", "..", "..", "..", "..", "..", ".", "d", "/d/..") + "/"
			}
			if d.Intn(20) == 0 {
				target += strings.Repeat("w", 250+d.Intn(10))
			}
			l = append(l, link(s, target))
		}
		x := planted(t, l...)
		m, _ := model.New(x)
		h := handOf(t, x)
		for range 20 {
			path, follow := strings.Repeat(d.path()+"/", 1+d.Intn(20)), d.Intn(2) == 0
			to, e := m.Walk(0, path, follow)
			want, we := h.walk(0, path, follow)
			alike(t, l, fmt.Sprint("Walk ", path, " ", follow), []any{to, e}, []any{want, we})
			met[e]++
		}
	}
	for _, e := range []api.Errno{api.OK, api.ErrArg, api.ErrMany, api.ErrNone, api.ErrLoop} {
		if met[e] < 20 {
			t.Errorf("the walks met %d only %d times", e, met[e])
		}
	}
}

func (d dice) pickOf(l ...int) int { return l[d.Intn(len(l))] }

// P12.5

func TestReadInPartsIsReadAtOnce(t *testing.T) {
	d := thrown(1203)
	for range 100 {
		data := make([]byte, d.Intn(40))
		d.Read(data)
		m := modelOf(t, file("f", string(data), len(data)+d.Intn(20)))
		s, _ := m.Stat(1)
		once, e := m.Read(1, 0, api.MaxRead)
		if e != api.OK || len(once) != s.Size || !bytes.HasPrefix(once, data) {
			t.Fatalf("%d bytes of %d, %d", len(once), s.Size, e)
		}
		for n := 1; n <= s.Size+2; n++ {
			var b []byte
			for range s.Size + 1 { // more than there are parts
				more, e := m.Read(1, len(b), n)
				if e != api.OK || len(more) > n {
					t.Fatalf("%d bytes of %d, %d", len(more), n, e)
				}
				b = append(b, more...)
			}
			if !bytes.Equal(b, once) {
				t.Errorf("%d by %d: %q, not %q", s.Size, n, b, once)
			}
		}
	}
}

func TestListedByCursorsIsListedAtOnce(t *testing.T) {
	for size := range 20 {
		var entries []api.Entry
		for i := range size {
			entries = append(entries, file(fmt.Sprint("f", i), "", 0))
		}
		m := modelOf(t, entries...)
		once, next, e := m.Readdir(0, 0, math.MaxInt)
		if e != api.OK || len(once) != size || next != size {
			t.Fatalf("%d names of %d, %d, %d", len(once), size, next, e)
		}
		for n := 1; n <= size+2; n++ {
			var l []api.Kid
			cursor := 0
			for range size + 1 { // more than there are parts
				more, next, e := m.Readdir(0, cursor, n)
				if e != api.OK || len(more) > n || next != cursor+len(more) {
					t.Fatalf("%d names of %d, %d behind %d, %d", len(more), n, next, cursor, e)
				}
				l, cursor = append(l, more...), next
			}
			if !slices.Equal(l, once) {
				t.Errorf("%d by %d: %v, not %v", size, n, l, once)
			}
		}
	}
}

func TestWhatIsListedIsLookedUp(t *testing.T) {
	d := thrown(1204)
	for range 100 {
		x := planted(t, d.grown(40)...)
		m, _ := model.New(x)
		met := map[int]int{}
		for ino, n := range x.Nodes {
			if n.Kind != api.KindDir {
				continue
			}
			l, _, e := m.Readdir(ino, 0, math.MaxInt)
			if s, _ := m.Stat(ino); e != api.OK || s.Size != len(l) || !slices.Equal(l, n.Kids) {
				t.Fatalf("%v, %d, not %v", l, e, n.Kids)
			}
			for _, k := range l {
				met[k.Ino]++
				if to, e := m.Lookup(ino, k.Name); to != k.Ino || e != api.OK {
					t.Errorf("%q is listed as %d, looked up as %d, %d", k.Name, k.Ino, to, e)
				}
				if to, e := m.Walk(ino, k.Name, false); to != k.Ino || e != api.OK {
					t.Errorf("%q is listed as %d, walked to as %d, %d", k.Name, k.Ino, to, e)
				}
				if s, _ := m.Stat(k.Ino); s.Kind != api.KindDir {
					continue
				}
				if to, e := m.Lookup(k.Ino, ".."); to != ino || e != api.OK {
					t.Errorf("what %q is in is %d, not %d, %d", k.Name, to, ino, e)
				}
			}
		}
		for ino := 1; ino < len(x.Nodes); ino++ {
			if s, _ := m.Stat(ino); met[ino] == 0 || s.Kind != api.KindDir && s.Links != met[ino] {
				t.Errorf("node %d has %d names, and %d are listed", ino, s.Links, met[ino])
			}
		}
	}
}
