package model_test

import (
	"fmt"
	"math"
	"reflect"
	"slices"
	"strings"
	"testing"

	"portmanteau/api"
	"portmanteau/model"
	"portmanteau/tree"
)

// Rules that hold everywhere: memory, ends, from arguments alone

// whole is a text of all that a model tells.
func whole(m *model.Model, nodes int) string {
	var s strings.Builder
	for ino := range nodes {
		stat, e := m.Stat(ino)
		kids, next, e1 := m.Readdir(ino, 0, math.MaxInt)
		target, e2 := m.Readlink(ino)
		b, e3 := m.Read(ino, 0, 100)
		names, e4 := m.Names(ino)
		fmt.Fprintln(&s, stat, kids, next, target, b, names, e, e1, e2, e3, e4)
		for _, name := range names {
			v, e := m.Attr(ino, name)
			fmt.Fprintln(&s, v, e)
		}
		for _, k := range kids {
			to, e := m.Lookup(ino, k.Name)
			in, e1 := m.Walk(ino, k.Name+"/deep", true)
			fmt.Fprintln(&s, to, e, in, e1)
		}
	}
	return s.String()
}

// spoil writes over a list, its spare room too.
func spoil[T any](l []T, with T) {
	l = l[:cap(l)]
	for i := range l {
		l[i] = with
	}
}

func TestAnswersThatAreWrittenOver(t *testing.T) {
	m := zooModel(t)
	was := whole(m, count)
	for ino := range count {
		for n := range 12 {
			kids, _, _ := m.Readdir(ino, n%3, n)
			spoil(kids, api.Kid{Name: "spoilt", Ino: 1})
			b, _ := m.Read(ino, n%4, n)
			spoil(b, 'X')
		}
		names, _ := m.Names(ino)
		kept := slices.Clone(names)
		spoil(names, "spoilt")
		for _, name := range kept {
			v, _ := m.Attr(ino, name)
			spoil(v, 'X')
		}
	}
	if whole(m, count) != was {
		t.Error("an answer that was written over changed a later one")
	}
}

func TestAnswersAreNotOneAnother(t *testing.T) {
	m := zooModel(t)
	kids, _, _ := m.Readdir(root, 0, 9)
	b, _ := m.Read(exe, 0, 9)
	names, _ := m.Names(exe)
	v, _ := m.Attr(exe, "user.k")
	was := fmt.Sprint(kids, b, names, v)
	kids2, _, _ := m.Readdir(root, 0, 9)
	b2, _ := m.Read(exe, 0, 9)
	names2, _ := m.Names(exe)
	v2, _ := m.Attr(exe, "user.k")
	spoil(kids2, api.Kid{})
	spoil(b2, 'X')
	spoil(names2, "spoilt")
	spoil(v2, 'X')
	if fmt.Sprint(kids, b, names, v) != was {
		t.Error("an answer that was written over changed another one")
	}
}

// rank is a tree with spare room in all its lists.
func rank(x api.Tree) api.Tree {
	nodes := slices.Grow(slices.Clone(x.Nodes), 3)
	for i := range nodes {
		n := &nodes[i]
		n.Data = append(slices.Clone(n.Data), 7, 8)[:len(n.Data)]
		n.Kids = append(slices.Clone(n.Kids), api.Kid{Name: "room", Ino: 1})[:len(n.Kids)]
		n.Attrs = append(slices.Clone(n.Attrs), api.Attr{Name: "room"})[:len(n.Attrs)]
		for j := range n.Attrs {
			v := n.Attrs[j].Value
			n.Attrs[j].Value = append(slices.Clone(v), 9)[:len(v)]
		}
	}
	return api.Tree{Nodes: nodes}
}

// room is a text of a tree, the spare room of its lists too.
func room(x api.Tree) string {
	var s strings.Builder
	for _, n := range x.Nodes[:cap(x.Nodes)] {
		fmt.Fprintln(&s, n, n.Data[:cap(n.Data)], n.Kids[:cap(n.Kids)], n.Attrs[:cap(n.Attrs)])
		for _, a := range n.Attrs {
			fmt.Fprintln(&s, a.Value[:cap(a.Value)])
		}
	}
	return s.String()
}

func TestATreeThatIsWrittenOverBehindNew(t *testing.T) {
	x := rank(planted(t, zoo()...))
	m, e := model.New(x)
	if e != api.OK {
		t.Fatal(e)
	}
	was := whole(m, count)
	for _, n := range x.Nodes {
		for _, a := range n.Attrs {
			spoil(a.Value, 'X')
		}
		spoil(n.Attrs, api.Attr{Name: "spoilt"})
		spoil(n.Data, 'X')
		spoil(n.Kids, api.Kid{Name: "spoilt", Ino: -1})
	}
	spoil(x.Nodes, api.Node{})
	if whole(m, count) != was {
		t.Error("the model hangs on the tree's memory")
	}
}

func TestATreeThatIsHandedInStays(t *testing.T) {
	x := rank(planted(t, zoo()...))
	was := room(x)
	m, e := model.New(x)
	if e != api.OK {
		t.Fatal(e)
	}
	whole(m, count)
	if room(x) != was {
		t.Error("it was changed")
	}
	x.Nodes[exe].Links++
	was = room(x)
	if _, e := model.New(x); e != api.ErrArg || room(x) != was {
		t.Error("it was changed, or taken", e)
	}
}

func TestModelsOfOneTreeTellTheSame(t *testing.T) {
	x := planted(t, zoo()...)
	a, _ := model.New(x)
	for ino := -2; ino < 20; ino++ { // calls of all kinds, errors too, which are to change nothing
		all(a, ino)
		a.Walk(ino, "rel/no", true)
		a.Walk(ino, "jump/deep", false)
	}
	b, _ := model.New(x)
	if whole(a, count) != whole(b, count) || whole(a, count) != whole(a, count) {
		t.Error("what is told hangs on more than the tree")
	}
}

// A tree with empty lists where another one has none tells the same.
func TestNilAndEmptyListsAreAlike(t *testing.T) {
	x := planted(t, zoo()...)
	a, _ := model.New(x)
	for i := range x.Nodes {
		n := &x.Nodes[i]
		if len(n.Data) == 0 {
			n.Data = []byte{}
		}
		if len(n.Kids) == 0 {
			n.Kids = []api.Kid{}
		}
		if len(n.Attrs) == 0 {
			n.Attrs = []api.Attr{}
		}
		for j := range n.Attrs {
			if len(n.Attrs[j].Value) == 0 {
				n.Attrs[j].Value = []byte{}
			}
		}
	}
	b, e := model.New(x)
	if e != api.OK || whole(a, count) != whole(b, count) {
		t.Error(e)
	}
}

// A tree with as many names as may be.
func TestTheLargestTree(t *testing.T) {
	var l []api.Entry
	for i := range api.MaxEntries - 1 {
		l = append(l, link(fmt.Sprintf("l%05d", i), fmt.Sprintf("l%05d", i-1)))
	}
	for _, last := range []api.Entry{folder(""), folder("z")} {
		x := planted(t, append(slices.Clone(l), last)...)
		m, e := model.New(x)
		if e != api.OK {
			t.Fatal(e)
		}
		if list, next, e := m.Readdir(0, 0, math.MaxInt); len(list) != len(x.Nodes)-1 || next != len(list) || e != api.OK {
			t.Error(len(list), next, e)
		}
		for _, i := range []int{0, 1, 9999, api.MaxEntries - 2} {
			if ino, e := m.Lookup(0, fmt.Sprintf("l%05d", i)); ino != i+1 || e != api.OK {
				t.Error(ino, e)
			}
		}
		walks(t, m, []walk{{0, "l00039", true, 0, api.ErrNone}, {0, "l00040", true, 0, api.ErrLoop}, {0, "l16382", true, 0, api.ErrLoop}, {0, "l16382", false, 16383, 0}})
		if again, e := tree.List(x); e != api.OK || len(again) != api.MaxEntries {
			t.Error(len(again), e)
		}
	}
}

// Whatever is handed in, a call ends, and beside an error all else is zero.
func FuzzCalls(f *testing.F) {
	x, _ := tree.Canon(zoo())
	m, e := model.New(x)
	if e != api.OK {
		f.Fatal(e)
	}
	var none *model.Model
	f.Add(0, 0, 0, "", true)
	f.Add(1, -1, 1<<20, "rel/a/deep", false)
	f.Add(4, 1<<62, -1, "/jump/../exe/x", true)
	f.Fuzz(func(t *testing.T, ino, a, b int, text string, on bool) {
		zero := func(call string, e api.Errno, l ...any) {
			for _, v := range l {
				if r := reflect.ValueOf(v); e != api.OK && !r.IsZero() {
					t.Errorf("%s: %v beside %d", call, v, e)
				}
			}
		}
		for _, m := range []*model.Model{m, none} {
			to, e := m.Lookup(ino, text)
			zero("Lookup", e, to)
			s, e := m.Stat(ino)
			zero("Stat", e, s)
			kids, next, e := m.Readdir(ino, a, b)
			zero("Readdir", e, kids, next)
			target, e := m.Readlink(ino)
			zero("Readlink", e, target)
			bytes, e := m.Read(ino, a, b)
			zero("Read", e, bytes)
			names, e := m.Names(ino)
			zero("Names", e, names)
			v, e := m.Attr(ino, text)
			zero("Attr", e, v)
			to, e = m.Walk(ino, text, on)
			zero("Walk", e, to)
		}
	})
}
