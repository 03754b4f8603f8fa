package tree_test

import (
	"reflect"
	"slices"
	"testing"
	"unsafe"

	"portmanteau/api"
	"portmanteau/tree"
)

// Rules that hold everywhere: memory

// span is where a list or a text lies, its spare room included.
type span struct {
	from, to uintptr
	list     bool
}

// spans is all memory that a value leads to.
func spans(v reflect.Value) []span {
	var l []span
	switch v.Kind() {
	case reflect.Slice:
		l = append(l, span{v.Pointer(), v.Pointer() + uintptr(v.Cap())*v.Type().Elem().Size(), true})
		for i := range v.Len() {
			l = append(l, spans(v.Index(i))...)
		}
	case reflect.String:
		from := uintptr(unsafe.Pointer(unsafe.StringData(v.String())))
		l = append(l, span{from, from + uintptr(v.Len()), false})
	case reflect.Struct:
		for i := range v.NumField() {
			l = append(l, spans(v.Field(i))...)
		}
	}
	return slices.DeleteFunc(l, func(s span) bool { return s.from == s.to })
}

// apart holds that no list of an answer shares memory with another one of it, and nothing of it with something else.
func apart(t *testing.T, what string, answer any, others ...any) {
	t.Helper()
	own := spans(reflect.ValueOf(answer))
	for i, a := range own {
		for _, b := range own[:i] {
			if a.list && b.list && a.from < b.to && b.from < a.to {
				t.Errorf("%s: two of its lists share memory", what)
			}
		}
	}
	for _, other := range others {
		for _, b := range spans(reflect.ValueOf(other)) {
			for _, a := range own {
				if a.from < b.to && b.from < a.to {
					t.Errorf("%s: it shares memory with something else", what)
				}
			}
		}
	}
}

// roomy is a list with spare room everywhere, and a text of all that it leads to, the spare room included.
func roomy(l []api.Entry) ([]api.Entry, func() string) {
	l = append(slices.Clone(l), slices.Repeat([]api.Entry{file("room", 9)}, 5)...)[:len(l)]
	for i := range l {
		x := &l[i]
		x.Data = append(slices.Clone(x.Data), 1, 2, 3)[:len(x.Data)]
		x.Attrs = append(slices.Clone(x.Attrs), attrs(3)...)[:len(x.Attrs)]
		for j := range x.Attrs {
			v := x.Attrs[j].Value
			x.Attrs[j].Value = append(slices.Clone(v), 4, 5)[:len(v)]
		}
	}
	return l, func() string {
		s := told(l[:cap(l)])
		for _, x := range l {
			s += told(x.Data[:cap(x.Data)]) + told(x.Attrs[:cap(x.Attrs)])
			for _, a := range x.Attrs {
				s += told(a.Value[:cap(a.Value)])
			}
		}
		return s
	}
}

// somes are lists that are trees.
func somes() [][]api.Entry {
	d := thrown(1106)
	l := [][]api.Entry{nil, {folder("")}, mixed()}
	for range 60 {
		l = append(l, d.grown(15))
	}
	return l
}

func TestListsHandedInStay(t *testing.T) {
	for _, l := range append(somes(), []api.Entry{file("a"), {}}, []api.Entry{file("b", 1, 0, 0), file("a/"), link("", "")}) {
		l, text := roomy(l)
		was := text()
		tree.Check(l)
		tree.Canon(l)
		if text() != was {
			t.Errorf("it was changed: %s", short(l))
		}
	}
}

func TestTreesHandedInStay(t *testing.T) {
	for _, l := range somes() {
		x := canon(t, l)
		for i := range x.Nodes {
			n := &x.Nodes[i]
			n.Data = append(n.Data, 0, 7)[:len(n.Data)]
			n.Attrs = append(n.Attrs, attrs(2)...)[:len(n.Attrs)]
			n.Kids = append(n.Kids, api.Kid{Name: "room", Ino: 1})[:len(n.Kids)]
		}
		text := func() string {
			s := told(x)
			for _, n := range x.Nodes {
				s += told(n.Data[:cap(n.Data)]) + told(n.Attrs[:cap(n.Attrs)]) + told(n.Kids[:cap(n.Kids)])
			}
			return s
		}
		was := text()
		tree.List(x)
		tree.Same(x, x)
		x.Nodes[0].Links++
		tree.List(x)
		x.Nodes[0].Links--
		if text() != was {
			t.Errorf("it was changed: %s", short(x))
		}
	}
}

func TestAnswersAreNewMemory(t *testing.T) {
	for _, l := range somes() {
		l, _ = roomy(l)
		x, y := canon(t, l), canon(t, l)
		apart(t, "Canon", x, l, y)
		m, n := list(t, x), list(t, x)
		apart(t, "List", m, x, n, l)
	}
}

// What is told again is not changed by what was done to an earlier answer.
func TestAnswersStay(t *testing.T) {
	l := mixed()
	x := canon(t, l)
	was, m := told(x), list(t, x)
	wasList := told(m)
	for i := range m {
		m[i].Mode = 9
		for j := range m[i].Data {
			m[i].Data[j] = 9
		}
		for j := range m[i].Attrs {
			m[i].Attrs[j].Name = "w"
		}
	}
	if told(x) != was || told(list(t, x)) != wasList {
		t.Error("a tree was changed by its list")
	}
	for i := range x.Nodes {
		x.Nodes[i].Kids = append(x.Nodes[i].Kids[:0], api.Kid{Name: "w"})
		x.Nodes[i].Data = append(x.Nodes[i].Data[:0], 9, 9, 9)
	}
	if told(canon(t, l)) != was {
		t.Error("a list was changed by its tree")
	}
}
