package tree

import (
	"bytes"
	"strings"

	"portmanteau/api"
	"portmanteau/name"
)

// List tells the entries of a tree in the one way.
func List(t api.Tree) ([]api.Entry, api.Errno) {
	l, e := listing(t)
	if e != api.OK {
		return nil, e
	}
	for i := range l {
		x := &l[i]
		x.Path, x.Target = strings.Clone(x.Path), strings.Clone(x.Target)
		x.Data, x.Attrs = bytes.Clone(x.Data), copied(x.Attrs)
	}
	return l, api.OK
}

// listing is what List tells, but its texts and lists are those of t still.
func listing(t api.Tree) (l []api.Entry, e api.Errno) {
	defer func() {
		if recover() != nil {
			l, e = nil, api.ErrArg
		}
	}()
	w := walker{nodes: t.Nodes, met: map[int]int{}}
	w.meet(0, "")
	l = w.list
	if len(l) > api.MaxEntries {
		l = l[1:] // no list that is a tree has so many: what makes this one, if anything does, has no entry of the root
	}
	if made, e := Canon(l); e != api.OK || !Same(made, t) {
		noTree()
	}
	return l, api.OK
}

// noTree gives up, from wherever a tree turns out to be none.
func noTree() {
	panic(api.ErrArg)
}

// walker goes along the names of what may be a tree, and lists what it meets.
type walker struct {
	nodes []api.Node
	met   map[int]int // of each node that was met, where it is listed first
	list  []api.Entry
}

// meet lists a node by one of its names, and all that is in it. Whatever the nodes are, it comes to an end: no folder is entered twice.
func (w *walker) meet(ino int, path string) {
	if ino < 0 || ino >= len(w.nodes) || len(path) > api.MaxPath || len(w.list) > api.MaxEntries {
		noTree()
	}
	n := w.nodes[ino]
	if first, again := w.met[ino]; again {
		if n.Kind == api.KindDir { // it has a second name, or is in itself
			noTree()
		}
		w.list = append(w.list, api.Entry{Path: path, Kind: api.KindHard, Target: w.list[first].Path})
		return
	}
	w.met[ino] = len(w.list)
	w.list = append(w.list, entry(n, path))
	if n.Kind == api.KindDir {
		w.enter(n, path)
	}
}

// enter meets what is in a folder.
func (w *walker) enter(folder api.Node, path string) {
	ahead := ""
	if path != "" {
		ahead = path + "/"
	}
	for _, kid := range folder.Kids {
		if !name.Valid(kid.Name) {
			noTree()
		}
		w.meet(kid.Ino, ahead+kid.Name)
	}
}

// entry is that of a node at a path.
func entry(n api.Node, path string) api.Entry {
	return api.Entry{
		Path: path, Kind: n.Kind, Mode: n.Mode, Uid: n.Uid, Gid: n.Gid, Time: n.Time,
		Size: n.Size, Data: n.Data, Target: n.Target, Dev: n.Dev, Attrs: n.Attrs,
	}
}
