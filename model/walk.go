package model

import (
	"portmanteau/api"
	"portmanteau/name"
)

// maxLeft is how many parts a walk may have before it: more than a path has, since each link adds its own.
const maxLeft = 4 * api.MaxDepth

// Walk tells where a path leads to, through links; through one that is its last part, if it is to follow.
func (m *Model) Walk(from int, path string, follow bool) (ino int, e api.Errno) {
	defer func() {
		if r := recover(); r != nil {
			ino, e = 0, reason(r)
		}
	}()
	_, e = m.node(from)
	need(e)
	w := walker{m: m, at: from}
	w.turn(path)
	for len(w.left) > 0 {
		w.step(follow)
	}
	return w.at, api.OK
}

// need breaks a walk off, from wherever it is, if there is an error.
func need(e api.Errno) {
	if e != api.OK {
		panic(e)
	}
}

// reason is the error that a walk was broken off with.
func reason(r any) api.Errno {
	e, _ := r.(api.Errno)
	return e
}

// walker is a walk on its way.
type walker struct {
	m     *Model
	at    int      // the node that it has come to
	left  []string // the parts that it has before it
	links int      // how many it has gone through
}

// turn takes a path from here on, or from the root on, ahead of what is left.
func (w *walker) turn(path string) {
	if name.Absolute(path) {
		w.at = 0
	}
	_, e := w.m.ofKind(w.at, api.KindDir)
	need(e)
	parts, e := name.Split(path)
	need(e)
	if len(parts)+len(w.left) > maxLeft {
		need(api.ErrMany)
	}
	w.left = append(parts, w.left...)
}

// step goes on by one part.
func (w *walker) step(follow bool) {
	ino, e := w.m.Lookup(w.at, w.left[0])
	need(e)
	w.left = w.left[1:]
	n, e := w.m.node(ino)
	need(e)
	if n.Kind == api.KindLink && (follow || len(w.left) > 0) {
		w.through(n.Target)
		return
	}
	w.at = ino
}

// through goes on where a link leads. The walk is at the folder that the link is in still.
func (w *walker) through(target string) {
	w.links++
	if w.links > api.MaxLinks {
		need(api.ErrLoop)
	}
	w.turn(target)
}
