package tree

import (
	"strings"

	"portmanteau/api"
	"portmanteau/name"
)

const (
	maxMode     = 0o7777
	maxAttrName = 255
)

// Check tells whether a list is a tree: if not, its first entry that has a fault, and which.
func Check(l []api.Entry) (at int, e api.Errno) {
	switch {
	case len(l) > api.MaxEntries:
		return 0, api.ErrMany
	case tooLong(l):
		return 0, api.ErrLong
	}
	where := places(l)
	for i, x := range l {
		if e := fault(x, i, where); e != api.OK {
			return i, e
		}
	}
	return 0, api.OK
}

// tooLong tells whether files have more bytes than an image.
func tooLong(l []api.Entry) bool {
	left := api.MaxImage
	for _, x := range l {
		if x.Kind != api.KindFile {
			continue
		}
		if len(x.Data) > left {
			return true
		}
		left -= len(x.Data)
	}
	return false
}

// place tells of the entries that have one path. In a tree that is one entry; else what others ask of it holds, if it holds of one of them.
type place struct {
	first  int  // where the first of them stands
	folder bool // things may be in it
	shared bool // further names may lead to it
}

// places leads from paths to what entries have them.
func places(l []api.Entry) map[string]place {
	where := make(map[string]place, len(l))
	for i, x := range l {
		p, there := where[x.Path]
		if !there {
			p.first = i
		}
		switch x.Kind {
		case api.KindDir:
			p.folder = true
		case api.KindFile, api.KindLink, api.KindBlock, api.KindChar:
			p.shared = true // these by name: a number that is no kind at all is not one of the others
		}
		where[x.Path] = p
	}
	return where
}

// fault tells what is wrong with an entry, the i-th one.
func fault(x api.Entry, i int, where map[string]place) api.Errno {
	if x.Kind < api.KindFile || x.Kind > api.KindHard {
		return api.ErrKind
	}
	depth, ok := parts(x.Path)
	folder, _ := cut(x.Path)
	switch {
	case !ok, x.Path == "" && x.Kind != api.KindDir:
		return api.ErrForm
	case depth > api.MaxDepth:
		return api.ErrMany
	case where[x.Path].first != i:
		return api.ErrTwice
	case depth > 1 && !where[folder].folder:
		return api.ErrNone
	case x.Kind == api.KindHard:
		return hardFault(x, where)
	case !fieldsFit(x) || !attrsFit(x.Attrs):
		return api.ErrArg
	case attrTwice(x.Attrs):
		return api.ErrTwice
	}
	return api.OK
}

// parts tells how many names make a path, and whether they make it just as it is written.
func parts(path string) (n int, ok bool) {
	l, e := name.Split(path)
	if e != api.OK {
		return 0, false
	}
	for _, s := range l {
		if !name.Valid(s) {
			return 0, false
		}
	}
	again, e := name.Join(l)
	return len(l), e == api.OK && again == path
}

// hardFault tells what is wrong with a further name, of which nothing but its target is asked.
func hardFault(x api.Entry, where map[string]place) api.Errno {
	if !where[x.Target].shared {
		return api.ErrNone
	}
	return api.OK
}

// fieldsFit tells whether the fields that are asked of an entry's kind may be so, but its attributes.
func fieldsFit(x api.Entry) bool {
	if !upTo(x.Mode, maxMode) || !upTo(x.Uid, api.MaxWord) || !upTo(x.Gid, api.MaxWord) || !upTo(x.Time, api.MaxWord) {
		return false
	}
	switch x.Kind {
	case api.KindFile:
		return x.Size >= len(x.Data) && x.Size < api.MaxFile
	case api.KindLink:
		return isText(x.Target, api.MaxPath)
	case api.KindBlock, api.KindChar:
		return upTo(x.Dev, api.MaxWord)
	}
	return true
}

// upTo tells whether n is from 0 to most.
func upTo(n, most int) bool {
	return n >= 0 && n <= most
}

// isText tells whether s has a byte, most at most, and no 0.
func isText(s string, most int) bool {
	return s != "" && len(s) <= most && strings.IndexByte(s, 0) < 0
}

// attrsFit tells whether there may be such attributes, each by itself.
func attrsFit(l []api.Attr) bool {
	if len(l) > api.MaxAttrs {
		return false
	}
	for _, a := range l {
		if !isText(a.Name, maxAttrName) || len(a.Value) > api.MaxValue {
			return false
		}
	}
	return true
}

// attrTwice tells whether two attributes have the same name.
func attrTwice(l []api.Attr) bool {
	names := make(map[string]struct{}, len(l))
	for _, a := range l {
		names[a.Name] = struct{}{}
	}
	return len(names) < len(l)
}
