package model_test

import (
	"fmt"
	"math"
	"strings"
	"testing"

	"portmanteau/api"
	"portmanteau/model"
)

// P12.4

// walk is a walk, and what it is to tell.
type walk struct {
	from   int
	path   string
	follow bool
	ino    int
	e      api.Errno
}

// walks holds that a model tells what each walk is to tell.
func walks(t *testing.T, m *model.Model, l []walk) {
	t.Helper()
	for _, w := range l {
		if ino, e := m.Walk(w.from, w.path, w.follow); ino != w.ino || e != w.e {
			t.Errorf("from %d along %.40q (%d bytes), follow %v: %d, %d, not %d, %d", w.from, w.path, len(w.path), w.follow, ino, e, w.ino, w.e)
		}
	}
}

// both is a walk that tells the same whether it follows or not.
func both(from int, path string, ino int, e api.Errno) []walk {
	return []walk{{from, path, true, ino, e}, {from, path, false, ino, e}}
}

// times is n times a part, with slashes between them.
func times(n int, part string) string {
	return strings.TrimSuffix(strings.Repeat(part+"/", n), "/")
}

func TestTheChaptersExample(t *testing.T) {
	m := modelOf(t, folder("a"), file("a/f", "xy", 4), link("l", "a"))
	ino, e := m.Walk(0, "l/f", true)
	if s, _ := m.Stat(ino); e != api.OK || s.Kind != api.KindFile || ino != 2 {
		t.Fatal(ino, e)
	}
	if b, e := m.Read(ino, 1, 9); string(b) != "y\x00\x00" || e != api.OK {
		t.Errorf("%q, %d", b, e)
	}
}

func TestWalkWithoutLinks(t *testing.T) {
	m := zooModel(t)
	for _, l := range [][]walk{
		both(root, "bin", bin, 0), both(root, "bin/a", sub, 0), both(root, "bin/a/deep", deep, 0), both(root, "exe", exe, 0), both(root, "bin/exe", exe, 0), both(root, "disk", disk, 0),
		both(bin, "a/deep", deep, 0), both(sub, "deep", deep, 0), both(sub, "../exe", exe, 0), both(sub, "../../exe", exe, 0), both(sub, "../../../../bin", bin, 0),
		both(root, "..", root, 0), both(root, "../..", root, 0), both(root, ".", root, 0), both(bin, "..", root, 0), both(bin, ".", bin, 0), both(sub, "..", bin, 0), both(sub, "../.", bin, 0),
		both(root, "bin/", bin, 0), both(root, "bin//a///deep/", deep, 0), both(root, "./bin/./a/.", sub, 0), both(root, "exe/", exe, 0), both(root, "exe/.", exe, 0), both(root, "exe/./", exe, 0),
		both(root, "/bin", bin, 0), both(sub, "/bin", bin, 0), both(sub, "//bin/..", root, 0), both(empty, "/exe", exe, 0), both(empty, "/../exe", exe, 0),
	} {
		walks(t, m, l)
	}
}

func TestWalkAlongNothing(t *testing.T) {
	m := zooModel(t)
	for _, path := range []string{"", ".", "./", "././/."} {
		for _, dir := range []int{root, bin, sub, empty} {
			walks(t, m, both(dir, path, dir, 0))
		}
		for _, ino := range []int{deep, exe, char, disk, jump, rel} { // from a folder on, whatever comes then
			walks(t, m, both(ino, path, 0, api.ErrKind))
		}
	}
	for _, path := range []string{"/", "//", "/.", "/./", "/..", strings.Repeat("/", 4096)} {
		for ino := range count { // from the root on, whatever from is
			walks(t, m, both(ino, path, root, 0))
		}
	}
}

func TestWalkFromWhatIsNoFolder(t *testing.T) {
	m := zooModel(t)
	for _, ino := range []int{deep, exe, char, disk, jump, rel} {
		walks(t, m, both(ino, "a", 0, api.ErrKind))
		walks(t, m, both(ino, "..", 0, api.ErrKind))
		walks(t, m, both(ino, "bin", 0, api.ErrKind))
		walks(t, m, both(ino, "/bin/a", sub, 0))
		walks(t, m, both(ino, "/no", 0, api.ErrNone))
		// asked ahead of the path
		walks(t, m, both(ino, "a\x00", 0, api.ErrKind))
		walks(t, m, both(ino, times(129, "a"), 0, api.ErrKind))
		// which is asked, where it goes from the root on
		walks(t, m, both(ino, "/a\x00", 0, api.ErrForm))
		walks(t, m, both(ino, "/"+times(129, "a"), 0, api.ErrMany))
	}
}

func TestWalkErrorsOfThePath(t *testing.T) {
	m := zooModel(t)
	for _, c := range []struct {
		path string
		e    api.Errno
	}{
		{strings.Repeat("/", 4097), api.ErrLong}, {times(2049, "a"), api.ErrLong}, {"a\x00", api.ErrForm}, {"\x00", api.ErrForm}, {"bin/\x00", api.ErrForm},
		{strings.Repeat("a", 256), api.ErrArg}, {"bin/" + strings.Repeat("a", 256), api.ErrArg}, {times(129, ".."), api.ErrMany}, {"/" + times(129, "x"), api.ErrMany},
		{strings.Repeat("a", 4096) + "\x00", api.ErrLong}, {strings.Repeat("a", 256) + "\x00", api.ErrForm}, {strings.Repeat("a", 256) + "/" + times(129, "x"), api.ErrArg},
		// asked of the whole path ahead of its first part
		{"no/\x00", api.ErrForm}, {"exe/a/" + strings.Repeat("a", 256), api.ErrArg}, {"no/" + times(128, "x"), api.ErrMany},
	} {
		walks(t, m, both(root, c.path, 0, c.e))
		walks(t, m, both(sub, c.path, 0, c.e))
	}
	walks(t, m, both(root, times(128, ".."), root, 0))
	walks(t, m, both(root, times(127, "..")+"/bin", bin, 0))
	walks(t, m, both(root, strings.Repeat("a", 255), 0, api.ErrNone))
	walks(t, m, both(root, "bin"+strings.Repeat("/", 4093), bin, 0))
}

func TestWalkErrorsOnTheWay(t *testing.T) {
	m := modelOf(t, append(zoo(), link("tofile", "full"), link("tonone", "no/where"), link("todisk", "/disk"))...)
	at := func(path string) int {
		ino, e := m.Walk(0, path, false)
		if e != api.OK {
			t.Fatal(path, e)
		}
		return ino
	}
	for _, l := range [][]walk{
		both(root, "no", 0, api.ErrNone), both(root, "bin/no", 0, api.ErrNone), both(root, "no/bin", 0, api.ErrNone), both(root, "empty/bin", 0, api.ErrNone), both(root, "no/..", 0, api.ErrNone), both(root, "...", 0, api.ErrNone),
		both(root, "exe/a", 0, api.ErrKind), both(root, "exe/..", 0, api.ErrKind), both(root, "exe/../bin", 0, api.ErrKind), both(root, "disk/a", 0, api.ErrKind), both(root, "c/..", 0, api.ErrKind), both(root, "bin/a/deep/x/y", 0, api.ErrKind),
		both(root, "tofile/a", 0, api.ErrKind), both(root, "tofile/..", 0, api.ErrKind), both(root, "todisk/a", 0, api.ErrKind), both(root, "tonone/a", 0, api.ErrNone),
		{{root, "tofile", true, at("full"), 0}, {root, "tofile", false, at("tofile"), 0}, {root, "tofile/.", true, at("full"), 0}, {root, "tofile/.", false, at("tofile"), 0}},
		{{root, "todisk", true, at("disk"), 0}, {root, "todisk/", false, at("todisk"), 0}},
		{{root, "tonone", true, 0, api.ErrNone}, {root, "tonone", false, at("tonone"), 0}},
	} {
		walks(t, m, l)
	}
}

func TestWalkThroughLinks(t *testing.T) {
	m := modelOf(t,
		folder("a"), file("a/f", "f", 1), folder("a/sub"), file("a/sub/f", "s", 1),
		link("a/abs", "/a/sub"), link("a/here", "."), link("a/rel", "sub"), link("a/root", "/"), link("a/up", ".."), link("a/sub/back", "../rel"),
		folder("b"), further("b/rel", "a/rel"), folder("b/sub"), file("b/sub/f", "b", 1), file("b/sub/only", "", 0),
		link("l", "a"), link("ll", "./l/."), link("lll", "//ll//"), link("tail", "ll/rel/f"), link("toolink", "a/rel"),
	)
	at := map[string]int{}
	for _, path := range []string{"", "a", "a/f", "a/sub", "a/sub/f", "a/abs", "a/here", "a/rel", "a/root", "a/up", "a/sub/back", "b", "b/rel", "b/sub", "b/sub/f", "b/sub/only", "l", "ll", "lll", "tail", "toolink"} {
		ino := 0
		for part := range strings.SplitSeq(path, "/") {
			if path == "" {
				break
			}
			next, e := m.Lookup(ino, part)
			if e != api.OK {
				t.Fatal(path, e)
			}
			ino = next
		}
		at[path] = ino
	}
	for _, c := range []struct {
		from, path string
		yes, no    string // where it leads, if it follows or does not
	}{
		// as the last part: it is gone through, or is the answer
		{"", "l", "a", "l"}, {"", "ll", "a", "ll"}, {"", "lll", "a", "lll"}, {"", "a/rel", "a/sub", "a/rel"}, {"", "a/abs", "a/sub", "a/abs"}, {"", "a/up", "", "a/up"}, {"", "a/here", "a", "a/here"}, {"", "a/root", "", "a/root"},
		{"", "l/", "a", "l"}, {"", "l/.", "a", "l"}, {"", "./l//./", "a", "l"}, {"a", "rel", "a/sub", "a/rel"}, {"b", "/a/abs", "a/sub", "a/abs"}, {"", "tail", "a/sub/f", "tail"}, {"", "toolink", "a/sub", "toolink"},
		// in the midst: it is gone through, whatever follow is
		{"", "l/f", "a/f", "a/f"}, {"", "ll/f", "a/f", "a/f"}, {"", "lll/f", "a/f", "a/f"}, {"", "lll/sub/f", "a/sub/f", "a/sub/f"}, {"", "l/..", "", ""}, {"", "l/../b", "b", "b"},
		{"", "a/rel/f", "a/sub/f", "a/sub/f"}, {"", "a/rel/..", "a", "a"}, {"a", "abs/f", "a/sub/f", "a/sub/f"}, {"a", "abs/..", "a", "a"}, {"b", "../l/abs/f", "a/sub/f", "a/sub/f"},
		{"a", "up/b", "b", "b"}, {"a", "up/..", "", ""}, {"a", "root/b", "b", "b"}, {"a/sub", "../root/a/f", "a/f", "a/f"}, {"a", "here/here/here/f", "a/f", "a/f"},
		{"a/sub", "back/f", "a/sub/f", "a/sub/f"}, {"a/sub", "back/back/f", "a/sub/f", "a/sub/f"}, {"", "toolink/f", "a/sub/f", "a/sub/f"},
		// both
		{"", "l/rel", "a/sub", "a/rel"}, {"", "lll/abs", "a/sub", "a/abs"}, {"", "a/rel/back", "a/sub", "a/sub/back"}, {"a", "up/l", "a", "l"},
		// one link by two names leads from the folder that it was met in
		{"", "b/rel/only", "b/sub/only", "b/sub/only"}, {"", "b/rel/f", "b/sub/f", "b/sub/f"}, {"", "b/rel", "b/sub", "a/rel"}, {"b", "rel", "b/sub", "a/rel"},
	} {
		walks(t, m, []walk{{at[c.from], c.path, true, at[c.yes], 0}, {at[c.from], c.path, false, at[c.no], 0}})
	}
	walks(t, m, both(0, "a/rel/only", 0, api.ErrNone))
	walks(t, m, both(0, "l/l", 0, api.ErrNone))
}

// chain is n links l1, l2, .., each to the one ahead of it, the first to end.
func chain(n int, end string) []api.Entry {
	var l []api.Entry
	for i := range n {
		s := fmt.Sprint("l", i+1)
		l = append(l, link(s, end))
		end = s
	}
	return l
}

// in is the number of a name in the root.
func in(m *model.Model, s string) int {
	ino, _ := m.Lookup(0, s)
	return ino
}

func TestFortyLinksAndOneMore(t *testing.T) {
	m := modelOf(t, append(chain(42, "l0"), folder("l0"), file("l0/f", "", 0))...)
	dir, l41, l42 := in(m, "l0"), in(m, "l41"), in(m, "l42")
	f, _ := m.Lookup(dir, "f")
	walks(t, m, []walk{
		{0, "l39", true, dir, 0}, {0, "l40", true, dir, 0}, {0, "l41", true, 0, api.ErrLoop}, {0, "l42", true, 0, api.ErrLoop}, {0, "l41", false, l41, 0}, {0, "l42", false, l42, 0},
		{0, "l40/f", true, f, 0}, {0, "l40/f", false, f, 0}, {0, "l41/f", true, 0, api.ErrLoop}, {0, "l41/f", false, 0, api.ErrLoop},
		{0, "l40/../l0", true, dir, 0}, {0, "l40/../l1", true, 0, api.ErrLoop}, {0, "l39/../l1", true, dir, 0}, {0, "l39/../l2", true, 0, api.ErrLoop}, {0, "l40/../l41", false, l41, 0},
		{0, "l41/no", true, 0, api.ErrLoop}, {0, "l40/no", true, 0, api.ErrNone}, {0, "l40/f/x", true, 0, api.ErrKind},
	})
	here := modelOf(t, link("h", "."), link("r", "/"))
	for _, part := range []string{"h", "r"} {
		ino := in(here, part)
		walks(t, here, []walk{
			{0, times(40, part), true, 0, 0}, {0, times(41, part), true, 0, api.ErrLoop}, {0, times(41, part), false, ino, 0}, {0, times(42, part), false, 0, api.ErrLoop},
			{0, times(40, part) + "/.", true, 0, 0}, {0, times(41, part) + "/..", false, 0, api.ErrLoop}, {0, times(40, part) + "/..", false, 0, 0},
			{0, times(128, part), true, 0, api.ErrLoop}, {0, times(128, part), false, 0, api.ErrLoop},
		})
	}
	if ino, e := here.Walk(0, times(40, "h"), true); ino != 0 || e != api.OK { // what was gone through counts in one walk alone
		t.Error(ino, e)
	}
}

func TestRingsOfLinks(t *testing.T) {
	m := modelOf(t, folder("d"), link("d/up", "../ring"), link("one", "one"), link("ring", "d/up"), link("self", "/self"), link("under", "under/x"), link("x", "y"), link("y", "z"), link("z", "./x"))
	for _, s := range []string{"one", "ring", "self", "under", "x", "y", "z", "d/up"} {
		dir, last := 0, s
		if s == "d/up" {
			dir, last = 1, "up"
		}
		ino, e := m.Lookup(dir, last)
		if e != api.OK {
			t.Fatal(s, e)
		}
		walks(t, m, []walk{{0, s, true, 0, api.ErrLoop}, {0, s, false, ino, 0}, {0, s + "/a", true, 0, api.ErrLoop}, {0, s + "/a", false, 0, api.ErrLoop}, {0, s + "/..", false, 0, api.ErrLoop}})
	}
}

// crowd is a tree and a path; along it, a walk has n parts left behind its second link: 127 of the path, 127 of its first link, and all of its second.
func crowd(n int, end string) ([]api.Entry, string) {
	l := []api.Entry{folder("end"), link("m1", "m2/"+times(127, "..")), link("m2", times(n-254, ".."))}
	return l, "m1/" + times(126, "..") + "/" + end
}

func TestPartsLeft(t *testing.T) {
	for _, c := range []struct {
		n int
		e api.Errno
	}{{255, 0}, {256, 0}, {257, api.ErrMany}, {258, api.ErrMany}, {382, api.ErrMany}} {
		l, path := crowd(c.n, "end")
		m := modelOf(t, l...)
		ino := 1 // end
		if c.e != api.OK {
			ino = 0
		}
		walks(t, m, both(0, path, ino, c.e))
	}
	// what is left is told ahead of what is there
	l, path := crowd(257, "no")
	walks(t, modelOf(t, l...), both(0, path, 0, api.ErrMany))
	l, path = crowd(256, "no")
	walks(t, modelOf(t, l...), both(0, path, 0, api.ErrNone))
	// a link of 128 parts, and all that a path may have behind it
	m := modelOf(t, link("m", times(128, "..")))
	walks(t, m, both(0, "m/"+times(127, ".."), 0, 0))
	walks(t, m, []walk{{0, "m", true, 0, 0}, {0, "m", false, 1, 0}})
	// each link leaves 8 parts more: the 32nd is one too many, long ahead of MaxLinks
	m = modelOf(t, link("grow", "grow/"+times(8, "..")))
	walks(t, m, []walk{{0, "grow", true, 0, api.ErrMany}, {0, "grow", false, 1, 0}})
	// each leaves 6 more: MaxLinks comes first
	m = modelOf(t, link("grow", "grow/"+times(6, "..")))
	walks(t, m, []walk{{0, "grow", true, 0, api.ErrLoop}})
}

func TestTargetsThatSplitRefuses(t *testing.T) {
	wide, many := strings.Repeat("w", 256), times(129, "..")
	m := modelOf(t,
		link("absolute", "/"+wide), link("fits", strings.Repeat("w", 255)), link("many", many), link("most", times(128, "..")), link("slashes", strings.Repeat("/", 4096)),
		link("to", "wide"), link("wide", wide), link("widemany", wide+"/"+many),
	)
	for s, e := range map[string]api.Errno{"absolute": api.ErrArg, "fits": api.ErrNone, "many": api.ErrMany, "to": api.ErrArg, "wide": api.ErrArg, "widemany": api.ErrArg} {
		walks(t, m, []walk{{0, s, true, 0, e}, {0, s, false, in(m, s), 0}, {0, s + "/x", true, 0, e}, {0, s + "/x", false, 0, e}, {0, s + "/..", false, 0, e}})
	}
	walks(t, m, []walk{{0, "most", true, 0, 0}, {0, "slashes", true, 0, 0}, {0, "slashes/most", true, 0, 0}, {0, "slashes/most", false, in(m, "most"), 0}})
}

func TestOneLinkTooManyIsToldFirst(t *testing.T) {
	for target, e := range map[string]api.Errno{strings.Repeat("w", 256): api.ErrArg, times(129, ".."): api.ErrMany} {
		m := modelOf(t, append(chain(41, "bad"), link("bad", target))...)
		walks(t, m, []walk{{0, "l39", true, 0, e}, {0, "l40", true, 0, api.ErrLoop}, {0, "l41", true, 0, api.ErrLoop}})
	}
	l, path := crowd(257, "end") // its second link leaves too many parts
	m := modelOf(t, append(l, chain(40, "m1")...)...)
	for first, e := range map[string]api.Errno{"m1": api.ErrMany, "l38": api.ErrMany, "l39": api.ErrLoop, "l40": api.ErrLoop} {
		walks(t, m, both(0, strings.Replace(path, "m1", first, 1), 0, e))
	}
}

func TestTheFirstErrorOnTheWay(t *testing.T) {
	m := modelOf(t, file("f", "", 0), link("loop", "loop"), link("wide", strings.Repeat("w", 256)), link("none", "no"))
	walks(t, m, []walk{
		{0, "no/f/x", true, 0, api.ErrNone}, {0, "f/no", true, 0, api.ErrKind}, {0, "f/loop", true, 0, api.ErrKind}, {0, "loop/no", true, 0, api.ErrLoop},
		{0, "wide/loop", true, 0, api.ErrArg}, {0, "none/wide", true, 0, api.ErrNone}, {0, "loop/wide", true, 0, api.ErrLoop},
		{0, "loop/\x00", true, 0, api.ErrForm}, {-1, "loop", true, 0, api.ErrRange}, {1, "loop", true, 0, api.ErrKind},
		{math.MaxInt, "", true, 0, api.ErrRange}, {math.MinInt, "/", false, 0, api.ErrRange},
	})
}

func TestWalkDown(t *testing.T) {
	var l []api.Entry
	path := ""
	for range 64 {
		path = strings.TrimPrefix(path+"/d", "/")
		l = append(l, folder(path))
	}
	m := modelOf(t, append(l, link("top", path))...)
	walks(t, m, both(0, path, 64, 0))
	walks(t, m, both(0, path+"/d", 0, api.ErrNone))
	walks(t, m, both(64, times(64, ".."), 0, 0))
	walks(t, m, both(64, times(63, ".."), 1, 0))
	walks(t, m, both(0, path+"/"+times(64, ".."), 0, 0))
	walks(t, m, []walk{{5, "/top", true, 64, 0}, {5, "/top", false, 65, 0}, {5, "/top/..", false, 63, 0}})
}
