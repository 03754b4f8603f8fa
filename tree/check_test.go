package tree_test

import (
	"fmt"
	"math"
	"slices"
	"strings"
	"testing"

	"portmanteau/api"
	"portmanteau/tree"
)

// P11.1

func TestCheckTakesTrees(t *testing.T) {
	for what, l := range map[string][]api.Entry{
		"nil":                       nil,
		"empty":                     {},
		"the root alone":            {folder("")},
		"the root, last":            {file("a"), folder("b"), file("b/a"), folder("")},
		"the chapter's example":     {file("b"), folder("a"), file("a/c"), further("a/d", "b")},
		"what is in it comes first": {file("a/b/c"), folder("a/b"), folder("a")},
		"a further name, first":     {further("a", "b"), file("b")},
		"further names of one":      {further("a", "c"), further("b", "c"), file("c"), further("d", "c")},
		"further names of links":    {link("a", "a"), further("b", "a")},
		"further names of devices":  {device("a", api.KindBlock, 0), device("b", api.KindChar, 0), further("c", "a"), further("d", "b")},
		"names that are no words":   {file("..."), file(".a"), file(" "), file("\xff"), file("\x01"), file("a\\b")},
		"mixed":                     mixed(),
	} {
		check(t, what, l, 0, api.OK)
	}
	for _, x := range plain("a") {
		check(t, "one of a kind", []api.Entry{x}, 0, api.OK)
	}
}

// at holds which error an entry has at place 0, behind others, and ahead of others that are faulty too.
func at(t *testing.T, what string, x api.Entry, e api.Errno) {
	t.Helper()
	others := []api.Entry{folder("p"), file("p/f"), further("p/g", "p/f"), folder("")}
	check(t, what+" behind", append(slices.Clone(others), x), len(others), e)
	check(t, what+" between", []api.Entry{others[0], others[1], x, others[2], others[3]}, 2, e)
	for _, wrong := range []api.Entry{{Path: "w"}, file("p/"), file("nowhere/x"), further("y", "nowhere"), link("y", ""), folder("p")} {
		check(t, what+" ahead of another fault", append(slices.Clone(others), x, wrong), len(others), e)
		check(t, what+" behind another fault", []api.Entry{folder("p"), {Path: "w", Kind: 9}, x}, 1, api.ErrKind)
	}
	check(t, what+" ahead", append([]api.Entry{x}, others...), 0, e)
}

// fits holds that an entry has no fault.
func fits(t *testing.T, what string, x api.Entry) {
	t.Helper()
	others := []api.Entry{folder("p"), file("p/f")}
	check(t, what, append(slices.Clone(others), x), 0, api.OK)
	check(t, what, append([]api.Entry{x}, others...), 0, api.OK)
}

func TestCheckKind(t *testing.T) {
	for _, kind := range []int{0, -1, 7, 8, 100, 1 << 32, 1<<32 + 1, math.MinInt, math.MaxInt} {
		x := file("x")
		x.Kind = kind
		at(t, fmt.Sprint("kind ", kind), x, api.ErrKind)
	}
}

func TestCheckForm(t *testing.T) {
	for _, path := range []string{"/", "//", "/x", "x/", "p/", "p//x", "/p/x", "p/x/", ".", "..", "./x", "x/.", "p/.", "p/./x", "p/..", "../x", "p/../x", "\x00", "x\x00", "p/\x00x", "p\x00/x", strings.Repeat("n", 256), "p/" + strings.Repeat("n", 256), "p/" + strings.Repeat("n", 4096)} {
		for _, x := range append(plain(path), further(path, "p/f")) {
			at(t, fmt.Sprintf("%.20q of kind %d", path, x.Kind), x, api.ErrForm)
		}
	}
	for _, x := range append(plain(""), further("", "p/f")) {
		if x.Kind == api.KindDir {
			check(t, "the root", []api.Entry{file("a"), x}, 0, api.OK)
			continue
		}
		check(t, "a root that is no folder", []api.Entry{x}, 0, api.ErrForm)
		check(t, "a root that is no folder", []api.Entry{folder("p"), file("p/f"), x}, 2, api.ErrForm)
	}
	fits(t, "a long name", file(strings.Repeat("n", 255)))
	fits(t, "a long name in a folder", file("p/"+strings.Repeat("n", 255)))
}

// down is folders one in the other, of these names, and the path of the last of them.
func down(names ...string) ([]api.Entry, string) {
	var l []api.Entry
	for i := range names {
		l = append(l, folder(strings.Join(names[:i+1], "/")))
	}
	return l, strings.Join(names, "/")
}

func TestCheckLongPaths(t *testing.T) {
	long := slices.Repeat([]string{strings.Repeat("n", 255)}, 15)
	l, path := down(long...) // 3839 bytes
	check(t, "4095 bytes", append(slices.Clone(l), file(path+"/"+strings.Repeat("n", 255))), 0, api.OK)
	l, path = down(append(long, "n")...) // 3841 bytes
	check(t, "4096 bytes", append(slices.Clone(l), file(path+"/"+strings.Repeat("n", 254))), 0, api.OK)
	check(t, "4097 bytes", append(slices.Clone(l), file(path+"/"+strings.Repeat("n", 255))), 16, api.ErrForm)
	check(t, "4097 bytes of a folder", append([]api.Entry{folder(path + "/" + strings.Repeat("n", 255))}, l...), 0, api.ErrForm)
}

func TestCheckDepth(t *testing.T) {
	names := slices.Repeat([]string{"a"}, 200)
	path := func(n int) string { return strings.Join(names[:n], "/") }
	l, _ := down(names[:63]...)
	for _, x := range append(plain(path(64)), further(path(64), "f")) {
		check(t, "64 parts", append(slices.Clone(l), file("f"), x), 0, api.OK)
	}
	l, _ = down(names[:64]...)
	for _, x := range append(plain(path(65)), further(path(65), "f")) {
		check(t, "65 parts", append(slices.Clone(l), file("f"), x), 65, api.ErrMany)
		check(t, "65 parts, first", append([]api.Entry{x, file("f")}, l...), 0, api.ErrMany)
	}
	for _, n := range []int{65, 66, 100, 128} {
		check(t, "many parts", []api.Entry{file("f"), file(path(n))}, 1, api.ErrMany)
	}
	for _, n := range []int{129, 130, 200} { // Join makes no such path
		check(t, "more parts than a path has", []api.Entry{file("f"), file(path(n))}, 1, api.ErrForm)
	}
}

func TestCheckTwice(t *testing.T) {
	for _, a := range append(plain("x"), further("x", "p/f")) {
		for _, b := range append(plain("x"), further("x", "p/f")) {
			check(t, "twice", []api.Entry{folder("p"), a, file("p/f"), b, file("z")}, 3, api.ErrTwice)
			check(t, "three times", []api.Entry{a, b, folder("p"), file("p/f"), b}, 1, api.ErrTwice)
		}
	}
	check(t, "two roots", []api.Entry{folder(""), file("a"), folder("")}, 2, api.ErrTwice)
	check(t, "in a folder", []api.Entry{file("p/x"), folder("p"), folder("p/x")}, 2, api.ErrTwice)
	check(t, "a second root that is no folder", []api.Entry{folder(""), file("")}, 1, api.ErrForm)
}

func TestCheckNotInAFolder(t *testing.T) {
	at(t, "in nothing", file("nowhere/x"), api.ErrNone)
	at(t, "in a file", file("p/f/x"), api.ErrNone)
	at(t, "in a further name", folder("p/g/x"), api.ErrNone)
	at(t, "in nothing in a folder", link("p/nowhere/x", "t"), api.ErrNone)
	at(t, "in itself", folder("x/x"), api.ErrNone)
	at(t, "a further name", further("nowhere/x", "p/f"), api.ErrNone)
	for _, x := range append(plain("x"), further("x", "p")) {
		want := api.ErrNone
		if x.Kind == api.KindDir {
			want = api.OK
		}
		l := []api.Entry{file("p"), file("x/a"), x}
		if x.Kind == api.KindDir {
			check(t, "in a folder", l, 0, want)
		} else {
			check(t, "in no folder", l, 1, want)
		}
	}
	check(t, "in what the root's entry does not tell", []api.Entry{folder(""), file("x/y")}, 1, api.ErrNone)
	check(t, "its folder's name begins so", []api.Entry{folder("ab"), file("a/x")}, 1, api.ErrNone)
}

func TestCheckFurther(t *testing.T) {
	for _, target := range []string{"", "nowhere", "p", "p/g", "x", "p/f/", "/p/f", "./p/f", "p//f", "f", "p/f\x00", "P/F"} {
		at(t, fmt.Sprintf("a further name of %q", target), further("x", target), api.ErrNone)
	}
	fits(t, "a further name", further("x", "p/f"))
	for _, x := range plain("x") {
		l := []api.Entry{further("a", "x"), x}
		if x.Kind == api.KindDir {
			check(t, "of a folder", l, 0, api.ErrNone)
		} else {
			check(t, "of no folder", l, 0, api.OK)
		}
	}
	check(t, "of one another", []api.Entry{further("a", "b"), further("b", "a")}, 0, api.ErrNone)
	check(t, "of the root", []api.Entry{folder(""), further("a", "")}, 1, api.ErrNone)
}

// What is asked of another entry of a path that is there twice is asked of any of them.
func TestCheckAnyOfThosePaths(t *testing.T) {
	check(t, "a file, then a folder", []api.Entry{file("a/x"), file("a"), folder("a")}, 2, api.ErrTwice)
	check(t, "a folder, then a file", []api.Entry{file("a/x"), folder("a"), file("a")}, 2, api.ErrTwice)
	check(t, "no folder", []api.Entry{file("a/x"), file("a"), file("a")}, 0, api.ErrNone)
	check(t, "of a folder, then a file", []api.Entry{further("x", "a"), folder("a"), file("a")}, 2, api.ErrTwice)
	check(t, "of a file, then a folder", []api.Entry{further("x", "a"), file("a"), folder("a")}, 2, api.ErrTwice)
	check(t, "of folders", []api.Entry{further("x", "a"), folder("a"), further("a", "a")}, 0, api.ErrNone)
	check(t, "of a root that is none", []api.Entry{further("x", ""), file("")}, 1, api.ErrForm)
}

// What has none of the six kinds has no kind: no further name leads to it.
func TestCheckFurtherOfNoKind(t *testing.T) {
	for _, kind := range []int{0, 7, -1, 8, 100, 1 << 32, 1<<32 + 1, math.MinInt, math.MaxInt} {
		x := api.Entry{Path: "a", Kind: kind}
		what := fmt.Sprint("of kind ", kind)
		check(t, what, []api.Entry{further("x", "a"), x}, 0, api.ErrNone)
		check(t, what+", behind others", []api.Entry{folder("p"), file("p/f"), further("p/x", "a"), file("b"), x}, 2, api.ErrNone)
		check(t, what+", ahead of it", []api.Entry{x, further("x", "a")}, 0, api.ErrKind)
		check(t, what+", behind one of a file", []api.Entry{further("x", "f"), x, further("y", "a"), file("f")}, 1, api.ErrKind)
		check(t, what+", and a folder", []api.Entry{further("x", "a"), x, folder("a")}, 0, api.ErrNone)
		check(t, what+", and a further name", []api.Entry{further("x", "a"), x, further("a", "f"), file("f")}, 0, api.ErrNone)
		for _, y := range plain("a") {
			if y.Kind != api.KindDir {
				check(t, fmt.Sprint(what, ", and one of kind ", y.Kind), []api.Entry{further("x", "a"), x, y}, 1, api.ErrKind)
				check(t, fmt.Sprint(what, " behind one of kind ", y.Kind), []api.Entry{further("x", "a"), y, x}, 2, api.ErrKind)
			}
		}
	}
}

// spoilt is an entry of each kind but KindHard that one thing was done to.
func spoilt(do func(x *api.Entry)) []api.Entry {
	l := plain("x")
	for i := range l {
		do(&l[i])
	}
	return l
}

func TestCheckNumbers(t *testing.T) {
	for field, of := range map[string]func(x *api.Entry) *int{
		"Mode": func(x *api.Entry) *int { return &x.Mode },
		"Uid":  func(x *api.Entry) *int { return &x.Uid },
		"Gid":  func(x *api.Entry) *int { return &x.Gid },
		"Time": func(x *api.Entry) *int { return &x.Time },
	} {
		right, wrong := []int{0, 1, api.MaxWord - 1, api.MaxWord}, []int{-1, api.MaxWord + 1, math.MinInt, math.MaxInt}
		if field == "Mode" {
			right, wrong = []int{0, 1, 4094, 4095}, []int{-1, 4096, api.MaxWord, math.MinInt, math.MaxInt}
		}
		for _, n := range right {
			for _, x := range spoilt(func(x *api.Entry) { *of(x) = n }) {
				fits(t, fmt.Sprintf("%s %d of kind %d", field, n, x.Kind), x)
			}
		}
		for _, n := range wrong {
			for _, x := range spoilt(func(x *api.Entry) { *of(x) = n }) {
				at(t, fmt.Sprintf("%s %d of kind %d", field, n, x.Kind), x, api.ErrArg)
			}
			x := further("x", "p/f")
			*of(&x) = n
			fits(t, "a further name, of which that is not asked", x)
		}
	}
}

func TestCheckDev(t *testing.T) {
	for _, n := range []int{0, api.MaxWord, -1, api.MaxWord + 1, math.MinInt, math.MaxInt} {
		for _, x := range append(spoilt(func(x *api.Entry) { x.Dev = n }), further("x", "p/f")) {
			x.Dev = n
			if asked := x.Kind == api.KindBlock || x.Kind == api.KindChar; asked && n != 0 && n != api.MaxWord {
				at(t, fmt.Sprintf("Dev %d of kind %d", n, x.Kind), x, api.ErrArg)
			} else {
				fits(t, fmt.Sprintf("Dev %d of kind %d", n, x.Kind), x)
			}
		}
	}
}

func TestCheckSize(t *testing.T) {
	for _, data := range [][]byte{nil, {}, {1}, {1, 2, 3}, {1, 0}, {0, 0, 0}, make([]byte, 5000)} {
		for _, size := range []int{-1, 0, len(data) - 1, len(data), len(data) + 1, api.MaxFile - 1, api.MaxFile, api.MaxFile + 1, math.MinInt, math.MaxInt} {
			for _, x := range append(plain("x"), further("x", "p/f")) {
				x.Size, x.Data = size, data
				what := fmt.Sprintf("Size %d of %d bytes, of kind %d", size, len(data), x.Kind)
				if x.Kind == api.KindFile && (size < len(data) || size >= api.MaxFile) {
					at(t, what, x, api.ErrArg)
				} else {
					fits(t, what, x)
				}
			}
		}
	}
}

func TestCheckTarget(t *testing.T) {
	right := []string{"a", "/", "..", "//", "nowhere", strings.Repeat("t", 255), strings.Repeat("t", 4095), strings.Repeat("t", 4096), "\xff\x01"}
	wrong := []string{"", "\x00", "a\x00", "\x00a", strings.Repeat("t", 4097), strings.Repeat("t", 4095) + "\x00"}
	for _, s := range right {
		fits(t, fmt.Sprintf("a link to %.20q", s), link("x", s))
	}
	for _, s := range wrong {
		at(t, fmt.Sprintf("a link to %.20q", s), link("x", s), api.ErrArg)
		for _, x := range spoilt(func(x *api.Entry) { x.Target = s }) {
			if x.Kind != api.KindLink {
				fits(t, "a Target that is not asked", x)
			}
		}
	}
}

// attrs is n attributes with different names.
func attrs(n int) []api.Attr {
	var l []api.Attr
	for i := range n {
		l = append(l, api.Attr{Name: fmt.Sprint("n", i), Value: []byte{byte(i)}})
	}
	return l
}

// withAttr is attributes of which one in the midst is that.
func withAttr(a api.Attr) []api.Attr {
	return slices.Insert(attrs(4), 2, a)
}

func TestCheckAttrs(t *testing.T) {
	for what, l := range map[string][]api.Attr{
		"none":                 nil,
		"empty":                {},
		"64":                   attrs(64),
		"a name of 1 byte":     withAttr(api.Attr{Name: "a"}),
		"a name of 255 bytes":  withAttr(api.Attr{Name: strings.Repeat("a", 255)}),
		"no name of a file":    withAttr(api.Attr{Name: "../.."}),
		"a value of 4096":      withAttr(api.Attr{Name: "a", Value: make([]byte, 4096)}),
		"one is ahead":         {{Name: "a"}, {Name: "aa"}, {Name: "A"}, {Name: "a "}},
		"values that are same": {{Name: "a", Value: []byte{1}}, {Name: "b", Value: []byte{1}}},
	} {
		for _, x := range append(plain("x"), further("x", "p/f")) {
			x.Attrs = l
			fits(t, fmt.Sprintf("attributes, %s, of kind %d", what, x.Kind), x)
		}
	}
	for what, c := range map[string]struct {
		l []api.Attr
		e api.Errno
	}{
		"65":                           {attrs(65), api.ErrArg},
		"1000":                         {attrs(1000), api.ErrArg},
		"a name of 0 bytes":            {withAttr(api.Attr{Value: []byte{1}}), api.ErrArg},
		"a name of 256 bytes":          {withAttr(api.Attr{Name: strings.Repeat("a", 256)}), api.ErrArg},
		"a name with a 0":              {withAttr(api.Attr{Name: "a\x00b"}), api.ErrArg},
		"a name that ends with a 0":    {withAttr(api.Attr{Name: "a\x00"}), api.ErrArg},
		"a value of 4097":              {withAttr(api.Attr{Name: "a", Value: make([]byte, 4097)}), api.ErrArg},
		"the last one's name":          {append(attrs(63), api.Attr{}), api.ErrArg},
		"twice":                        {withAttr(api.Attr{Name: "n0"}), api.ErrTwice},
		"twice, neighbours":            {withAttr(api.Attr{Name: "n1", Value: []byte{1}}), api.ErrTwice},
		"twice, of 64":                 {append(attrs(63), api.Attr{Name: "n0"}), api.ErrTwice},
		"twice, of 65":                 {append(attrs(64), api.Attr{Name: "n0"}), api.ErrArg},
		"twice, and no name behind":    {append(withAttr(api.Attr{Name: "n0"}), api.Attr{}), api.ErrArg},
		"no name twice":                {[]api.Attr{{}, {}}, api.ErrArg},
		"twice, and a value behind":    {append(withAttr(api.Attr{Name: "n0"}), api.Attr{Name: "a", Value: make([]byte, 4097)}), api.ErrArg},
		"a long name that is there so": {[]api.Attr{{Name: strings.Repeat("a", 255)}, {Name: strings.Repeat("a", 255)}}, api.ErrTwice},
	} {
		for _, x := range spoilt(func(x *api.Entry) { x.Attrs = c.l }) {
			at(t, fmt.Sprintf("attributes, %s, of kind %d", what, x.Kind), x, c.e)
		}
		x := further("x", "p/f")
		x.Attrs = c.l
		fits(t, "attributes that are not asked", x)
	}
}

// Two errors of one entry: the one that comes first in the chapter.
func TestCheckFirstError(t *testing.T) {
	twice := []api.Attr{{Name: "a"}, {Name: "a"}}
	wrong := func(x api.Entry, path string) api.Entry {
		x.Path, x.Mode, x.Attrs = path, 4096, twice
		return x
	}
	deep := strings.Repeat("d/", 64) + "d"
	for _, c := range []struct {
		what string
		x    api.Entry
		e    api.Errno
	}{
		{"kind, form", api.Entry{Path: "x/"}, api.ErrKind},
		{"kind, depth", api.Entry{Path: deep, Kind: 7}, api.ErrKind},
		{"kind, twice", api.Entry{Path: "p", Kind: 7}, api.ErrKind},
		{"kind, in nothing", api.Entry{Path: "nowhere/x", Kind: -1}, api.ErrKind},
		{"kind, fields", wrong(api.Entry{}, "x"), api.ErrKind},
		{"form, depth", file(deep + "/"), api.ErrForm},
		{"form, depth, many", file(strings.Repeat("d/", 128) + "d"), api.ErrForm},
		{"form, in nothing", file("nowhere//x"), api.ErrForm},
		{"form, target", further("x/", "nowhere"), api.ErrForm},
		{"form, fields", wrong(file(""), "x//y"), api.ErrForm},
		{"root, twice, fields", wrong(link("", ""), ""), api.ErrForm},
		{"depth, in nothing", file(deep), api.ErrMany},
		{"depth, target", further(deep, "nowhere"), api.ErrMany},
		{"depth, fields", wrong(file(""), deep), api.ErrMany},
		{"twice, target", further("p/f", "nowhere"), api.ErrTwice},
		{"twice, of itself", further("p/f", "p/f"), api.ErrTwice},
		{"twice, fields", wrong(device("", api.KindChar, -1), "p/f"), api.ErrTwice},
		{"in nothing, target", further("nowhere/x", "nowhere"), api.ErrNone},
		{"in nothing, fields", wrong(link("", ""), "p/f/x"), api.ErrNone},
		{"target, fields", wrong(further("", "nowhere"), "x"), api.ErrNone},
		{"fields, attributes twice", wrong(folder(""), "x"), api.ErrArg},
		{"size, attributes twice", api.Entry{Path: "x", Kind: api.KindFile, Size: -1, Attrs: twice}, api.ErrArg},
		{"link, attributes twice", api.Entry{Path: "x", Kind: api.KindLink, Attrs: twice}, api.ErrArg},
		{"device, attributes twice", api.Entry{Path: "x", Kind: api.KindBlock, Dev: -1, Attrs: twice}, api.ErrArg},
	} {
		check(t, c.what, []api.Entry{folder("p"), file("p/f"), c.x}, 2, c.e)
		check(t, c.what+", ahead of another", []api.Entry{folder("p"), file("p/f"), c.x, {}, file("/")}, 2, c.e)
	}
}

// many is n entries in some folders, without the root's.
func many(n int) []api.Entry {
	var l []api.Entry
	for i := range n {
		if i%128 == 0 {
			l = append(l, folder(fmt.Sprint("f", i/128)))
		} else {
			l = append(l, file(fmt.Sprintf("f%d/%d", i/128, i%128), byte(i)))
		}
	}
	return l
}

func TestCheckMany(t *testing.T) {
	check(t, "16384 entries", many(16384), 0, api.OK)
	check(t, "16384 entries with the root's", append(many(16383), folder("")), 0, api.OK)
	check(t, "16385 entries", many(16385), 0, api.ErrMany)
	check(t, "16385 entries with the root's", append(many(16384), folder("")), 0, api.ErrMany)
	check(t, "100000 entries", make([]api.Entry, 100000), 0, api.ErrMany)
	l := many(16384)
	l[16383].Mode = -1
	check(t, "the last one's fault", l, 16383, api.ErrArg)
	l[7].Kind = 0
	check(t, "another one's fault", l, 7, api.ErrKind)
	check(t, "many, with a fault", append(l, api.Entry{}), 0, api.ErrMany)
}

func TestCheckLong(t *testing.T) {
	half := make([]byte, 4194304)
	sized := func(path string, data []byte) api.Entry {
		return api.Entry{Path: path, Kind: api.KindFile, Size: len(data), Data: data}
	}
	all := append(slices.Clone(half), half...)
	check(t, "all in one", []api.Entry{sized("a", all)}, 0, api.OK)
	check(t, "all in two", []api.Entry{sized("a", half), sized("b", half), file("c")}, 0, api.OK)
	check(t, "one byte more", []api.Entry{sized("a", half), sized("b", half), file("c", 0)}, 0, api.ErrLong)
	check(t, "one byte more in one", []api.Entry{file("b"), sized("a", append(slices.Clone(all), 1))}, 0, api.ErrLong)
	check(t, "more than it may be many times", slices.Repeat([]api.Entry{sized("a", all)}, 1000), 0, api.ErrLong)
	check(t, "long, with faults", []api.Entry{{}, file("/"), sized("a", all), sized("a", all)}, 0, api.ErrLong)
	check(t, "many, long", append(many(16384), sized("x", append(slices.Clone(all), 1))), 0, api.ErrMany)
	check(t, "long, of a size that is too small", []api.Entry{{Path: "a", Kind: api.KindFile, Data: append(slices.Clone(all), 1)}}, 0, api.ErrLong)
	for _, x := range append(plain("x"), further("x", "a"), api.Entry{Path: "x", Kind: 7}) {
		x.Data = all
		want, place := api.OK, 0
		switch x.Kind {
		case api.KindFile:
			continue
		case 7:
			want, place = api.ErrKind, 1
		}
		check(t, fmt.Sprint("Data that does not count, of kind ", x.Kind), []api.Entry{file("a", 1), x}, place, want)
	}
}

func TestCheckByHand(t *testing.T) {
	d := thrown(1101)
	told := map[api.Errno]int{}
	for range 60000 {
		l := d.entries(7, 1+d.Intn(60))
		wantAt, want := checkByHand(l)
		if place, e := tree.Check(l); place != wantAt || e != want {
			t.Fatalf("Check(%s): %d %d, not %d %d", short(l), place, e, wantAt, want)
		}
		told[want]++
	}
	for _, e := range []api.Errno{api.OK, api.ErrArg, api.ErrNone, api.ErrForm, api.ErrKind, api.ErrTwice, api.ErrLong} {
		if told[e] < 100 {
			t.Errorf("error %d came but %d times", e, told[e])
		}
	}
}
