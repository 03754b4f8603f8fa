package name_test

import (
	"bytes"
	"cmp"
	"fmt"
	"math/rand"
	"slices"
	"strings"
	"testing"

	"portmanteau/api"
	"portmanteau/name"
)

// most is how many parts a path has at most.
const most = 128

// text is one of n bytes.
func text(n int) string {
	return strings.Repeat("a", n)
}

// times is n times the same part.
func times(n int, s string) []string {
	l := make([]string, n)
	for i := range l {
		l[i] = s
	}
	return l
}

// row is some lists one behind the other.
func row(all ...[]string) []string {
	return slices.Concat(all...)
}

// long is n parts that are names, whose path has size bytes.
func long(n, size int) []string {
	left := size - (n - 1) // but the slashes
	l := make([]string, n)
	for i := range l {
		k := min(255, left-(n-1-i)) // one byte at least for each that comes behind
		l[i] = text(k)
		left -= k
	}
	return l
}

// texts is all texts of at most n letters of an alphabet.
func texts(alphabet []string, n int) []string {
	all := []string{""}
	last := all
	for range n {
		var next []string
		for _, s := range last {
			for _, c := range alphabet {
				next = append(next, s+c)
			}
		}
		all = append(all, next...)
		last = next
	}
	return all
}

// lists is all lists of at most n parts of some.
func lists(parts []string, n int) [][]string {
	all := [][]string{nil}
	last := all
	for range n {
		var next [][]string
		for _, l := range last {
			for _, s := range parts {
				next = append(next, append(slices.Clone(l), s))
			}
		}
		all = append(all, next...)
		last = next
	}
	return all
}

// short is what is told of a path or of a list in a test.
func short(x any) string {
	s := fmt.Sprintf("%+q", x)
	if len(s) > 60 {
		s = s[:30] + ".." + s[len(s)-28:]
	}
	return s
}

// split holds what Split tells of a path.
func split(t *testing.T, path string, want []string) {
	t.Helper()
	if l, e := name.Split(path); !slices.Equal(l, want) || e != api.OK {
		t.Errorf("Split(%s): %s %d, not %s", short(path), short(l), e, short(want))
	}
}

// noSplit holds which error Split tells of a path.
func noSplit(t *testing.T, path string, want api.Errno) {
	t.Helper()
	if l, e := name.Split(path); len(l) != 0 || e != want {
		t.Errorf("Split(%s), of %d bytes: %s %d, not error %d", short(path), len(path), short(l), e, want)
	}
}

// join holds what Join tells of a list.
func join(t *testing.T, l []string, want string) {
	t.Helper()
	if s, e := name.Join(l); s != want || e != api.OK {
		t.Errorf("Join(%s): %s %d, not %s", short(l), short(s), e, short(want))
	}
}

// noJoin holds which error Join tells of a list.
func noJoin(t *testing.T, l []string, want api.Errno) {
	t.Helper()
	if s, e := name.Join(l); s != "" || e != want {
		t.Errorf("Join(%s), of %d parts: %s %d, not error %d", short(l), len(l), short(s), e, want)
	}
}

// P10.1: Valid

// validByHand says what the chapter says of names, by another hand than the program's.
func validByHand(s string) bool {
	return len(s) >= 1 && len(s) <= 255 && !strings.ContainsAny(s, "/\x00") && s != "." && s != ".."
}

func TestValid(t *testing.T) {
	for _, s := range []string{"a", "...", "....", ".a", "a.", "..a", "a..", "a.b", ". ", " ", "a b", "\n", "\\", "*", "~", "\x01", "\x7f", "\x80", "\xff", "\xc3\xa4", "\xc3", text(254), text(255), strings.Repeat(".", 255), strings.Repeat("\xff", 255)} {
		if !name.Valid(s) {
			t.Errorf("%s is a name", short(s))
		}
	}
	for _, s := range []string{"", ".", "..", "/", "//", "/a", "a/", "a/b", "./", "../", "..\x00", "\x00", "\x00a", "a\x00", "a\x00b", "a/\x00", text(256), text(257), text(4096), text(1 << 20), strings.Repeat(".", 256), strings.Repeat("\xc3\xa4", 128), text(254) + "/", text(254) + "\x00", "/" + text(254), "\x00" + text(254)} {
		if name.Valid(s) {
			t.Errorf("%s is no name", short(s))
		}
	}
}

func TestValidEachByte(t *testing.T) {
	for b := range 256 {
		for _, size := range []int{1, 2, 3, 9, 255} {
			for at := range size {
				s := []byte(text(size))
				s[at] = byte(b)
				if got := name.Valid(string(s)); got != validByHand(string(s)) {
					t.Errorf("byte %d at %d of %d: %v", b, at, size, got)
				}
			}
		}
	}
}

func TestValidAllShort(t *testing.T) {
	for _, s := range texts([]string{"a", ".", "/", "\x00", "\xff"}, 6) {
		if got := name.Valid(s); got != validByHand(s) {
			t.Errorf("%q: %v", s, got)
		}
	}
}

// P10.1: Split

func TestSplit(t *testing.T) {
	split(t, "/a//b/./..", []string{"a", "b", ".."}) // the chapter's example
	for path, want := range map[string][]string{
		"":                nil,
		"/":               nil,
		"//":              nil,
		".":               nil,
		"./":              nil,
		"/.":              nil,
		"././/.":          nil,
		"a":               {"a"},
		"/a":              {"a"},
		"a/":              {"a"},
		"//a//":           {"a"},
		"a/b":             {"a", "b"},
		"b/a":             {"b", "a"},
		"a/a/a":           {"a", "a", "a"},
		"./a/./b/.":       {"a", "b"},
		"..":              {".."},
		"/..":             {".."},
		"../..":           {"..", ".."},
		"a/../b":          {"a", "..", "b"},
		"...":             {"..."},
		".../....":        {"...", "...."},
		".a/a./..a/a..":   {".a", "a.", "..a", "a.."},
		" / ":             {" ", " "},
		"a\\b":            {"a\\b"},
		"\xff/\x80/\x01":  {"\xff", "\x80", "\x01"},
		"\xc3\xa4/\xc3/b": {"\xc3\xa4", "\xc3", "b"},
	} {
		split(t, path, want)
	}
}

// splitByHand is what a path without errors is split into, by another hand than the program's.
func splitByHand(path string) []string {
	return slices.DeleteFunc(strings.Split(path, "/"), func(s string) bool { return s == "" || s == "." })
}

func TestSplitAllShort(t *testing.T) {
	for _, path := range texts([]string{"a", ".", "/", "\x00", "\xff"}, 7) {
		if strings.Contains(path, "\x00") {
			noSplit(t, path, api.ErrForm)
		} else {
			split(t, path, splitByHand(path))
		}
	}
}

func TestSplitLength(t *testing.T) {
	split(t, strings.Repeat("/", 4095), nil)
	split(t, strings.Repeat("/", 4096), nil)
	split(t, strings.Repeat("./", 2048), nil)
	split(t, strings.Repeat("/", 4095)+"a", []string{"a"})
	split(t, strings.Repeat(text(255)+"/", 16), times(16, text(255)))
	split(t, strings.Repeat("/"+text(255), 16), times(16, text(255)))
	noSplit(t, strings.Repeat("/", 4097), api.ErrLong)
	noSplit(t, strings.Repeat("./", 2048)+".", api.ErrLong)
	noSplit(t, strings.Repeat(text(255)+"/", 16)+"/", api.ErrLong)
	noSplit(t, "/"+strings.Repeat("/"+text(255), 16), api.ErrLong)
	noSplit(t, strings.Repeat("/", 1<<20), api.ErrLong)
}

func TestSplitZero(t *testing.T) {
	for _, path := range []string{"\x00", "a\x00", "\x00a", "/\x00", "\x00/", "a/\x00/b", "a/b\x00", "./\x00", ".\x00", "..\x00", strings.Repeat("/", 4095) + "\x00", "\x00" + strings.Repeat("/", 4095)} {
		noSplit(t, path, api.ErrForm)
	}
}

func TestSplitLongPart(t *testing.T) {
	for _, s := range []string{text(254), text(255), strings.Repeat(".", 255), strings.Repeat("\xff", 255)} {
		split(t, s, []string{s})
		split(t, "/b/"+s+"/c", []string{"b", s, "c"})
	}
	for _, s := range []string{text(256), text(257), text(4000), strings.Repeat(".", 256), strings.Repeat("\xc3\xa4", 128)} {
		for _, path := range []string{s, "/" + s, s + "/", "b/" + s, s + "/b", "b/" + s + "/c/d", s + "/" + text(1) + "/.."} {
			noSplit(t, path, api.ErrArg)
		}
	}
}

func TestSplitMany(t *testing.T) {
	for _, s := range []string{"a", "..", text(20)} {
		for _, between := range []string{"/", "//", "/./", "/././/"} {
			path := strings.Join(times(most, s), between)
			split(t, path, times(most, s))
			split(t, "/"+path+"/", times(most, s))
			noSplit(t, path+"/b", api.ErrMany)
			noSplit(t, "b/"+path, api.ErrMany)
		}
	}
	split(t, strings.Repeat("a/", 127), times(127, "a"))
	noSplit(t, strings.Repeat("a/", 2048), api.ErrMany)
	noSplit(t, strings.Repeat("../", 1365), api.ErrMany)
}

func TestSplitFirstError(t *testing.T) {
	for _, path := range []string{
		"\x00" + text(4096),                              // long, a 0, a long part
		text(4096) + "\x00",                              //
		text(4097),                                       // long, a long part
		strings.Repeat("a/", 2049),                       // long, many
		strings.Repeat("\x00/", 2049),                    // long, a 0, many
		strings.Repeat("a/", 2000) + text(300) + "\x00/", // all
	} {
		noSplit(t, path, api.ErrLong)
	}
	for _, path := range []string{
		text(256) + "\x00", "\x00" + text(256), text(256) + "/\x00", "\x00/" + text(256), // a 0, a long part
		strings.Repeat("a/", 129) + "\x00", "\x00/" + strings.Repeat("a/", 129), strings.Repeat("\x00/", 129), // a 0, many
		strings.Repeat("a/", 200) + text(256) + "/\x00", "\x00/" + text(256) + strings.Repeat("/a", 200), // a 0, a long part, many
	} {
		noSplit(t, path, api.ErrForm)
	}
	for _, at := range []int{0, 1, 127, 128, 129, 130, 1000} { // a long part, many: wherever the long one stands
		noSplit(t, strings.Repeat("a/", at)+text(256)+strings.Repeat("/b", 1000-at), api.ErrArg)
	}
}

// P10.1: Join

func TestJoin(t *testing.T) {
	join(t, nil, "")
	join(t, []string{}, "")
	join(t, []string{"a"}, "a")
	join(t, []string{"a", "b"}, "a/b")
	join(t, []string{"b", "a", "a"}, "b/a/a")
	join(t, []string{".."}, "..")
	join(t, []string{"..", "..", "x"}, "../../x")
	join(t, []string{"a", "..", "b"}, "a/../b")
	join(t, []string{"...", ".a", "a.", "a.."}, ".../.a/a./a..")
	join(t, []string{" ", "\\", "\xff\x80", "\x01"}, " /\\/\xff\x80/\x01")
	join(t, []string{text(255), strings.Repeat(".", 255)}, text(255)+"/"+strings.Repeat(".", 255))
}

func TestJoinMany(t *testing.T) {
	for _, s := range []string{"a", "..", text(20)} {
		join(t, times(127, s), strings.Repeat(s+"/", 126)+s)
		join(t, times(most, s), strings.Repeat(s+"/", 127)+s)
		noJoin(t, times(129, s), api.ErrMany)
		noJoin(t, times(130, s), api.ErrMany)
		noJoin(t, times(1<<16, s), api.ErrMany)
	}
}

func TestJoinWrongPart(t *testing.T) {
	for _, s := range []string{"", ".", "/", "//", "a/", "/a", "a/b", "../", "../..", "./", "\x00", "a\x00", "\x00a", "..\x00", text(256), text(257), text(4097), text(1 << 20), strings.Repeat(".", 256)} {
		noJoin(t, []string{s}, api.ErrArg)
		noJoin(t, []string{s, "a"}, api.ErrArg)
		noJoin(t, []string{"a", s}, api.ErrArg)
		noJoin(t, []string{"..", s, "a", s}, api.ErrArg)
		noJoin(t, row(times(127, "a"), []string{s}), api.ErrArg)
	}
}

func TestJoinLength(t *testing.T) {
	join(t, times(16, text(255)), strings.Repeat(text(255)+"/", 15)+text(255)) // 4095 bytes
	for n := 17; n <= most; n++ {
		for _, size := range []int{4095, 4096} {
			l := long(n, size)
			s, e := name.Join(l)
			if len(s) != size || s != strings.Join(l, "/") || e != api.OK {
				t.Errorf("%d parts of %d bytes in all: %d bytes, error %d", n, size, len(s), e)
			}
		}
		noJoin(t, long(n, 4097), api.ErrLong)
		noJoin(t, long(n, 4098), api.ErrLong)
	}
	noJoin(t, times(most, text(255)), api.ErrLong)
}

func TestJoinFirstError(t *testing.T) {
	for _, s := range []string{"", ".", "a/b", "a\x00", text(256), text(5000)} {
		for _, at := range []int{0, 1, 127, 128} { // many, a wrong part
			noJoin(t, slices.Insert(times(128, "a"), at, s), api.ErrMany)
		}
		for _, at := range []int{0, 1, 16, 17, 18, 100, 127} { // a wrong part, long: wherever the wrong one stands
			noJoin(t, slices.Insert(times(127, text(255)), at, s), api.ErrArg)
		}
		noJoin(t, row([]string{s}, times(200, text(255)), []string{s}), api.ErrMany) // all
	}
	noJoin(t, times(129, text(255)), api.ErrMany) // many, long
	noJoin(t, times(17, text(256)), api.ErrArg)   // a wrong part, long
}

// P10.1: Absolute

func TestAbsolute(t *testing.T) {
	for _, path := range []string{"/", "//", "/a", "/..", "/.", "/\x00", "/a/b/", "/" + text(5000), strings.Repeat("/", 4097)} {
		if !name.Absolute(path) {
			t.Errorf("%s begins at the root", short(path))
		}
	}
	for _, path := range []string{"", "a", "a/", "a/b", ".", "./", "./a", "../", "..", " /", "\\", "\x00/", "\xff/", text(5000) + "/"} {
		if name.Absolute(path) {
			t.Errorf("%s does not begin at the root", short(path))
		}
	}
	for b := range 256 {
		for _, rest := range []string{"", "a", "/"} {
			if got := name.Absolute(string([]byte{byte(b)}) + rest); got != (b == '/') {
				t.Errorf("byte %d ahead of %q: %v", b, rest, got)
			}
		}
	}
}

// P10.2

// order holds what Order tells of two lists, both ways.
func order(t *testing.T, a, b []string, want int) {
	t.Helper()
	if got := name.Order(a, b); got != want {
		t.Errorf("Order(%s, %s) = %d, not %d", short(a), short(b), got, want)
	}
	if got := name.Order(b, a); got != -want {
		t.Errorf("Order(%s, %s) = %d, not %d", short(b), short(a), got, -want)
	}
}

func TestOrder(t *testing.T) {
	order(t, []string{"a"}, []string{"a", "b"}, -1) // the chapter's example
	order(t, nil, nil, 0)
	order(t, nil, []string{}, 0)
	order(t, nil, []string{"a"}, -1)
	order(t, nil, []string{""}, -1)
	order(t, []string{"a", "b"}, []string{"a", "b"}, 0)
	order(t, []string{"a"}, []string{"b"}, -1)
	order(t, []string{"b"}, []string{"a", "b", "c"}, 1)    // the first two that differ, not how many there are
	order(t, []string{"a", "z"}, []string{"b", "a"}, -1)   // the first two that differ, not those behind them
	order(t, []string{"a", "b"}, []string{"a", "c"}, -1)   //
	order(t, []string{"a"}, []string{"aa"}, -1)            // the one that ends first
	order(t, []string{"a", "z"}, []string{"aa", "a"}, -1)  //
	order(t, []string{"b"}, []string{"aa"}, 1)             // not by length
	order(t, []string{"a", "b"}, []string{"a.b"}, -1)      // not as texts with slashes
	order(t, []string{"a", "b"}, []string{"a b"}, -1)      //
	order(t, []string{"a", "b"}, []string{"a/a"}, -1)      //
	order(t, []string{"a", "bc"}, []string{"ab", "c"}, -1) // not as what is written without slashes
	order(t, []string{"B"}, []string{"a"}, -1)
	order(t, []string{"10"}, []string{"9"}, -1)
	order(t, []string{"", "b"}, []string{"a"}, -1)
	order(t, []string{""}, []string{"", ""}, -1)
	order(t, []string{".."}, []string{"a"}, -1)
	order(t, []string{"a"}, []string{"a\x00"}, -1)
	order(t, []string{text(5000)}, []string{text(5001)}, -1)
	order(t, times(300, "a"), times(301, "a"), -1)
	order(t, row(times(300, "a"), []string{"b"}), times(302, "a"), 1)
}

func TestOrderBytesAbove127(t *testing.T) {
	for a := range 256 {
		for b := range 256 {
			want := cmp.Compare(a, b)
			x, y := string([]byte{byte(a)}), string([]byte{byte(b)})
			order(t, []string{x}, []string{y}, want)
			order(t, []string{"p", "q" + x}, []string{"p", "q" + y, "r"}, cmp.Or(want, -1))
		}
	}
	order(t, []string{"z"}, []string{"\xc3\xa4"}, -1)
	order(t, []string{"\xef\xbf\xbd"}, []string{"\xff"}, -1) // not as runes, of which a wrong one would count as the first text
	order(t, []string{"\xf0\x90\x80\x80"}, []string{"\xef\xbf\xbd"}, 1)
	order(t, []string{"\xc3"}, []string{"\xc3\xa4"}, -1)
}

// orderByHand is the order of two lists, by another hand than the program's.
func orderByHand(a, b []string) int {
	for i := 0; i < len(a) && i < len(b); i++ {
		if c := bytes.Compare([]byte(a[i]), []byte(b[i])); c != 0 {
			return c
		}
	}
	return cmp.Compare(len(a), len(b))
}

// somePaths is lists of up to three parts, some of them the heads of others, names or not.
func somePaths() [][]string {
	return lists([]string{"", "..", "a", "a.", "aa", "b", "\x7f", "\x80", "\xff"}, 3)
}

func TestOrderAllShort(t *testing.T) {
	for _, a := range somePaths() {
		for _, b := range somePaths() {
			if got := name.Order(a, b); got != orderByHand(a, b) {
				t.Fatalf("Order(%q, %q) = %d", a, b, got)
			}
		}
	}
}

// P10.3

// back holds that what is joined is split into the same parts, with a slash ahead too where there is room for it.
func back(t *testing.T, l []string) {
	t.Helper()
	path, e := name.Join(l)
	if e != api.OK {
		t.Fatalf("Join(%s): %d", short(l), e)
	}
	split(t, path, l)
	if len(path) < api.MaxPath {
		split(t, "/"+path, l)
	}
	if name.Absolute(path) {
		t.Errorf("Join(%s) begins at the root", short(l))
	}
}

func TestJoinedIsSplit(t *testing.T) {
	for _, l := range lists([]string{"a", "..", "...", ".a", "b.", "\xff", " "}, 4) {
		back(t, l)
	}
	back(t, []string{text(255)})
	back(t, times(16, text(255)))
	back(t, times(most, ".."))
	for n := 17; n <= most; n++ {
		back(t, long(n, 4096))
	}
}

// Of any lists at all: where Join tells no error, Split tells the list.
func TestJoinedIsSplitAnyParts(t *testing.T) {
	went := 0
	for _, l := range lists(texts([]string{"a", ".", "/", "\x00"}, 2), 3) {
		path, e := name.Join(l)
		right := !slices.ContainsFunc(l, func(s string) bool { return s != ".." && !validByHand(s) })
		if right != (e == api.OK) {
			t.Errorf("Join(%q): error %d", l, e)
		}
		if e == api.OK {
			went++
			split(t, path, l)
		}
	}
	if went == 0 {
		t.Error("no list was joined")
	}
}

// An order by which a sorted row is sorted also between each two that are not neighbours is a total one.
func TestOrderTotal(t *testing.T) {
	all := somePaths()
	r := rand.New(rand.NewSource(10))
	r.Shuffle(len(all), func(i, j int) { all[i], all[j] = all[j], all[i] })
	slices.SortFunc(all, name.Order)
	for i, a := range all {
		for j, b := range all {
			if got := name.Order(a, b); got != cmp.Compare(i, j) {
				t.Fatalf("%q stands at %d, %q at %d: %d", a, i, b, j, got)
			}
		}
	}
}

func TestFoldersAhead(t *testing.T) {
	all := lists([]string{"a", "a!", "a.b", "ab", "\xff"}, 4)
	r := rand.New(rand.NewSource(11))
	for range 5 {
		r.Shuffle(len(all), func(i, j int) { all[i], all[j] = all[j], all[i] })
		slices.SortFunc(all, name.Order)
		seen := map[string]bool{}
		for _, l := range all {
			if len(l) > 0 && !seen[strings.Join(l[:len(l)-1], "/")] {
				t.Fatalf("%q ahead of its folder", l)
			}
			seen[strings.Join(l, "/")] = true
		}
	}
}

// Rules that hold everywhere

// withRoom is a copy of l that has spare room, whose texts are all "room".
func withRoom(l []string) []string {
	return row(l, times(20, "room"))[:len(l)]
}

func TestNothingHandedInIsChanged(t *testing.T) {
	for _, was := range [][]string{nil, {"a"}, {"b", "a", ".."}, {"a", ""}, times(129, "a"), times(100, text(255))} {
		a, b := withRoom(was), withRoom(was)
		name.Join(a)
		name.Order(a, b)
		name.Order(a, []string{"a", "a"})
		for _, l := range [][]string{a, b} {
			if !slices.Equal(l[:cap(l)][:len(was)+20], row(was, times(20, "room"))) {
				t.Errorf("%s was changed", short(was))
			}
		}
	}
}

func TestAnswersShareNothing(t *testing.T) {
	a, _ := name.Split("a/b/c/d/e")
	b, _ := name.Split("a/b/c/d/e")
	for l := a[:cap(a)]; len(l) > 0; l = l[1:] {
		l[0] = "x"
	}
	c, _ := name.Split("a/b/c/d/e")
	for _, l := range [][]string{b, c} {
		if !slices.Equal(l, []string{"a", "b", "c", "d", "e"}) {
			t.Errorf("%q shares with another answer", l)
		}
	}
}
