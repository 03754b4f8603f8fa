package dirent_test

import (
	"math"
	"math/rand"
	"slices"
	"strings"
	"testing"

	"portmanteau/api"
	"portmanteau/dirent"
)

// P16.1: Check, and that Encode refuses what it refuses

func TestRight(t *testing.T) {
	for _, l := range someRight() {
		isRight(t, l)
	}
}

// TestEachPlace lays something wrong at each place of lists that are right else.
func TestEachPlace(t *testing.T) {
	wrong := []func(k *api.Kid){
		func(k *api.Kid) { k.Name = "" },
		func(k *api.Kid) { k.Name += "/" },
		func(k *api.Kid) { k.Name += "\x00" },
		func(k *api.Kid) { k.Name += strings.Repeat("x", maxName) },
		func(k *api.Kid) { k.Ino = -1 },
		func(k *api.Kid) { k.Ino = maxEntries + 1 },
	}
	for _, n := range []int{1, 2, 3, 257} {
		for at := range n {
			for _, change := range wrong {
				l := rising(n)
				change(&l[at])
				isWrong(t, l)
			}
		}
	}
}

func TestNames(t *testing.T) {
	for _, s := range []string{"a", "\x01", " ", "...", "..a", ".a", "a.", "\\", "\xff", "\xc3", "ä", strings.Repeat("x", maxName-1), strings.Repeat("x", maxName), strings.Repeat("ä", maxName/2)} {
		isRight(t, []api.Kid{{Name: s, Ino: 1}})
	}
	for _, s := range []string{"", ".", "..", "/", "a/", "/a", "a/b", "\x00", "a\x00", "\x00a", "a\x00b", strings.Repeat("x", maxName+1), strings.Repeat("ä", maxName/2+1), strings.Repeat("x", 256+1), strings.Repeat("x", 65536+1)} {
		isWrong(t, []api.Kid{{Name: s, Ino: 1}})
	}
}

// TestEachByteOfNames has each byte in names of one and of three.
func TestEachByteOfNames(t *testing.T) {
	for c := range 256 {
		for _, s := range []string{string([]byte{byte(c)}), string([]byte{'a', byte(c), 'b'})} {
			l := []api.Kid{{Name: s, Ino: 1}}
			if c == 0 || c == '/' || s == "." {
				isWrong(t, l)
			} else {
				isRight(t, l)
			}
		}
	}
}

// TestDotsAmongOthers has "." and ".." where their order is right.
func TestDotsAmongOthers(t *testing.T) {
	isWrong(t, named("!", ".", "a"))
	isWrong(t, named("!", "..", "a"))
	isWrong(t, named(".", "..", "..."))
	isRight(t, named("!", "...", "a"))
}

func TestInos(t *testing.T) {
	for _, ino := range []int{0, 1, 255, 256, maxEntries - 1, maxEntries} {
		isRight(t, kids(ino))
		isRight(t, kids(0, ino))
		isRight(t, kids(ino, 0))
		isRight(t, kids(maxEntries, ino))
	}
	for _, ino := range []int{-1, -2, -256, -65536, -1 << 32, math.MinInt, maxEntries + 1, maxEntries + 2, 32768, 65535, 65536, 1 << 32, 1<<32 + 1, math.MaxInt} {
		isWrong(t, kids(ino))
		isWrong(t, kids(0, ino))
		isWrong(t, kids(ino, 0))
		isWrong(t, kids(maxEntries, ino))
	}
}

func TestOrder(t *testing.T) {
	for _, l := range [][]string{
		{"a", "b"}, {"a", "aa"}, {"a", "a\x01"}, {"a!", "aa"}, {"A", "a"}, {"z", "ä"}, {"\x7f", "\x80"}, {"\xfe", "\xff"},
		{"ab", "b"}, {"10", "9"}, {"a", "a b", "a-b", "a.b", "aa"}, {"\uffff", "\U00010000"}, {"\xed", "\xee\x80\x80", "\xef\xbf\xbf", "\xf0\x90\x80\x80"},
	} {
		isRight(t, named(l...))
		back := slices.Clone(l)
		slices.Reverse(back)
		isWrong(t, named(back...))
	}
	long := strings.Repeat("x", maxName-1)
	isRight(t, named(long+"a", long+"b"))
	isWrong(t, named(long+"b", long+"a"))
	isRight(t, named(long, long+"\x01"))
	isWrong(t, named(long+"\x01", long))
}

func TestTwice(t *testing.T) {
	isWrong(t, named("a", "a"))
	isWrong(t, []api.Kid{{Name: "a", Ino: 1}, {Name: "a", Ino: 1}})
	isWrong(t, named("a", "b", "b"))
	isWrong(t, named("a", "b", "a"))
	isWrong(t, named("a", "a", "b"))
	long := strings.Repeat("x", maxName)
	isWrong(t, named(long, strings.Clone(long)))
}

// TestOneOutOfOrder moves one name of a list away, changes two, or has one twice, at each place; the rows' ends are among them.
func TestOneOutOfOrder(t *testing.T) {
	for _, n := range []int{2, 3, 10, 300} {
		for at := 1; at < n; at++ {
			l := rising(n)
			l[at-1].Name, l[at].Name = l[at].Name, l[at-1].Name
			isWrong(t, l)
			l = rising(n)
			l[at].Name = l[at-1].Name
			isWrong(t, l)
			l = falling(n)
			l[at].Name = l[at-1].Name
			isWrong(t, l)
		}
	}
}

// TestManyNames has lists that are longer than any folder.
func TestManyNames(t *testing.T) {
	for _, n := range []int{maxEntries, maxEntries + 1, 70000} {
		var l []api.Kid
		for i := range n {
			l = append(l, api.Kid{Name: string([]byte{'a', byte(1 + i/2500), byte(101 + i/50%50), byte(101 + i%50)}), Ino: i % (maxEntries + 1)})
		}
		isRight(t, l)
		l[n-1].Name = l[n-2].Name
		isWrong(t, l)
	}
}

// anyList is a list of any length, most often right but for few places.
func anyList(random *rand.Rand) []api.Kid {
	letters := []string{"a", "b", ".", "\x01", "\xff", "aa"}
	seen := map[string]bool{}
	var l []api.Kid
	for range random.Intn(12) {
		s := ""
		for range 1 + random.Intn(4) {
			s += letters[random.Intn(len(letters))]
		}
		if !seen[s] && s != "." && s != ".." {
			seen[s] = true
			l = append(l, api.Kid{Name: s, Ino: random.Intn(maxEntries+1) >> random.Intn(15)})
		}
	}
	slices.SortFunc(l, func(a, b api.Kid) int { return strings.Compare(a.Name, b.Name) })
	if len(l) == 0 || random.Intn(2) > 0 {
		return l
	}
	i, j := random.Intn(len(l)), random.Intn(len(l))
	switch random.Intn(5) {
	case 0:
		l[i], l[j] = l[j], l[i]
	case 1:
		l[i].Name = l[j].Name
	case 2:
		l[i].Ino = []int{-1, maxEntries + 1, 0, maxEntries}[random.Intn(4)]
	case 3:
		l[i].Name = []string{"", ".", "..", "/", "\x00"}[random.Intn(5)]
	case 4:
		l[i].Name = l[i].Name[:len(l[i].Name)-1]
	}
	return l
}

func TestAnyList(t *testing.T) {
	random := rand.New(rand.NewSource(161))
	count := map[api.Errno]int{}
	for range 20000 {
		l := anyList(random)
		e := checkByHand(l)
		count[e]++
		if e == api.OK {
			isRight(t, l)
		} else {
			isWrong(t, l)
		}
	}
	if count[api.OK] < 1000 || count[api.ErrArg] < 1000 {
		t.Error("the lists are too much alike:", count)
	}
}

// TestListsAreUnchanged asks whether all calls leave a list as it is handed in, its spare room too.
func TestListsAreUnchanged(t *testing.T) {
	for _, l := range append(someRight(), named("b", "a"), named("a", "/"), kids(1, -1)) {
		all := append(slices.Clone(l), api.Kid{Name: "spare", Ino: 3}, api.Kid{Name: "b", Ino: -9})
		was := slices.Clone(all)
		handed := all[:len(l)]
		dirent.Check(handed)
		dirent.Encode(handed)
		dirent.Find(handed, "a0001")
		dirent.Find(handed, "spare")
		if !slices.Equal(all, was) {
			t.Errorf("%s was changed", short(l))
		}
	}
}
