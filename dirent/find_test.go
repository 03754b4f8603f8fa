package dirent_test

import (
	"fmt"
	"math"
	"math/rand"
	"strings"
	"testing"

	"portmanteau/api"
	"portmanteau/dirent"
)

// P16.2: Find

// isFound asks for a name that is there, notFound for one that isn't.
func isFound(t *testing.T, l []api.Kid, name string, want int) {
	t.Helper()
	if ino, ok := dirent.Find(l, name); ino != want || !ok {
		t.Errorf("%.40q in %s: %d %t, not %d", name, short(l), ino, ok, want)
	}
}

func notFound(t *testing.T, l []api.Kid, name string) {
	t.Helper()
	if ino, ok := dirent.Find(l, name); ino != 0 || ok {
		t.Errorf("%.40q in %s: %d %t", name, short(l), ino, ok)
	}
}

func TestFindExample(t *testing.T) {
	l := []api.Kid{{Name: "a", Ino: 5}, {Name: "b", Ino: 7}, {Name: "c", Ino: 2}}
	isFound(t, l, "a", 5)
	isFound(t, l, "b", 7)
	isFound(t, l, "c", 2)
	for _, s := range []string{"", "x", "A", "aa", "ab", "`", "\x00", "a\x00", "bb", "b ", "c\x01", "d", "\xff", "/", "a/", ".", "..", strings.Repeat("a", 300)} {
		notFound(t, l, s)
	}
}

// TestFindEach asks for each name of right lists, and for names about each of them.
func TestFindEach(t *testing.T) {
	for _, l := range someRight() {
		there := map[string]int{}
		for _, k := range l {
			there[k.Name] = k.Ino
		}
		for i, k := range l {
			if i > 40 && i < len(l)-40 && i%17 != 0 {
				continue
			}
			isFound(t, l, k.Name, k.Ino)
			for _, s := range []string{k.Name + "\x00", k.Name + "x", k.Name[:len(k.Name)-1], "x" + k.Name, strings.ToUpper(k.Name)} {
				if ino, ok := there[s]; ok {
					isFound(t, l, s, ino)
				} else {
					notFound(t, l, s)
				}
			}
		}
		for _, s := range []string{"", "\x00", "\xff\xff\xff", "a9999"} {
			notFound(t, l, s)
		}
	}
}

func TestFindInNothing(t *testing.T) {
	for _, l := range [][]api.Kid{nil, {}, make([]api.Kid, 0, 3)} {
		for _, s := range []string{"", "a", "changed"} {
			notFound(t, l, s)
		}
	}
}

// TestFindBehindTheEnd looks for a name that stands in spare room.
func TestFindBehindTheEnd(t *testing.T) {
	l := named("a", "b", "c")
	notFound(t, l[:2], "c")
	notFound(t, l[:0], "a")
	notFound(t, l[1:], "a")
}

// TestFindTheFirst has names twice, lists out of order, names that are no names and Inos that are none.
func TestFindTheFirst(t *testing.T) {
	isFound(t, []api.Kid{{Name: "a", Ino: 1}, {Name: "a", Ino: 2}}, "a", 1)
	isFound(t, []api.Kid{{Name: "a", Ino: 1}, {Name: "b", Ino: 2}, {Name: "b", Ino: 3}, {Name: "b", Ino: 4}, {Name: "c", Ino: 5}}, "b", 2)
	isFound(t, []api.Kid{{Name: "b", Ino: 1}, {Name: "a", Ino: 2}, {Name: "b", Ino: 3}, {Name: "a", Ino: 4}, {Name: "c", Ino: 5}}, "a", 2)
	isFound(t, []api.Kid{{Name: "b", Ino: 1}, {Name: "a", Ino: 2}, {Name: "b", Ino: 3}, {Name: "a", Ino: 4}, {Name: "c", Ino: 5}}, "b", 1)
	isFound(t, []api.Kid{{Name: "z", Ino: 0}, {Name: "y", Ino: 1}, {Name: "x", Ino: 2}, {Name: "w", Ino: 3}}, "z", 0)
	isFound(t, []api.Kid{{Name: "z", Ino: 0}, {Name: "y", Ino: 1}, {Name: "x", Ino: 2}, {Name: "w", Ino: 3}}, "w", 3)
	isFound(t, []api.Kid{{Name: "", Ino: 4}, {Name: "/", Ino: 5}, {Name: "\x00", Ino: 6}, {Name: "", Ino: 7}}, "", 4)
	isFound(t, []api.Kid{{Name: "", Ino: 4}, {Name: "/", Ino: 5}, {Name: "\x00", Ino: 6}, {Name: "", Ino: 7}}, "\x00", 6)
	isFound(t, []api.Kid{{Name: "a", Ino: -1}, {Name: "a", Ino: 2}}, "a", -1)
	isFound(t, []api.Kid{{Name: "a", Ino: math.MaxInt}, {Name: "b", Ino: math.MinInt}}, "a", math.MaxInt)
	isFound(t, []api.Kid{{Name: "a", Ino: math.MaxInt}, {Name: "b", Ino: math.MinInt}}, "b", math.MinInt)
	for n := 1; n < 20; n++ { // all the same name
		var l []api.Kid
		for i := range n {
			l = append(l, api.Kid{Name: "a", Ino: 100 + i})
		}
		isFound(t, l, "a", 100)
	}
}

func TestFindInAnyList(t *testing.T) {
	random := rand.New(rand.NewSource(162))
	for range 5000 {
		var l []api.Kid
		first := map[string]int{}
		for i := range random.Intn(12) {
			s := fmt.Sprint(random.Intn(15))
			l = append(l, api.Kid{Name: s, Ino: i + 1})
			if first[s] == 0 {
				first[s] = i + 1
			}
		}
		for i := range 15 {
			if s := fmt.Sprint(i); first[s] > 0 {
				isFound(t, l, s, first[s])
			} else {
				notFound(t, l, s)
			}
		}
	}
}
