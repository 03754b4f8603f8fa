package table_test

import (
	"bytes"
	"encoding/hex"
	"math"
	"math/rand"
	"slices"
	"strings"
	"testing"

	"portmanteau/api"
	"portmanteau/table"
)

// P17.2

// isSetBytes asks whether a set has these bytes, and they this set.
func isSetBytes(t *testing.T, l []api.Attr, text string) {
	t.Helper()
	want, err := hex.DecodeString(strings.ReplaceAll(text, " ", ""))
	if err != nil {
		t.Fatal(err)
	}
	if b, e := table.EncodeAttrs(l); e != api.OK || !bytes.Equal(b, want) {
		t.Errorf("%s: %d, %x, not %x", short(l), e, b, want)
	}
	if m, next, e := table.DecodeAttrs(want, 0); e != api.OK || next != len(want) || !sameSet(m, l) {
		t.Errorf("%x: %d, %d, %s, not %s", want, e, next, short(m), short(l))
	}
}

func TestSetExample(t *testing.T) {
	isSetBytes(t, []api.Attr{{Name: "k", Value: []byte("v")}}, "01 00 01 6b 01 00 76")
}

// TestSetBytesByHand has bytes that are written out, so that both hands are asked.
func TestSetBytesByHand(t *testing.T) {
	isSetBytes(t, []api.Attr{{Name: "k"}}, "0100 01 6b 0000")
	isSetBytes(t, []api.Attr{{Name: "k", Value: []byte{0, 0}}, {Name: "lm", Value: []byte{255}}}, "0200 01 6b 0200 0000 02 6c6d 0100 ff")
	isSetBytes(t, []api.Attr{{Name: "k", Value: bytes.Repeat([]byte{9}, 300)}}, "0100 01 6b 2c01"+strings.Repeat("09", 300))
	isSetBytes(t, []api.Attr{{Name: "k", Value: make([]byte, maxValue)}}, "0100 01 6b 0010"+strings.Repeat("00", maxValue))
	isSetBytes(t, []api.Attr{{Name: strings.Repeat("\xff", maxName)}}, "0100 ff"+strings.Repeat("ff", maxName)+"0000")
	b, e := table.EncodeAttrs(numbered(maxAttrs))
	if e != api.OK || b[0] != 64 || b[1] != 0 {
		t.Error(e, b)
	}
}

func TestRightSets(t *testing.T) {
	for _, l := range someSets() {
		rightSet(t, l)
	}
	for n := 1; n <= maxAttrs; n++ {
		rightSet(t, numbered(n))
	}
	for _, n := range []int{0, 1, 2, 255, 256, 257, maxValue - 1, maxValue} {
		rightSet(t, []api.Attr{{Name: "a", Value: make([]byte, n)}, {Name: "b", Value: bytes.Repeat([]byte{255}, n)}})
	}
	for n := 1; n <= maxName; n++ {
		rightSet(t, set(strings.Repeat("n", n)))
	}
}

func TestCountOfSets(t *testing.T) {
	wrongSet(t, nil)
	wrongSet(t, []api.Attr{})
	long := func(n int) []api.Attr {
		var l []api.Attr
		for i := range n {
			l = append(l, api.Attr{Name: string([]byte{'k', byte(1 + i/250), byte(1 + i%250)})})
		}
		return l
	}
	rightSet(t, long(maxAttrs))
	for _, n := range []int{maxAttrs + 1, maxAttrs + 2, 128, 255, 256, 257, 256 + 1, 10000} {
		wrongSet(t, long(n))
	}
}

// TestEachPlaceInSets lays something wrong at each place of sets that are right else.
func TestEachPlaceInSets(t *testing.T) {
	wrong := []func(a *api.Attr){
		func(a *api.Attr) { a.Name = "" },
		func(a *api.Attr) { a.Name += "\x00" },
		func(a *api.Attr) { a.Name = a.Name[:1] + "\x00" + a.Name[1:] },
		func(a *api.Attr) { a.Name += strings.Repeat("x", maxName+1-len(a.Name)) },
		func(a *api.Attr) { a.Value = make([]byte, maxValue+1) },
		func(a *api.Attr) { a.Value = make([]byte, 65535) },
		func(a *api.Attr) { a.Value = make([]byte, 65536) },
	}
	for _, n := range []int{1, 2, 3, maxAttrs} {
		for at := range n {
			for _, change := range wrong {
				l := numbered(n)
				change(&l[at])
				wrongSet(t, l)
			}
		}
	}
}

func TestNamesOfSets(t *testing.T) {
	for _, s := range []string{"a", "\x01", " ", "/", "a/b", ".", "..", "\xff", "\xc3", "ä", strings.Repeat("x", maxName), strings.Repeat("ä", maxName/2)} {
		rightSet(t, set(s))
	}
	for _, s := range []string{"", "\x00", "a\x00", "\x00a", "a\x00b", strings.Repeat("x", maxName-1) + "\x00", strings.Repeat("x", maxName+1), strings.Repeat("ä", maxName/2+1), strings.Repeat("x", 257), strings.Repeat("x", 512)} {
		wrongSet(t, set(s))
	}
	for c := range 256 {
		for _, s := range []string{string([]byte{byte(c)}), string([]byte{'a', byte(c), 'b'})} {
			if c == 0 {
				wrongSet(t, set(s))
			} else {
				rightSet(t, set(s))
			}
		}
	}
}

func TestOrderOfSets(t *testing.T) {
	long := strings.Repeat("x", maxName-1)
	for _, l := range [][]string{
		{"a", "b"}, {"a", "aa"}, {"a", "a\x01"}, {"a!", "aa"}, {"A", "a"}, {"z", "ä"}, {"\x7f", "\x80"}, {"\xfe", "\xff"},
		{"ab", "b"}, {"10", "9"}, {"a", "a b", "a-b", "a.b", "aa"}, {"\uffff", "\U00010000"}, {long + "a", long + "b"}, {long, long + "\x01"},
	} {
		rightSet(t, set(l...))
		back := slices.Clone(l)
		slices.Reverse(back)
		wrongSet(t, set(back...))
	}
	for _, l := range [][]string{{"a", "a"}, {"a", "b", "b"}, {"a", "b", "a"}, {"a", "a", "b"}, {long, strings.Clone(long)}} {
		wrongSet(t, set(l...))
	}
	for at := 1; at < maxAttrs; at++ {
		l := numbered(maxAttrs)
		l[at-1], l[at] = l[at], l[at-1]
		wrongSet(t, l)
		l = numbered(maxAttrs)
		l[at].Name = l[at-1].Name
		wrongSet(t, l)
	}
}

func TestPlacesOfSets(t *testing.T) {
	one, two := set("a", "b"), set("c")
	ones, twos := setBytes(2, one), setBytes(1, two)
	b := slices.Concat([]byte{0}, ones, twos)
	if l, next, e := table.DecodeAttrs(b, 1); e != api.OK || next != 1+len(ones) || !sameSet(l, one) {
		t.Error(l, next, e)
	}
	if l, next, e := table.DecodeAttrs(b, 1+len(ones)); e != api.OK || next != len(b) || !sameSet(l, two) {
		t.Error(l, next, e)
	}
	formSet(t, b, 0)
	formSet(t, b, len(b))
	for at := range b {
		isSet(t, b, at)
	}
	for _, at := range []int{-1, -2, -len(b), math.MinInt, len(b) + 1, len(b) + 2, 1 << 32, 1<<32 + 1, math.MaxInt, math.MaxInt - 1} {
		if l, next, e := table.DecodeAttrs(b, at); e != api.ErrRange || next != 0 || len(l) != 0 {
			t.Error(at, l, next, e)
		}
	}
	room := append(slices.Clone(b), ones...) // spare room is not there
	if l, next, e := table.DecodeAttrs(room[:len(b)], len(b)); e != api.ErrForm || next != 0 || len(l) != 0 {
		t.Error(l, next, e)
	}
	if l, next, e := table.DecodeAttrs(room[:len(b)], len(b)+1); e != api.ErrRange || next != 0 || len(l) != 0 {
		t.Error(l, next, e)
	}
}

func TestNoBytes(t *testing.T) {
	for _, b := range [][]byte{nil, {}, make([]byte, 0, 100)} {
		for _, at := range []int{-1, 1, 2, math.MinInt, math.MaxInt} {
			if l, next, e := table.DecodeAttrs(b, at); e != api.ErrRange || next != 0 || len(l) != 0 {
				t.Error(at, l, next, e)
			}
		}
		formSet(t, b, 0)
	}
}

// TestSetsCutShort cuts bytes at every place (the longest ones at some in their middle).
func TestSetsCutShort(t *testing.T) {
	for _, l := range someSets() {
		b := setBytes(len(l), l)
		ahead := append([]byte("ahead"), b...)
		for cut := range b {
			if len(b) > 5000 && cut > 30 && cut < len(b)-30 && cut%4001 > 5 {
				continue
			}
			formSet(t, b[:cut], 0)
			formSet(t, bytes.Clone(b[:cut]), 0) // with no spare room that tells the rest
			formSet(t, ahead[:5+cut], 5)
		}
	}
}

// TestCounts lays each count on bytes of few attributes and many.
func TestCounts(t *testing.T) {
	for _, n := range []int{1, 2, 63, maxAttrs, maxAttrs + 1, 100} {
		l := numbered(n)
		for count := range 65536 {
			if count > 300 && count%251 > 0 && count%256 > 1 && count < 65500 {
				continue
			}
			b := setBytes(count, l)
			if right := isSet(t, b, 0); right != (count >= 1 && count <= min(n, maxAttrs)) {
				t.Error(n, count, right)
			}
		}
	}
	formSet(t, []byte{0, 0}, 0)
	formSet(t, []byte{0, 0, 1, 'k', 0, 0}, 0)
	formSet(t, []byte{0, 1, 1, 'k', 0, 0}, 0)
	formSet(t, append([]byte{255, 255}, make([]byte, 300000)...), 0)
}

// TestLongValues has Values that are longer than may be, and there.
func TestLongValues(t *testing.T) {
	for _, n := range []int{maxValue + 1, maxValue + 2, 8192, 65535} {
		for at := range 3 {
			l := set("a", "b", "c")
			l[at].Value = make([]byte, n)
			formSet(t, setBytes(3, l), 0)
			formSet(t, append(setBytes(3, l), make([]byte, 100000)...), 0)
		}
	}
}

// TestEachByteOfSets sets each byte of some sets' bytes to each value.
func TestEachByteOfSets(t *testing.T) {
	for _, l := range [][]api.Attr{set("k"), set("a", "b"), set("a", "aa", "b"), {{Name: "ab", Value: []byte("xyz")}, {Name: "abc"}}} {
		b := append(setBytes(len(l), l), 0, 0, 1, 'z', 0, 0, 1, 1)
		right := 0
		for at := range b {
			for value := range 256 {
				changed := bytes.Clone(b)
				changed[at] = byte(value)
				if isSet(t, changed, 0) {
					right++
				}
			}
		}
		if right < len(b) {
			t.Error("each byte stays as it was once, and there were", right)
		}
	}
}

// anySet is attributes of any kind, most often right but for one.
func anySet(random *rand.Rand) []api.Attr {
	letters := []string{"a", "b", ".", "\x01", "\xff", "aa"}
	seen := map[string]bool{}
	var l []api.Attr
	for range random.Intn(8) {
		s := ""
		for range 1 + random.Intn(3) {
			s += letters[random.Intn(len(letters))]
		}
		if !seen[s] {
			seen[s] = true
			l = append(l, api.Attr{Name: s, Value: make([]byte, random.Intn(4)*random.Intn(4))})
		}
	}
	slices.SortFunc(l, func(a, b api.Attr) int { return strings.Compare(a.Name, b.Name) })
	if len(l) == 0 || random.Intn(2) > 0 {
		return l
	}
	i, j := random.Intn(len(l)), random.Intn(len(l))
	switch random.Intn(4) {
	case 0:
		l[i], l[j] = l[j], l[i]
	case 1:
		l[i].Name = l[j].Name
	case 2:
		l[i].Name = []string{"", "\x00", l[j].Name + "\x00"}[random.Intn(3)]
	case 3:
		l[i].Name = l[i].Name[:len(l[i].Name)-1]
	}
	return l
}

func TestAnySet(t *testing.T) {
	random := rand.New(rand.NewSource(173))
	count := map[bool]int{}
	for range 20000 {
		l := anySet(random)
		right := attrsByHand(l)
		count[right]++
		if right {
			rightSet(t, l)
		} else {
			wrongSet(t, l)
		}
	}
	if count[true] < 1000 || count[false] < 1000 {
		t.Error("the sets are too much alike:", count)
	}
}

func TestAnySetBytes(t *testing.T) {
	random := rand.New(rand.NewSource(174))
	count := map[bool]int{}
	for range 30000 {
		l := anySet(random)
		b := setBytes(len(l), l)
		for range random.Intn(3) * random.Intn(2) {
			b[random.Intn(len(b))] = []byte{0, 1, 2, 3, 255, 'a', 'b', byte(random.Intn(256))}[random.Intn(8)]
		}
		b = append(b, make([]byte, random.Intn(3))...)
		count[isSet(t, b, 0)]++
		isSet(t, b, random.Intn(len(b)+1))
	}
	if count[true] < 5000 || count[false] < 5000 {
		t.Error("the bytes are too much alike:", count)
	}
}

// TestLongSetBytes would not end soon if a set's time grew with the bytes behind it.
func TestLongSetBytes(t *testing.T) {
	one := setBytes(1, set("k"))
	b := bytes.Repeat(one, 1<<21)
	for i := range 50000 {
		if l, next, e := table.DecodeAttrs(b, i*len(one)); e != api.OK || next != (i+1)*len(one) || len(l) != 1 {
			t.Fatal(i, l, next, e)
		}
	}
}

// spoilAttrs changes all of a set, spare room included.
func spoilAttrs(l []api.Attr) {
	for i := range l[:cap(l)] {
		a := &l[:cap(l)][i]
		overwrite(a.Value)
		*a = api.Attr{Name: "changed", Value: []byte("changed")}
	}
}

// cloneSet is a set of its own memory.
func cloneSet(l []api.Attr) []api.Attr {
	l = slices.Clone(l)
	for i := range l {
		l[i].Value = bytes.Clone(l[i].Value)
	}
	return l
}

// TestSetsAreLeftAlone asks whether a set is as it was handed in, spare room too, and that its bytes do not hang on it or on others.
func TestSetsAreLeftAlone(t *testing.T) {
	for _, l := range append(someSets(), set("b", "a"), set(""), nil) {
		all := append(cloneSet(l), api.Attr{Name: "spare", Value: []byte("room")})
		for i := range all {
			all[i].Value = append(all[i].Value, "behind"...)[:len(all[i].Value)]
		}
		was := cloneSet(all)
		first, e := table.EncodeAttrs(all[:len(l)])
		second, _ := table.EncodeAttrs(all[:len(l)])
		if !sameSet(all, was) {
			t.Error(short(l), "was changed")
		}
		for i := range all {
			if v := all[i].Value; string(v[len(v):len(v)+6]) != "behind" {
				t.Error(short(l), "spare room was changed")
			}
		}
		overwrite(first)
		third, _ := table.EncodeAttrs(all[:len(l)])
		spoilAttrs(all)
		want := setBytes(len(l), l)
		if e == api.OK && (!bytes.Equal(second, want) || !bytes.Equal(third, want)) {
			t.Error(short(l), "an answer changed with another, or with the set")
		}
	}
}

// TestDecodedSetsAreNewMemory writes over answers and over the bytes, and asks for the other answers.
func TestDecodedSetsAreNewMemory(t *testing.T) {
	for _, want := range someSets() {
		b := append(setBytes(len(want), want), 1, 2, 3)
		was := bytes.Clone(b)
		first, _, _ := table.DecodeAttrs(b[:len(b)-3], 0)
		second, _, _ := table.DecodeAttrs(b, 0)
		spoilAttrs(first)
		third, _, e := table.DecodeAttrs(b, 0)
		if !bytes.Equal(b, was) {
			t.Error(short(want), "bytes were changed")
		}
		overwrite(b)
		if e != api.OK || !sameSet(second, want) || !sameSet(third, want) {
			t.Error(short(want), "an answer changed with another, or with the bytes")
		}
	}
}

// TestValuesShareNoRoom writes behind each Value of an answer, into its spare room, and asks for the others.
func TestValuesShareNoRoom(t *testing.T) {
	want := []api.Attr{{Name: "a", Value: []byte("xx")}, {Name: "b"}, {Name: "c", Value: []byte("yyy")}, {Name: "d", Value: []byte("z")}}
	l, _, e := table.DecodeAttrs(setBytes(4, want), 0)
	for i := range l {
		overwrite(l[i].Value)
		l[i].Value = append(l[i].Value, "behind"...)
		for j := i + 1; j < len(l); j++ {
			if !bytes.Equal(l[j].Value, want[j].Value) {
				t.Error(i, j, l[j])
			}
		}
	}
	if e != api.OK || len(l) != 4 {
		t.Error(l, e)
	}
}
