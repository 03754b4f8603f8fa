package table_test

import (
	"bytes"
	"math"
	"slices"
	"testing"

	"portmanteau/api"
	"portmanteau/table"
)

// P17.3

func TestFragBytesByHand(t *testing.T) {
	b, e := table.EncodeFrags([]api.Frag{{At: 68, Word: 100, Plain: 300}, {At: 0x123456, Word: 0x89abcdef, Plain: 0x54321}})
	if e != api.OK || !bytes.Equal(b, []byte{68, 0, 0, 0, 100, 0, 0, 0, 44, 1, 0, 0, 0x56, 0x34, 0x12, 0, 0xef, 0xcd, 0xab, 0x89, 0x21, 0x43, 5, 0}) {
		t.Error(b, e)
	}
	l, e := table.DecodeFrags(b)
	if e != api.OK || !slices.Equal(l, []api.Frag{{At: 68, Word: 100, Plain: 300}, {At: 0x123456, Word: 0x89abcdef, Plain: 0x54321}}) {
		t.Error(l, e)
	}
}

func TestRightFrags(t *testing.T) {
	for _, l := range someFrags() {
		rightFrags(t, l)
	}
}

func TestManyFrags(t *testing.T) {
	for _, n := range []int{65535, maxRows} {
		rightFrags(t, frags(n))
		rightFrags(t, slices.Repeat([]api.Frag{{At: 0, Word: 1, Plain: 1}}, n))
	}
	for _, n := range []int{maxRows + 1, maxRows + 2, 2 * maxRows} {
		wrongFrags(t, frags(n))
		wrongFrags(t, slices.Repeat([]api.Frag{{At: 0, Word: 1, Plain: 1}}, n))
	}
}

// TestEndsOfFrags has each number at its ends and beyond them, at each place of lists.
func TestEndsOfFrags(t *testing.T) {
	ends := []struct {
		lay         func(f *api.Frag, n int)
		least, most int
	}{
		{func(f *api.Frag, n int) { f.At = n }, 0, maxImage},
		{func(f *api.Frag, n int) { f.Word = n }, 1, maxWord},
		{func(f *api.Frag, n int) { f.Plain = n }, 1, maxBlock},
	}
	for _, x := range ends {
		for _, n := range []int{1, 2, 3, 100} {
			for at := range n {
				for _, right := range []int{x.least, x.least + 1, x.most - 1, x.most} {
					l := frags(n)
					x.lay(&l[at], right)
					rightFrags(t, l)
				}
				for _, wrong := range []int{x.least - 1, x.most + 1, x.most + 2, -2, -x.most, -1 << 32, math.MinInt, 1 << 32, 1<<32 + 1, 1<<33 + 5, 1 << 40, math.MaxInt} {
					l := frags(n)
					x.lay(&l[at], wrong)
					wrongFrags(t, l)
				}
			}
		}
	}
	wrongFrags(t, []api.Frag{{}})
	wrongFrags(t, []api.Frag{{Word: 1}})
	wrongFrags(t, []api.Frag{{Plain: 1}})
	wrongFrags(t, []api.Frag{{At: 1}})
}

func TestFragBytesCut(t *testing.T) {
	b := fragBytes(frags(4))
	for cut := 0; cut <= len(b); cut++ {
		if cut%12 != 0 {
			formFrags(t, b[:cut])
			formFrags(t, bytes.Clone(b[:cut])) // with no spare room that tells the rest
			continue
		}
		if l, e := table.DecodeFrags(b[:cut]); e != api.OK || !slices.Equal(l, frags(cut/12)) {
			t.Error(cut, e, l)
		}
	}
	for n := 1; n < 12; n++ {
		formFrags(t, append(fragBytes(frags(maxRows)), b[:n]...))
		formFrags(t, append(fragBytes(frags(5)), make([]byte, n)...))
	}
}

func TestEachByteOfFrags(t *testing.T) {
	b := fragBytes([]api.Frag{{At: 68, Word: 100, Plain: 300}, {At: maxImage, Word: maxWord, Plain: maxBlock}, {At: 0, Word: 1, Plain: 1}})
	right := 0
	for at := range b {
		for value := range 256 {
			changed := bytes.Clone(b)
			changed[at] = byte(value)
			var l []api.Frag
			for i := 0; i < len(changed); i += 12 {
				l = append(l, api.Frag{At: un(changed[i : i+4]), Word: un(changed[i+4 : i+8]), Plain: un(changed[i+8 : i+12])})
			}
			if fragsByHand(l) {
				right++
				rightFrags(t, l)
			} else {
				wrongFrags(t, l)
			}
		}
	}
	if right < len(b) || right == 256*len(b) {
		t.Error("so many are right:", right)
	}
}

func TestLongFragBytes(t *testing.T) {
	formFrags(t, make([]byte, 16777212))
	formFrags(t, bytes.Repeat([]byte{1, 0, 0, 0}, 3*1000000))
}

// TestFragsAreLeftAlone asks whether lists and bytes are as they were handed in, spare room too, and no answer hangs on another.
func TestFragsAreLeftAlone(t *testing.T) {
	for _, l := range append(someFrags(), []api.Frag{{}}) {
		all := append(slices.Clone(l), api.Frag{At: -1, Word: -2, Plain: -3})
		was := slices.Clone(all)
		first, e := table.EncodeFrags(all[:len(l)])
		second, _ := table.EncodeFrags(all[:len(l)])
		if !slices.Equal(all, was) {
			t.Error(short(l), "was changed")
		}
		spoilFrags(all)
		overwrite(first)
		if e == api.OK && !bytes.Equal(second, fragBytes(l)) {
			t.Error(short(l), "bytes changed with others, or with the list")
		}
	}
}

// spoilFrags changes all fragments of l, spare room included.
func spoilFrags(l []api.Frag) {
	l = l[:cap(l)]
	for i := range l {
		l[i] = api.Frag{At: -7, Word: -8, Plain: -9}
	}
}

func TestFragBytesAreLeftAlone(t *testing.T) {
	for _, l := range someFrags() {
		all := append(fragBytes(l), 1, 2, 3)
		was := bytes.Clone(all)
		b := all[:12*len(l)]
		first, _ := table.DecodeFrags(b)
		second, _ := table.DecodeFrags(b)
		table.DecodeFrags(all)
		if !bytes.Equal(all, was) {
			t.Error(short(l), "bytes were changed")
		}
		spoilFrags(first)
		third, _ := table.DecodeFrags(b)
		overwrite(all)
		if !slices.Equal(second, l) || !slices.Equal(third, l) {
			t.Error(short(l), "an answer changed with another, or with the bytes")
		}
	}
}
