// Package field is layer 1: numbers and texts in bytes, the lowest byte first. See shared/doc/01-field.md.
package field

import "portmanteau/api"

// largest is the greatest number that has room in so many bytes; 0: that is no width.
// Each width has the bytes of all narrower ones, so a wider one goes on with those.
func largest(width int) uint64 {
	most := uint64(0)
	switch width {
	case 8:
		most |= 0xffffffff << 32
		fallthrough
	case 4:
		most |= 0xffff << 16
		fallthrough
	case 2:
		most |= 0xff << 8
		fallthrough
	case 1:
		most |= 0xff
	}
	return most
}

// checkNumber says whether n can be laid in width bytes.
func checkNumber(n uint64, width int) api.Errno {
	most := largest(width)
	if most == 0 {
		return api.ErrArg
	}
	if n > most {
		return api.ErrRange
	}
	return api.OK
}

// holds says whether b has n bytes from at on; n is not below 0.
// It takes at from the length instead of adding n to it, since a sum may wrap round.
func holds(b []byte, at, n int) bool {
	return at >= 0 && n <= len(b)-at
}

// lay writes n over the bytes of b, as many as there are.
func lay(b []byte, n uint64) {
	for i := range len(b) {
		b[i] = byte(n >> (8 * i))
	}
}

// Get tells the number at a place.
func Get(b []byte, at, width int) (uint64, api.Errno) {
	if largest(width) == 0 {
		return 0, api.ErrArg
	}
	if !holds(b, at, width) {
		return 0, api.ErrRange
	}
	n := uint64(0)
	for i := range width {
		n |= uint64(b[at+i]) << (8 * i)
	}
	return n, api.OK
}

// Put tells b and the number behind it.
func Put(b []byte, n uint64, width int) ([]byte, api.Errno) {
	if e := checkNumber(n, width); e != api.OK {
		return nil, e
	}
	out := make([]byte, len(b)+width)
	copy(out, b)
	lay(out[len(b):], n)
	return out, api.OK
}

// Set tells b with the number at a place of it.
func Set(b []byte, at int, n uint64, width int) ([]byte, api.Errno) {
	if e := checkNumber(n, width); e != api.OK {
		return nil, e
	}
	if !holds(b, at, width) {
		return nil, api.ErrRange
	}
	out := fresh(b)
	lay(out[at:at+width], n)
	return out, api.OK
}

// Part tells the n bytes from a place on.
func Part(b []byte, at, n int) ([]byte, api.Errno) {
	if n < 0 || !holds(b, at, n) {
		return nil, api.ErrRange
	}
	return fresh(b[at : at+n]), api.OK
}

// fresh is b in memory of its own, without spare room.
func fresh(b []byte) []byte {
	out := make([]byte, len(b))
	copy(out, b)
	return out
}
