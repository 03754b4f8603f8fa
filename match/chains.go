package match

const (
	minCopy  = 4
	maxOff   = 65535
	slotBits = 13
	tries    = 64 // the longest text whose repeats must be found: from within them it lies so many places back at most
)

// chains are the places gone by, those of one slot behind each other, the last one first.
type chains struct {
	heads  [1 << slotBits]int // of a slot: one more than its last place; 0: it has none
	before []int              // of a place: the one ahead of it in its chain; below 0: there is none
}

// slot tells which chain b goes into, by its first minCopy bytes: the upper bits of a product with a great prime hang on all of them.
func slot(b []byte) uint32 {
	four := uint32(b[0]) | uint32(b[1])<<8 | uint32(b[2])<<16 | uint32(b[3])<<24
	return four * 2654435761 >> (32 - slotBits)
}

// enter puts a place of b at its chain's head.
func (c *chains) enter(b []byte, at int) {
	s := slot(b[at:])
	c.before[at] = c.heads[s] - 1
	c.heads[s] = at + 1
}

// longest tells how far back the longest copy that may stand at a place of b begins, the nearest of those, and how long it is; 0 and 0, if none is found.
func (c *chains) longest(b []byte, at int) (off, n int) {
	here := b[at : len(b)-lastLit]
	from := c.heads[slot(here)] - 1
	for range tries {
		if from < 0 || at-from > maxOff || n == len(here) {
			break
		}
		if k := alike(here, b[from:]); k >= minCopy && k > n {
			off, n = at-from, k
		}
		from = c.before[from]
	}
	return off, n
}

// alike tells how many bytes two texts begin with that are the same; x is not the longer one.
func alike(x, y []byte) int {
	for i, c := range x {
		if y[i] != c {
			return i
		}
	}
	return len(x)
}
