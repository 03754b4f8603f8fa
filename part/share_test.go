package part

import (
	"testing"

	"portmanteau/api"
)

// P7.1: no flash is so great that half of its sectors could hold more than the longest image; the bound is tested where it counts.
func TestShare(t *testing.T) {
	for _, c := range []struct{ sectors, size, want int }{
		{2, 64, 1},
		{3, 64, 1},
		{4, 64, 2},
		{16, api.MaxImage / 8, 8},
		{18, api.MaxImage / 8, 8},
		{14, api.MaxImage / 8, 7},
		{100, api.MaxImage/8 + 1, 7},
		{100, api.MaxImage/8 - 1, 8},
		{100, api.MaxImage/2 + 1, 1},
		{100, api.MaxImage / 2, 2},
		{100, api.MaxImage, 1},
		{100, api.MaxImage + 1, 1},
		{100, 4 * api.MaxImage, 1},
	} {
		if n := share(c.sectors, c.size); n != c.want {
			t.Errorf("share(%d, %d): %d, not %d", c.sectors, c.size, n, c.want)
		}
	}
}
