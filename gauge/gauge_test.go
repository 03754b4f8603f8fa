package gauge_test

import (
	"math"
	"math/big"
	"math/rand"
	"slices"
	"testing"

	"portmanteau/gauge"
)

const (
	one   = 0x7ff8000000000001 // the bits of the NaN that all count as
	exact = 1 << 53            // from here on floats leave ints out
	least = math.SmallestNonzeroFloat64
	most  = math.MaxFloat64
)

var (
	inf    = math.Inf(1)
	nan    = math.NaN()
	minus  = math.Copysign(0, -1)
	below1 = math.Nextafter(1, 0)
)

// row is floats of all kinds, each once, in the order of P3.1.
func row() []float64 {
	return []float64{
		-inf, -most, -9223372036854775808, -2, math.Nextafter(-1, -2), -1, -0.5, -0x1p-1022, -0x1p-1022 + least, -2 * least, -least, minus,
		0, least, 2 * least, 0x1p-1022 - least, 0x1p-1022, 0.5, below1, 1, math.Nextafter(1, 2), 2, 9223372036854775808, most, inf, nan,
	}
}

// nans is NaNs of many bits: both signs, quiet and signalling, the least and the greatest ones.
func nans() []float64 {
	l := []float64{}
	for _, b := range []uint64{one, 0x7ff8000000000000, 0x7ff0000000000001, 0x7ff7ffffffffffff, 0x7fffffffffffffff, 0x7ff80000deadbeef} {
		l = append(l, math.Float64frombits(b), math.Float64frombits(b|1<<63))
	}
	return l
}

// anyFloats is n floats of any bits, the same in every run.
func anyFloats(n int) []float64 {
	r := rand.New(rand.NewSource(int64(n)))
	l := make([]float64, n)
	for i := range l {
		l[i] = math.Float64frombits(r.Uint64())
	}
	return l
}

// someInts is ints of all sizes, and those about which floats are not whole any more.
func someInts() []int {
	l := []int{0, 1, 2, 3, 7, 10, 95, 100, 4096, exact - 1, exact, exact + 1, exact + 2, exact + 3, 2*exact + 2, 2*exact + 3, 2*exact + 6, math.MaxInt - 1024, math.MaxInt - 512, math.MaxInt - 511, math.MaxInt - 1, math.MaxInt}
	r := rand.New(rand.NewSource(3))
	for range 40 {
		l = append(l, int(r.Uint64()>>(1+r.Intn(62))))
	}
	for _, n := range l {
		l = append(l, -n)
	}
	return append(l, math.MinInt)
}

// bits is a float's bits, those of the one NaN for all of them.
func bits(x float64) uint64 {
	if x != x {
		return one
	}
	return math.Float64bits(x)
}

// bitsOf is the bits of many, as they are.
func bitsOf(l []float64) []uint64 {
	out := make([]uint64, len(l))
	for i, x := range l {
		out[i] = math.Float64bits(x)
	}
	return out
}

// check holds a float against the one that is wanted, bit by bit: both noughts are told apart.
func check(t *testing.T, got, want float64, call string, args ...any) {
	t.Helper()
	if math.Float64bits(got) != bits(want) {
		t.Errorf("%s%v: %v (%x), not %v (%x)", call, args, got, math.Float64bits(got), want, bits(want))
	}
}

// nearest is the float nearest to n, by whole numbers alone.
func nearest(n int) float64 {
	f, _ := new(big.Float).SetPrec(53).SetInt64(int64(n)).Float64()
	return f
}

// wide is a finite float in a number that is rounded as floats are, with no bound to its exponent.
func wide(x float64) *big.Float {
	return new(big.Float).SetPrec(53).SetFloat64(x)
}

// narrow is the float that wide was made of.
func narrow(x *big.Float) float64 {
	f, _ := x.Float64()
	return f
}

// P3.1

func TestKeyOfWords(t *testing.T) {
	for _, c := range []struct {
		x   float64
		key uint64
	}{
		{-inf, 0x000fffffffffffff},
		{-most, 0x0010000000000000},
		{-1, 0x400fffffffffffff},
		{-least, 0x7ffffffffffffffe},
		{minus, 0x7fffffffffffffff},
		{0, 0x8000000000000000},
		{least, 0x8000000000000001},
		{1, 0xbff0000000000000},
		{most, 0xffefffffffffffff},
		{inf, 0xfff0000000000000},
		{nan, 0xfff8000000000001},
	} {
		if k := gauge.Key(c.x); k != c.key {
			t.Errorf("Key(%v): %x, not %x", c.x, k, c.key)
		}
	}
}

func TestKeyOfAnyBits(t *testing.T) {
	for _, x := range append(anyFloats(5000), row()...) {
		b := new(big.Int).SetUint64(bits(x))
		half := new(big.Int).Lsh(big.NewInt(1), 63)
		want := new(big.Int).Add(b, half)
		if b.Cmp(half) >= 0 {
			want.Sub(new(big.Int).SetUint64(math.MaxUint64), b)
		}
		if k := gauge.Key(x); k != want.Uint64() {
			t.Errorf("Key(%v): %x, not %x", x, k, want)
		}
	}
}

func TestNaNsAreOne(t *testing.T) {
	for _, x := range nans() {
		if k := gauge.Key(x); k != one+1<<63 {
			t.Errorf("Key of the NaN %x: %x", math.Float64bits(x), k)
		}
		for _, y := range nans() {
			if gauge.Order(x, y) != 0 || !gauge.Same(x, y) {
				t.Errorf("the NaNs %x and %x are not the same", math.Float64bits(x), math.Float64bits(y))
			}
		}
		for _, y := range row()[:len(row())-1] {
			if gauge.Order(x, y) != 1 || gauge.Order(y, x) != -1 || gauge.Same(x, y) {
				t.Errorf("the NaN %x is not behind %v", math.Float64bits(x), y)
			}
		}
	}
}

func TestOrderOfRow(t *testing.T) {
	if o := gauge.Order(minus, 0); o != -1 {
		t.Errorf("Order(-0, +0): %d", o)
	}
	for i, x := range row() {
		for k, y := range row() {
			want := 0
			if i < k {
				want = -1
			}
			if i > k {
				want = 1
			}
			if o := gauge.Order(x, y); o != want {
				t.Errorf("Order(%v, %v): %d, not %d", x, y, o, want)
			}
			if s := gauge.Same(x, y); s != (i == k) {
				t.Errorf("Same(%v, %v): %v", x, y, s)
			}
		}
	}
}

func TestSortedRow(t *testing.T) {
	r := rand.New(rand.NewSource(1))
	for range 200 {
		l := row()
		r.Shuffle(len(l), func(i, k int) { l[i], l[k] = l[k], l[i] })
		if s := gauge.Sorted(l); !slices.Equal(bitsOf(s), bitsOf(row())) {
			t.Fatalf("Sorted(%v): %v", l, s)
		}
	}
}

func TestSortedShortAndLong(t *testing.T) {
	if s := gauge.Sorted(nil); len(s) != 0 {
		t.Errorf("Sorted of nil: %v", s)
	}
	if s := gauge.Sorted([]float64{}); len(s) != 0 {
		t.Errorf("Sorted of an empty list: %v", s)
	}
	for _, x := range append(row(), nans()...) {
		if s := gauge.Sorted([]float64{x}); len(s) != 1 || !gauge.Same(s[0], x) {
			t.Errorf("Sorted of %v alone: %v", x, s)
		}
	}
	for _, n := range []int{2, 3, 12, 13, 100, 5000} {
		l := slices.Concat(anyFloats(n), row(), nans(), anyFloats(n))
		if s := gauge.Sorted(l); len(s) != len(l) || !slices.IsSortedFunc(s, gauge.Order) {
			t.Errorf("Sorted of %d floats is not in order", n)
		}
	}
}

func TestSortedMemory(t *testing.T) {
	whole := slices.Concat(anyFloats(20), nans(), []float64{3, 2, 1, minus, 0})
	was := bitsOf(whole)
	l := whole[3:30:35]
	s := gauge.Sorted(l)
	if !slices.Equal(bitsOf(whole), was) {
		t.Fatal("Sorted changed what was handed in")
	}
	again := gauge.Sorted(l)
	answer := bitsOf(s)
	if !slices.Equal(bitsOf(again), answer) {
		t.Error("Sorted tells another list at the second call")
	}
	for i := range s[:cap(s)] {
		s[:cap(s)][i] = 77
	}
	if !slices.Equal(bitsOf(whole), was) || !slices.Equal(bitsOf(again), answer) {
		t.Error("Sorted's answer shares memory with its argument or another answer")
	}
	for i := range whole {
		whole[i] = 88
	}
	if !slices.Equal(bitsOf(again), answer) {
		t.Error("Sorted's answer changes with its argument")
	}
}

// P3.2

func TestRatio(t *testing.T) {
	for _, c := range []struct {
		a, b int
		want float64
	}{
		{1, 0, inf}, {-1, 0, -inf}, {math.MaxInt, 0, inf}, {math.MinInt, 0, -inf}, {0, 0, nan},
		{0, 3, 0}, {0, -3, minus}, {6, 3, 2}, {-6, 3, -2}, {6, -3, -2}, {-6, -3, 2}, {1, 3, 1.0 / 3}, {2, 3, 2.0 / 3},
		{exact + 1, 1, exact}, {exact + 3, 1, exact + 4}, {-exact - 1, 1, -exact}, {1, exact + 1, 0x1p-53},
		{exact + 1, 3, 3002399751580330.5}, // the quotient of the ints themselves is a whole number
		{math.MaxInt, 1, 0x1p63}, {math.MinInt, 1, -0x1p63}, {math.MaxInt, math.MinInt, -1}, {math.MinInt, -1, 0x1p63},
	} {
		check(t, gauge.Ratio(c.a, c.b), c.want, "Ratio", c.a, c.b)
	}
	for _, a := range someInts() {
		for _, b := range someInts() {
			if a != 0 && b != 0 {
				want := new(big.Float).SetPrec(53).Quo(wide(nearest(a)), wide(nearest(b)))
				check(t, gauge.Ratio(a, b), narrow(want), "Ratio", a, b)
			}
		}
	}
}

func TestClamp(t *testing.T) {
	for _, c := range []struct{ x, low, high, want float64 }{
		{3, 1, 2, 2}, {0, 1, 2, 1}, {1.5, 1, 2, 1.5}, {1, 1, 2, 1}, {2, 1, 2, 2},
		{minus, 0, 2, 0}, {0, minus, 2, 0}, {minus, minus, 2, minus}, {0, -2, minus, minus}, {minus, -2, 0, minus},
		{inf, 1, 2, 2}, {-inf, 1, 2, 1}, {inf, 1, inf, inf}, {-inf, -inf, 1, -inf}, {least, 0, 1, least}, {-least, 0, 1, 0}, {most, 0, inf, most},
		{5, 9, 1, 9}, {9, 9, 1, 1}, {10, 9, 1, 1}, {0, 9, 1, 9}, // low above high: low is asked first
		{5, nan, 9, nan}, {inf, nan, 1, nan}, {5, 1, nan, 5}, {inf, 1, nan, inf}, {0, 1, nan, 1},
		{nan, 1, 2, 1}, {nan, inf, 2, inf}, {nan, minus, 2, minus}, {nan, nan, 2, nan}, {nan, 1, nan, 1},
	} {
		check(t, gauge.Clamp(c.x, c.low, c.high), c.want, "Clamp", c.x, c.low, c.high)
	}
	for _, x := range nans() {
		check(t, gauge.Clamp(x, 4, 5), 4, "Clamp of a NaN", math.Float64bits(x))
		check(t, gauge.Clamp(6, 4, x), 6, "Clamp below a NaN", math.Float64bits(x))
	}
}

func TestClampOfRow(t *testing.T) {
	l := row()
	for i, x := range l {
		for k, low := range l {
			for m, high := range l {
				want := x
				if i == len(l)-1 || i < k {
					want = low
				} else if i > m {
					want = high
				}
				check(t, gauge.Clamp(x, low, high), want, "Clamp", x, low, high)
			}
		}
	}
}

func TestMean(t *testing.T) {
	check(t, gauge.Mean(nil), nan, "Mean of nil")
	check(t, gauge.Mean([]float64{}), nan, "Mean of an empty list")
	for _, c := range []struct {
		l    []float64
		want float64
	}{
		{[]float64{1, 2, 6}, 3}, {[]float64{1, 2}, 1.5}, {[]float64{1, 0, 0}, 1.0 / 3},
		{[]float64{minus, minus}, minus}, {[]float64{minus, 0}, 0}, {[]float64{0, minus}, 0}, {[]float64{1, -1}, 0}, {[]float64{-1, 1}, 0},
		{[]float64{1, exact, -exact}, 0}, {[]float64{exact, -exact, 1}, 1.0 / 3}, // from the first one on
		{[]float64{most, most}, inf}, {[]float64{most, most, -most}, inf}, {[]float64{most, -most, most}, most / 3},
		{[]float64{least, 0}, 0}, {[]float64{least, 2 * least}, 2 * least}, {[]float64{least, least, least}, least},
		{[]float64{inf, 1}, inf}, {[]float64{-inf, 1}, -inf}, {[]float64{inf, -inf}, nan}, {[]float64{-inf, inf}, nan}, {[]float64{1, nan, 2}, nan},
	} {
		check(t, gauge.Mean(c.l), c.want, "Mean", c.l)
	}
	for _, x := range row() {
		check(t, gauge.Mean([]float64{x}), x, "Mean of one", x)
	}
	for _, x := range nans() {
		check(t, gauge.Mean([]float64{x}), nan, "Mean of a NaN", math.Float64bits(x))
		check(t, gauge.Mean([]float64{1, x, 2, x}), nan, "Mean of a NaN and others", math.Float64bits(x))
	}
}

func TestMeanIsRoundedAtEachStep(t *testing.T) {
	r := rand.New(rand.NewSource(2))
	for n := 1; n < 300; n++ {
		l := make([]float64, n)
		for i := range l {
			l[i] = r.NormFloat64() * math.Exp2(float64(r.Intn(80)-40))
		}
		sum := wide(l[0])
		for _, x := range l[1:] {
			sum.Add(sum, wide(x))
		}
		check(t, gauge.Mean(l), narrow(sum.Quo(sum, wide(float64(n)))), "Mean of some", n)
	}
}

func TestMeanChangesNothing(t *testing.T) {
	whole := slices.Concat(anyFloats(20), nans())
	was := bitsOf(whole)
	first := gauge.Mean(whole[2:9])
	if !slices.Equal(bitsOf(whole), was) {
		t.Error("Mean changed what was handed in")
	}
	check(t, gauge.Mean(whole[2:9]), first, "Mean once more")
}

func TestSmooth(t *testing.T) {
	for _, c := range []struct{ was, x, part, want float64 }{
		{2, 4, 0.25, 2.5}, {4, 2, 0.25, 3.5}, {2, 4, 0, 2}, {2, 4, 1, 4}, {2, 4, 2, 6}, {2, 4, -1, 0},
		{-1, 0x1p-27, 1 + 0x1p-27, 0x1p-26}, // product and sum rounded as one would be a bit more
		{1, exact + 2, 1, exact},            // x less was is rounded, and so is the sum
		{exact, 1, 1, 1},
		{minus, minus, 1, 0}, {minus, 0, 0, 0}, {minus, minus, -1, minus}, {0, minus, 1, 0}, {minus, -1, 0, minus}, {5, 5, 0.5, 5},
		{most, -most, 0.5, -inf}, {-most, most, 1, inf}, {most, -most, 0, nan}, {least, 0, 0.5, least}, {0, least, 0.5, 0}, {0, 3 * least, 0.5, 2 * least},
		{1, inf, 0.5, inf}, {1, -inf, 0.5, -inf}, {1, inf, 0, nan}, {1, inf, -1, -inf}, {inf, 1, 0.5, nan}, {inf, inf, 0.5, nan}, {inf, 1, -1, inf}, {-inf, 1, 0.5, nan},
		{1, 2, inf, inf}, {2, 1, inf, -inf}, {2, 2, inf, nan}, {1, 2, nan, nan}, {1, nan, 0.5, nan}, {1, nan, 0, nan},
		{nan, 4, 0.25, 4}, {nan, 4, nan, 4}, {nan, minus, 1, minus}, {nan, inf, 0, inf}, {nan, nan, 1, nan},
	} {
		check(t, gauge.Smooth(c.was, c.x, c.part), c.want, "Smooth", c.was, c.x, c.part)
	}
	for _, x := range nans() {
		check(t, gauge.Smooth(x, 7, 0.5), 7, "Smooth behind a NaN", math.Float64bits(x))
		check(t, gauge.Smooth(7, x, 0.5), nan, "Smooth to a NaN", math.Float64bits(x))
		check(t, gauge.Smooth(7, 8, x), nan, "Smooth by a NaN", math.Float64bits(x))
	}
}

func TestSmoothIsRoundedAtEachStep(t *testing.T) {
	r := rand.New(rand.NewSource(4))
	for range 5000 {
		was, x, part := r.NormFloat64()*100, r.NormFloat64()*100, r.Float64()
		way := new(big.Float).SetPrec(53).Sub(wide(x), wide(was))
		way.Mul(way, wide(part))
		check(t, gauge.Smooth(was, x, part), narrow(way.Add(wide(was), way)), "Smooth", was, x, part)
	}
}

// P3.3

func TestSteps(t *testing.T) {
	for _, c := range []struct {
		x    float64
		n, s int
	}{
		{0.5, 9, 4}, {0.5, 8, 4}, {0.5, 1, 0}, {0.999, 1000, 999}, {0.9, 10, 9}, {0.1, 10, 1}, {0.99, 10, 9}, {0.7, 10, 7}, {0.29, 100, 28},
		{0.5, 0, 0}, {0.5, -1, 0}, {0.5, math.MinInt, 0}, {1, 0, 0}, {2, -1, 0}, {inf, 0, 0}, {inf, -9, 0}, {1, math.MinInt, 0},
		{nan, 9, 0}, {nan, 0, 0}, {nan, math.MaxInt, 0}, {0, 9, 0}, {minus, 9, 0}, {-1, 9, 0}, {-least, 9, 0}, {-inf, 9, 0}, {-0.5, math.MaxInt, 0},
		{1, 9, 9}, {1, 1, 1}, {math.Nextafter(1, 2), 9, 9}, {2, 9, 9}, {most, 9, 9}, {inf, 9, 9}, {1, math.MaxInt, math.MaxInt}, {inf, math.MaxInt, math.MaxInt},
		{least, 9, 0}, {least, math.MaxInt, 0}, {0x1p-63, math.MaxInt, 1}, {math.Nextafter(0x1p-63, 0), math.MaxInt, 0},
		{below1, 1, 0}, {below1, 9, 8}, {below1, exact, exact - 1}, {below1, exact + 1, exact - 1}, {below1, exact + 3, exact + 2}, {below1, math.MaxInt, math.MaxInt - 1023},
		{0.5, exact + 3, exact/2 + 2}, {0.5, math.MaxInt, 1 << 62},
	} {
		if s := gauge.Steps(c.x, c.n); s != c.s {
			t.Errorf("Steps(%v, %d): %d, not %d", c.x, c.n, s, c.s)
		}
	}
	for _, x := range nans() {
		if s := gauge.Steps(x, 9); s != 0 {
			t.Errorf("Steps of the NaN %x: %d", math.Float64bits(x), s)
		}
	}
}

func TestStepsOfAnyPart(t *testing.T) {
	r := rand.New(rand.NewSource(5))
	parts := []float64{least, 0x1p-1022, 0.5, below1, math.Nextafter(below1, 0)}
	for range 200 {
		parts = append(parts, r.Float64(), 1-r.Float64()*0x1p-40)
	}
	for _, n := range someInts() {
		for _, x := range parts {
			if x >= 1 {
				continue
			}
			want := big.NewInt(0)
			if n > 0 {
				new(big.Float).SetPrec(53).Mul(wide(x), wide(nearest(n))).Int(want)
			}
			if s := gauge.Steps(x, n); int64(s) != want.Int64() || s > max(n, 0) {
				t.Errorf("Steps(%v, %d): %d, not %v", x, n, s, want)
			}
		}
	}
}

// P3.4

func TestWorth(t *testing.T) {
	for _, c := range []struct {
		plain, packed int
		limit         float64
		want          bool
	}{
		{100, 90, 0.95, true}, {100, 94, 0.95, true}, {100, 95, 0.95, false}, {100, 96, 0.95, false}, {100, 99, 1, true}, {100, 100, 1, false}, {100, 101, 1, false}, {100, 101, 1.02, true},
		{100, 100, math.Nextafter(1, 2), true}, {100, 0, 0, false}, {100, -1, 0, true}, {100, -1, minus, true}, {100, 0, minus, false}, {0, -1, 0.5, true}, {0, 0, 1, false}, {0, 1, 1, false},
		{100, -51, -0.5, true}, {100, -50, -0.5, false}, {-100, 49, -0.5, true}, {-100, 50, -0.5, false}, {-100, -51, 0.5, true}, {-100, -50, 0.5, false},
		{1, 100, inf, true}, {1, math.MaxInt, inf, true}, {-1, 0, inf, false}, {-1, math.MinInt, inf, false}, {1, math.MinInt, -inf, false}, {-1, math.MaxInt, -inf, true},
		{0, 0, inf, false}, {0, -1, inf, false}, {0, -1, -inf, false}, {0, math.MinInt, inf, false}, // nought times an infinity is NaN
		{100, 0, least, true}, {100, 1, least, false}, {1, math.MaxInt, most, true}, {math.MaxInt, math.MaxInt, most, true},
		{exact + 1, exact, 1, false}, {exact, exact - 1, 1, true}, {exact + 2, exact + 1, 1, true}, {exact + 3, exact + 2, 1, true}, {exact + 4, exact + 3, 1, false},
		{math.MaxInt, math.MaxInt - 1, 1, false}, {math.MaxInt, math.MaxInt - 511, 1, false}, {math.MaxInt, math.MaxInt - 512, 1, true}, {math.MaxInt, math.MinInt, 1, true}, {math.MinInt, math.MaxInt, -1, false},
	} {
		if w := gauge.Worth(c.plain, c.packed, c.limit); w != c.want {
			t.Errorf("Worth(%d, %d, %v): %v", c.plain, c.packed, c.limit, w)
		}
	}
}

func TestWorthIsNeverWithNaN(t *testing.T) {
	for _, limit := range nans() {
		for _, plain := range someInts() {
			for _, packed := range []int{math.MinInt, -1, 0, 1, plain, math.MaxInt} {
				if gauge.Worth(plain, packed, limit) {
					t.Errorf("Worth(%d, %d, NaN %x)", plain, packed, math.Float64bits(limit))
				}
			}
		}
	}
}

func TestWorthOfAnyInts(t *testing.T) {
	for _, limit := range []float64{-1, 0, 0.1, 0.5, 0.95, below1, 1, 1.5} {
		for _, plain := range someInts() {
			product := new(big.Float).SetPrec(53).Mul(wide(nearest(plain)), wide(limit))
			for _, packed := range append(someInts(), int(limit*float64(plain/2))*2) {
				want := wide(nearest(packed)).Cmp(product) < 0
				if w := gauge.Worth(plain, packed, limit); w != want {
					t.Errorf("Worth(%d, %d, %v): %v", plain, packed, limit, w)
				}
			}
		}
	}
}

// P3.5

func TestOrderIsTotal(t *testing.T) {
	l := slices.Concat(row(), nans()[:4], anyFloats(60))
	for _, x := range l {
		if gauge.Order(x, x) != 0 || !gauge.Same(x, x) {
			t.Errorf("%v is not the same as itself", x)
		}
		for _, y := range l {
			o := gauge.Order(x, y)
			if o < -1 || o > 1 || o != -gauge.Order(y, x) {
				t.Errorf("Order(%v, %v): %d, and turned round %d", x, y, o, gauge.Order(y, x))
			}
			if (o == 0) != (bits(x) == bits(y)) {
				t.Errorf("Order(%v, %v): %d", x, y, o)
			}
			for _, z := range l {
				if o <= 0 && gauge.Order(y, z) <= 0 && gauge.Order(x, z) > 0 {
					t.Errorf("%v, %v, %v: no order", x, y, z)
				}
			}
		}
	}
}

func TestOrderFitsTheLanguage(t *testing.T) {
	l := slices.Concat(row(), nans(), anyFloats(300))
	for _, x := range l {
		for _, y := range l {
			if x != x || y != y || x == 0 && y == 0 {
				continue
			}
			o := gauge.Order(x, y)
			if (o == -1) != (x < y) || (o == 1) != (x > y) || (o == 0) != (x == y) {
				t.Errorf("Order(%v, %v): %d", x, y, o)
			}
		}
	}
}

func TestSortedHasTheSameFloats(t *testing.T) {
	for _, n := range []int{0, 1, 2, 50, 1000} {
		half := anyFloats(n)
		l := slices.Concat(half, row(), nans(), half, row()) // many of them twice
		was, got := bitsOf(l), bitsOf(gauge.Sorted(l))
		slices.Sort(was)
		slices.Sort(got)
		if !slices.Equal(was, got) {
			t.Errorf("Sorted of %d floats has other ones", len(l))
		}
	}
}

func TestSortedLeavesNaNsAsTheyCame(t *testing.T) {
	l := []float64{}
	for _, x := range slices.Concat(nans(), nans()) {
		l = append(l, x, 1, -inf)
	}
	s := gauge.Sorted(l)
	if got, want := bitsOf(s[len(s)-2*len(nans()):]), bitsOf(slices.Concat(nans(), nans())); !slices.Equal(got, want) {
		t.Errorf("the NaNs of Sorted: %x, not %x", got, want)
	}
}
