package tests

import (
	"math"
	"math/big"
	"testing"

	"loop.example/g03407/impl"
)

// most is the greatest number that a ratio may contain.
const most = 1000000000

// mostTerm is the greatest number that MakeRatio takes.
const mostTerm = 2000000000000000000

func TestMaxRatio(t *testing.T) {
	if impl.MaxRatio != most {
		t.Errorf("MaxRatio = %d", impl.MaxRatio)
	}
}

// fraction returns n / d as the reference for a ratio.
func fraction(n int, d int) *big.Rat { return big.NewRat(int64(n), int64(d)) }

func exact(r impl.Ratio) *big.Rat { return fraction(r.Num, r.Den) }

// ratioFrom returns the ratio of an exact result, or the zero value if it is out of range.
func ratioFrom(x *big.Rat) impl.Ratio {
	limit := big.NewInt(most)
	if x.Num().CmpAbs(limit) > 0 || x.Denom().Cmp(limit) > 0 {
		return impl.Ratio{}
	}
	return impl.Ratio{Num: int(x.Num().Int64()), Den: int(x.Denom().Int64())}
}

// smallRatios returns the ratios whose numbers are at most n.
func smallRatios(n int) []impl.Ratio {
	var l []impl.Ratio
	for d := 1; d <= n; d++ {
		for k := -n; k <= n; k++ {
			if fraction(k, d).Denom().Int64() == int64(d) {
				l = append(l, impl.Ratio{Num: k, Den: d})
			}
		}
	}
	return l
}

// someRatios returns small ratios, those at the limits and those near to products and sums at the limits.
func someRatios() []impl.Ratio {
	l := smallRatios(4)
	for _, n := range []int{most, most - 1, most / 2, most/2 + 1, 31622, 31623, 999983} {
		for _, d := range []int{1, 2, 3, most, most - 1, most / 2, most/2 + 1, 31623, 999979} {
			if fraction(n, d).Denom().Int64() == int64(d) {
				l = append(l, impl.Ratio{Num: n, Den: d}, impl.Ratio{Num: -n, Den: d})
			}
		}
	}
	for _, d := range []int{most, most - 1, most/2 + 1, 31623} {
		l = append(l, impl.Ratio{Num: 1, Den: d}, impl.Ratio{Num: -1, Den: d})
	}
	return l
}

// noRatios returns values that are no ratios; each breaks as few rules as possible.
func noRatios() []impl.Ratio {
	return []impl.Ratio{
		{},
		// a Den of 0 or below
		{Num: 1}, {Num: -1}, {Num: most}, {Num: math.MinInt}, {Num: math.MaxInt},
		{Den: -1}, {Num: 1, Den: -1}, {Num: -1, Den: -2}, {Num: 1, Den: -most}, {Num: 1, Den: math.MinInt}, {Den: math.MinInt},
		// a common divisor
		{Den: 2}, {Den: most}, {Num: 2, Den: 2}, {Num: 2, Den: 4}, {Num: -2, Den: 4}, {Num: -6, Den: 9}, {Num: 6, Den: 3},
		{Num: most, Den: most}, {Num: -most, Den: most}, {Num: most, Den: 2}, {Num: 5, Den: most}, {Num: -most / 2, Den: most},
		// numbers beyond the limits
		{Num: most + 1, Den: 1}, {Num: -most - 1, Den: 1}, {Num: 1, Den: most + 1}, {Num: -1, Den: most + 1}, {Num: most + 1, Den: most}, {Num: most, Den: most + 1},
		{Num: math.MaxInt, Den: 1}, {Num: math.MinInt, Den: 1}, {Num: 1, Den: math.MaxInt}, {Num: math.MinInt, Den: math.MaxInt},
		{Num: math.MinInt, Den: -1}, {Num: math.MinInt, Den: math.MinInt}, {Num: math.MaxInt, Den: math.MinInt}, {Den: math.MaxInt},
		// numbers whose products wrap around to small ones
		{Num: 1 << 32, Den: 1}, {Num: 1, Den: 1 << 32}, {Num: 1 << 62, Den: 1}, {Num: 1<<32 + 1, Den: 1 << 32},
	}
}

func TestIsRatio(t *testing.T) {
	for d := -8; d <= 8; d++ {
		for n := -20; n <= 20; n++ {
			want := d >= 1 && fraction(n, d).Denom().Int64() == int64(d)
			if r := (impl.Ratio{Num: n, Den: d}); impl.IsRatio(r) != want {
				t.Errorf("IsRatio(%v) is %v", r, !want)
			}
		}
	}
	for _, r := range someRatios() {
		if !impl.IsRatio(r) {
			t.Errorf("%v is no ratio", r)
		}
	}
}

func TestZeroHasTheDenOne(t *testing.T) {
	for d := -30; d <= 30; d++ {
		if r := (impl.Ratio{Den: d}); impl.IsRatio(r) != (d == 1) {
			t.Errorf("IsRatio(%v) is %v", r, d != 1)
		}
	}
}

func TestNoRatiosGiveNothing(t *testing.T) {
	none := impl.Ratio{}
	for _, r := range noRatios() {
		if impl.IsRatio(r) {
			t.Errorf("%v is a ratio", r)
		}
		if got := impl.NegateRatio(r); got != none {
			t.Errorf("NegateRatio(%v) = %v", r, got)
		}
		if got := impl.FloorRatio(r); got != 0 {
			t.Errorf("FloorRatio(%v) = %d", r, got)
		}
		if got := impl.CeilRatio(r); got != 0 {
			t.Errorf("CeilRatio(%v) = %d", r, got)
		}
	}
}

// checkNone checks that no function of two ratios takes these ones.
func checkNone(t *testing.T, a impl.Ratio, b impl.Ratio) {
	t.Helper()
	none := impl.Ratio{}
	if got := impl.AddRatios(a, b); got != none {
		t.Errorf("AddRatios(%v, %v) = %v", a, b, got)
	}
	if got := impl.MultiplyRatios(a, b); got != none {
		t.Errorf("MultiplyRatios(%v, %v) = %v", a, b, got)
	}
	if got := impl.DivideRatios(a, b); got != none {
		t.Errorf("DivideRatios(%v, %v) = %v", a, b, got)
	}
	if got := impl.CompareRatios(a, b); got != 2 {
		t.Errorf("CompareRatios(%v, %v) = %d", a, b, got)
	}
}

func TestNoRatiosAmongTwo(t *testing.T) {
	for _, r := range noRatios() {
		for _, s := range someRatios() {
			checkNone(t, r, s)
			checkNone(t, s, r)
		}
		for _, s := range noRatios() {
			checkNone(t, r, s)
		}
	}
}

func TestMakeRatio(t *testing.T) {
	terms := []int{most, most - 1, most + 1, 2 * most, 2*most + 2, most * most, most*most + most, mostTerm, mostTerm - 1, mostTerm - 2, mostTerm / 3, mostTerm / 2, 1 << 60, 1 << 30, 999999937}
	for n := -30; n <= 30; n++ {
		terms = append(terms, n)
	}
	for _, n := range terms {
		for _, d := range terms {
			if d == 0 {
				continue
			}
			for _, s := range [][2]int{{n, d}, {-n, d}, {n, -d}, {-n, -d}} {
				want := ratioFrom(fraction(s[0], s[1]))
				if got := impl.MakeRatio(s[0], s[1]); got != want {
					t.Errorf("MakeRatio(%d, %d) = %v, not %v", s[0], s[1], got, want)
				}
			}
		}
	}
}

func TestMakeRatioCases(t *testing.T) {
	for _, c := range []struct {
		n, d int
		want impl.Ratio
	}{
		{6, 4, impl.Ratio{Num: 3, Den: 2}},
		{-6, 4, impl.Ratio{Num: -3, Den: 2}},
		{6, -4, impl.Ratio{Num: -3, Den: 2}},
		{-6, -4, impl.Ratio{Num: 3, Den: 2}},
		{0, -7, impl.Ratio{Den: 1}},
		{0, mostTerm, impl.Ratio{Den: 1}},
		{0, -mostTerm, impl.Ratio{Den: 1}},
		{mostTerm, mostTerm, impl.Ratio{Num: 1, Den: 1}},
		{mostTerm, -mostTerm, impl.Ratio{Num: -1, Den: 1}},
		{-mostTerm, 2 * most, impl.Ratio{Num: -most, Den: 1}},
		{2 * most, mostTerm, impl.Ratio{Num: 1, Den: most}},
		{most, -1, impl.Ratio{Num: -most, Den: 1}},
		{-1, -most, impl.Ratio{Num: 1, Den: most}},
		{most, most - 1, impl.Ratio{Num: most, Den: most - 1}},
		{most + 1, 1, impl.Ratio{}},
		{-most - 1, 1, impl.Ratio{}},
		{1, most + 1, impl.Ratio{}},
		{1, -most - 1, impl.Ratio{}},
		{mostTerm, 1, impl.Ratio{}},
		{1, mostTerm, impl.Ratio{}},
	} {
		if got := impl.MakeRatio(c.n, c.d); got != c.want {
			t.Errorf("MakeRatio(%d, %d) = %v, not %v", c.n, c.d, got, c.want)
		}
	}
}

func TestMakeRatioRefuses(t *testing.T) {
	beyond := []int{mostTerm + 1, mostTerm + 2, mostTerm + mostTerm/2, 2 * mostTerm, -mostTerm - 1, -mostTerm - 2, -2 * mostTerm, math.MaxInt, math.MaxInt - 1, math.MinInt, math.MinInt + 1}
	within := []int{0, 1, -1, 2, -2, most, -most, mostTerm, -mostTerm}
	for _, x := range beyond {
		for _, y := range append(within, beyond...) {
			if got := impl.MakeRatio(x, y); got != (impl.Ratio{}) {
				t.Errorf("MakeRatio(%d, %d) = %v", x, y, got)
			}
			if got := impl.MakeRatio(y, x); got != (impl.Ratio{}) {
				t.Errorf("MakeRatio(%d, %d) = %v", y, x, got)
			}
		}
	}
	for _, n := range append(within, beyond...) {
		if got := impl.MakeRatio(n, 0); got != (impl.Ratio{}) {
			t.Errorf("MakeRatio(%d, 0) = %v", n, got)
		}
	}
}

func TestMakeRatioKeepsRatios(t *testing.T) {
	for _, r := range someRatios() {
		if got := impl.MakeRatio(r.Num, r.Den); got != r {
			t.Errorf("MakeRatio of %v = %v", r, got)
		}
	}
}

func TestResultsAreExact(t *testing.T) {
	for _, a := range someRatios() {
		for _, b := range someRatios() {
			sum := ratioFrom(new(big.Rat).Add(exact(a), exact(b)))
			if got := impl.AddRatios(a, b); got != sum {
				t.Errorf("AddRatios(%v, %v) = %v, not %v", a, b, got, sum)
			}
			product := ratioFrom(new(big.Rat).Mul(exact(a), exact(b)))
			if got := impl.MultiplyRatios(a, b); got != product {
				t.Errorf("MultiplyRatios(%v, %v) = %v, not %v", a, b, got, product)
			}
			quotient := impl.Ratio{}
			if b.Num != 0 {
				quotient = ratioFrom(new(big.Rat).Quo(exact(a), exact(b)))
			}
			if got := impl.DivideRatios(a, b); got != quotient {
				t.Errorf("DivideRatios(%v, %v) = %v, not %v", a, b, got, quotient)
			}
			if got, want := impl.CompareRatios(a, b), exact(a).Cmp(exact(b)); got != want {
				t.Errorf("CompareRatios(%v, %v) = %d, not %d", a, b, got, want)
			}
		}
	}
}

// TestResultsAtTheLimits names results that are just in range and just beyond it.
func TestResultsAtTheLimits(t *testing.T) {
	none := impl.Ratio{}
	one := impl.Ratio{Num: 1, Den: 1}
	top := impl.Ratio{Num: most, Den: 1}
	least := impl.Ratio{Num: 1, Den: most}
	below := impl.Ratio{Num: most - 1, Den: 1}
	for _, c := range []struct {
		name      string
		got, want impl.Ratio
	}{
		{"below + 1", impl.AddRatios(below, one), top},
		{"top + 1", impl.AddRatios(top, one), none},
		{"top + top", impl.AddRatios(top, top), none},
		{"-top - top", impl.AddRatios(impl.NegateRatio(top), impl.NegateRatio(top)), none},
		{"top - top", impl.AddRatios(top, impl.NegateRatio(top)), impl.Ratio{Den: 1}},
		{"top + least", impl.AddRatios(top, least), none},
		{"least + least", impl.AddRatios(least, least), impl.Ratio{Num: 1, Den: most / 2}},
		{"1 - least", impl.AddRatios(one, impl.NegateRatio(least)), impl.Ratio{Num: most - 1, Den: most}},
		{"1 + least", impl.AddRatios(one, least), none},
		{"-top", impl.NegateRatio(top), impl.Ratio{Num: -most, Den: 1}},
		{"-(-top)", impl.NegateRatio(impl.Ratio{Num: -most, Den: 1}), top},
		{"-0", impl.NegateRatio(impl.Ratio{Den: 1}), impl.Ratio{Den: 1}},
		{"top * least", impl.MultiplyRatios(top, least), one},
		{"top * top", impl.MultiplyRatios(top, top), none},
		{"least * least", impl.MultiplyRatios(least, least), none},
		{"top / -top", impl.DivideRatios(top, impl.NegateRatio(top)), impl.Ratio{Num: -1, Den: 1}},
		{"1 / top", impl.DivideRatios(one, top), least},
		{"1 / least", impl.DivideRatios(one, least), top},
		{"1 / -least", impl.DivideRatios(one, impl.NegateRatio(least)), impl.NegateRatio(top)},
		{"top / least", impl.DivideRatios(top, least), none},
		{"least / top", impl.DivideRatios(least, top), none},
		{"top / 0", impl.DivideRatios(top, impl.Ratio{Den: 1}), none},
		{"0 / 0", impl.DivideRatios(impl.Ratio{Den: 1}, impl.Ratio{Den: 1}), none},
		{"0 / -top", impl.DivideRatios(impl.Ratio{Den: 1}, impl.NegateRatio(top)), impl.Ratio{Den: 1}},
	} {
		if c.got != c.want {
			t.Errorf("%s = %v, not %v", c.name, c.got, c.want)
		}
	}
}

func TestLawsOfTwo(t *testing.T) {
	none := impl.Ratio{}
	zero := impl.Ratio{Den: 1}
	one := impl.Ratio{Num: 1, Den: 1}
	for _, a := range someRatios() {
		if impl.AddRatios(a, zero) != a || impl.MultiplyRatios(a, one) != a || impl.DivideRatios(a, one) != a {
			t.Errorf("%v is changed by 0 or by 1", a)
		}
		if impl.MultiplyRatios(a, zero) != zero || impl.AddRatios(a, impl.NegateRatio(a)) != zero {
			t.Errorf("%v times 0 or less itself is not 0", a)
		}
		if a != zero && impl.DivideRatios(a, a) != one {
			t.Errorf("%v divided by itself is not 1", a)
		}
		if impl.NegateRatio(impl.NegateRatio(a)) != a {
			t.Errorf("%v negated twice is changed", a)
		}
		for _, b := range someRatios() {
			sum, product := impl.AddRatios(a, b), impl.MultiplyRatios(a, b)
			if sum != impl.AddRatios(b, a) || product != impl.MultiplyRatios(b, a) {
				t.Errorf("%v and %v do not commute", a, b)
			}
			if sum != none && impl.AddRatios(sum, impl.NegateRatio(b)) != a {
				t.Errorf("%v is not the sum with %v less it", a, b)
			}
			if product != none && b != zero && impl.DivideRatios(product, b) != a {
				t.Errorf("%v is not the product with %v divided by it", a, b)
			}
			if impl.CompareRatios(a, b) != -impl.CompareRatios(b, a) || (impl.CompareRatios(a, b) == 0) != (a == b) {
				t.Errorf("%v and %v are not compared the same both ways", a, b)
			}
		}
	}
}

// checkThree checks the laws of three ratios of which all results are in range.
func checkThree(t *testing.T, a impl.Ratio, b impl.Ratio, c impl.Ratio) {
	t.Helper()
	left, right := impl.AddRatios(impl.AddRatios(a, b), c), impl.AddRatios(a, impl.AddRatios(b, c))
	if left != right || left == (impl.Ratio{}) {
		t.Errorf("the sums of %v, %v and %v are %v and %v", a, b, c, left, right)
	}
	left, right = impl.MultiplyRatios(impl.MultiplyRatios(a, b), c), impl.MultiplyRatios(a, impl.MultiplyRatios(b, c))
	if left != right || left == (impl.Ratio{}) {
		t.Errorf("the products of %v, %v and %v are %v and %v", a, b, c, left, right)
	}
	left = impl.MultiplyRatios(a, impl.AddRatios(b, c))
	right = impl.AddRatios(impl.MultiplyRatios(a, b), impl.MultiplyRatios(a, c))
	if left != right || left == (impl.Ratio{}) {
		t.Errorf("%v is not distributed over %v and %v: %v and %v", a, b, c, left, right)
	}
	if impl.CompareRatios(impl.AddRatios(a, c), impl.AddRatios(b, c)) != impl.CompareRatios(a, b) {
		t.Errorf("%v changes the order of %v and %v", c, a, b)
	}
	if impl.CompareRatios(a, b) <= 0 && impl.CompareRatios(b, c) <= 0 && impl.CompareRatios(a, c) > 0 {
		t.Errorf("%v, %v and %v are not in order", a, b, c)
	}
}

func TestLawsOfThree(t *testing.T) {
	l := smallRatios(4)
	for _, a := range l {
		for _, b := range l {
			for _, c := range l {
				checkThree(t, a, b, c)
			}
		}
	}
}

func TestWholeNumbersEncloseRatios(t *testing.T) {
	for _, r := range append(smallRatios(12), someRatios()...) {
		low, high := impl.FloorRatio(r), impl.CeilRatio(r)
		x := exact(r)
		if fraction(low, 1).Cmp(x) > 0 || fraction(low+1, 1).Cmp(x) <= 0 {
			t.Errorf("FloorRatio(%v) = %d", r, low)
		}
		if fraction(high, 1).Cmp(x) < 0 || fraction(high-1, 1).Cmp(x) >= 0 {
			t.Errorf("CeilRatio(%v) = %d", r, high)
		}
	}
}

func TestRounding(t *testing.T) {
	for _, c := range []struct {
		r         impl.Ratio
		low, high int
	}{
		{impl.Ratio{Den: 1}, 0, 0},
		{impl.Ratio{Num: 7, Den: 1}, 7, 7},
		{impl.Ratio{Num: -7, Den: 1}, -7, -7},
		{impl.Ratio{Num: 7, Den: 2}, 3, 4},
		{impl.Ratio{Num: -7, Den: 2}, -4, -3},
		{impl.Ratio{Num: 1, Den: 3}, 0, 1},
		{impl.Ratio{Num: -1, Den: 3}, -1, 0},
		{impl.Ratio{Num: most, Den: 1}, most, most},
		{impl.Ratio{Num: -most, Den: 1}, -most, -most},
		{impl.Ratio{Num: 1, Den: most}, 0, 1},
		{impl.Ratio{Num: -1, Den: most}, -1, 0},
		{impl.Ratio{Num: most - 1, Den: most}, 0, 1},
		{impl.Ratio{Num: 1 - most, Den: most}, -1, 0},
		{impl.Ratio{Num: most, Den: most - 1}, 1, 2},
		{impl.Ratio{Num: -most, Den: most - 1}, -2, -1},
		{impl.Ratio{Num: most - 1, Den: 2}, most/2 - 1, most / 2},
		{impl.Ratio{Num: 1 - most, Den: 2}, -most / 2, 1 - most/2},
	} {
		if got := impl.FloorRatio(c.r); got != c.low {
			t.Errorf("FloorRatio(%v) = %d, not %d", c.r, got, c.low)
		}
		if got := impl.CeilRatio(c.r); got != c.high {
			t.Errorf("CeilRatio(%v) = %d, not %d", c.r, got, c.high)
		}
	}
}
