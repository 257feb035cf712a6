package tests

import (
	"math"
	"math/big"
	"slices"
	"testing"

	"loop.example/g03407/impl"
)

// mostAmount is the greatest amount that is shared.
const mostAmount = 1000000000

// mostWeight is the greatest weight, mostWeights the greatest number of weights.
const (
	mostWeight  = 1000000
	mostWeights = 40
)

func TestLimitsOfSharing(t *testing.T) {
	if impl.MaxAmount != mostAmount || impl.MaxWeight != mostWeight || impl.MaxWeights != mostWeights {
		t.Errorf("the limits are %d, %d and %d", impl.MaxAmount, impl.MaxWeight, impl.MaxWeights)
	}
}

// equalWeights returns n weights that are all w.
func equalWeights(n int, w int) []int { return slices.Repeat([]int{w}, n) }

// listsOver returns all lists of at most n of the values.
func listsOver(values []int, n int) [][]int {
	all := [][]int{nil}
	last := all
	for range n {
		var longer [][]int
		for _, l := range last {
			for _, v := range values {
				longer = append(longer, append(slices.Clone(l), v))
			}
		}
		all = append(all, longer...)
		last = longer
	}
	return all
}

// someWeights returns small weights, uneven ones, and those at the limits.
func someWeights() [][]int {
	l := [][]int{
		{mostWeight}, {0, mostWeight, 0}, {mostWeight, 1}, {1, mostWeight, 1}, {999983, 999979, 999961},
		{1, 2, 3, 4, 5, 6, 7, 8, 9, 10}, {0, 0, 5, 0, 3, 0, 0}, {7, 7, 7, 1, 7, 7, 7},
		equalWeights(mostWeights, mostWeight), equalWeights(mostWeights, 1), equalWeights(mostWeights, 999983),
	}
	rising := make([]int, mostWeights)
	for i := range rising {
		rising[i] = i * mostWeight / (mostWeights - 1)
	}
	// Many equal remainders, mixed with others.
	mixed := make([]int, mostWeights)
	for i := range mixed {
		mixed[i] = i * i % 7
	}
	l = append(l, rising, mixed)
	for _, w := range listsOver([]int{0, 1, 2, 5}, 4) {
		if slices.ContainsFunc(w, func(n int) bool { return n > 0 }) {
			l = append(l, w)
		}
	}
	return l
}

// noWeights returns lists that are no weights; each breaks one rule.
func noWeights() [][]int {
	return [][]int{
		nil, {},
		// all 0
		{0}, {0, 0}, {0, 0, 0}, equalWeights(mostWeights, 0),
		// negative ones, also where the sum would do
		{-1}, {-1, 2}, {2, -1}, {5, -1, 5}, {math.MinInt}, {math.MinInt, 1}, {1, 1, math.MinInt}, {-mostWeight, mostWeight},
		// beyond the limit, also where the sum would wrap around
		{mostWeight + 1}, {1, mostWeight + 1}, {mostWeight + 1, 0, 0}, {0, math.MaxInt}, {math.MaxInt, math.MaxInt, 3}, {1 << 32, 1},
		// too many
		equalWeights(mostWeights+1, 1), equalWeights(mostWeights+1, mostWeight), equalWeights(mostWeights+1, 0), equalWeights(200, 1),
		append(equalWeights(mostWeights, 0), 1), append([]int{1}, equalWeights(mostWeights, 0)...),
	}
}

// someTotals returns totals of both signs and 0, small ones and those at the limits.
func someTotals() []int {
	l := []int{mostAmount, mostAmount - 1, mostAmount / 2, 999999937, 123456789, 100, 97, 1000003}
	for n := 1; n <= 13; n++ {
		l = append(l, n)
	}
	for _, n := range slices.Clone(l) {
		l = append(l, -n)
	}
	return append(l, 0)
}

// noTotals returns totals that are not shared.
func noTotals() []int {
	return []int{mostAmount + 1, -mostAmount - 1, mostAmount + 2, -mostAmount - 2, 2 * mostAmount, 1 << 32, 1 << 62, math.MaxInt, math.MinInt, math.MinInt + 1}
}

// exactSum returns the sum of the exact shares of the weights from the index from up to that of to.
func exactSum(total int, weights []int, from int, to int) *big.Rat {
	part, whole := 0, 0
	for i, w := range weights {
		whole += w
		if i >= from && i < to {
			part += w
		}
	}
	return new(big.Rat).Mul(fraction(total, 1), fraction(part, whole))
}

// towardsZero returns x rounded towards zero.
func towardsZero(x *big.Rat) int { return int(new(big.Int).Quo(x.Num(), x.Denom()).Int64()) }

// isWholeOff reports whether a share is at least one whole more or less than x.
func isWholeOff(share int, x *big.Rat) bool {
	off := new(big.Rat).Sub(fraction(share, 1), x)
	return off.Abs(off).Cmp(fraction(1, 1)) >= 0
}

// sharesMatch reports whether shares are the total together, and none is off by a whole one.
func sharesMatch(total int, weights []int, shares []int) bool {
	if len(shares) != len(weights) {
		return false
	}
	sum := new(big.Int)
	for k, n := range shares {
		sum.Add(sum, big.NewInt(int64(n)))
		if isWholeOff(n, exactSum(total, weights, k, k+1)) {
			return false
		}
	}
	return sum.Cmp(big.NewInt(int64(total))) == 0
}

// sharesByCuts shares by giving again and again to the first of the shares from which most was cut off.
func sharesByCuts(total int, weights []int) []int {
	shares := make([]int, len(weights))
	cuts := make([]*big.Rat, len(weights))
	left, one := total, 1
	if total < 0 {
		one = -1
	}
	for k := range weights {
		x := exactSum(total, weights, k, k+1)
		shares[k] = towardsZero(x)
		cuts[k] = new(big.Rat).Sub(x, fraction(shares[k], 1))
		cuts[k].Abs(cuts[k])
		left -= shares[k]
	}
	for ; left != 0; left -= one {
		best := 0
		for k, c := range cuts {
			if c.Cmp(cuts[best]) > 0 {
				best = k
			}
		}
		shares[best] += one
		cuts[best] = fraction(-1, 1)
	}
	return shares
}

func TestAreWeights(t *testing.T) {
	for _, w := range someWeights() {
		if !impl.AreWeights(w) {
			t.Errorf("%v are no weights", w)
		}
	}
	for _, w := range noWeights() {
		if impl.AreWeights(w) {
			t.Errorf("%v are weights", w)
		}
	}
}

func TestWeightsThatAreAllZero(t *testing.T) {
	for n := 0; n <= mostWeights; n++ {
		weights := equalWeights(n, 0)
		if impl.AreWeights(weights) {
			t.Errorf("%d times 0 are weights", n)
		}
		for _, total := range []int{0, 1, -1, 10, mostAmount, -mostAmount} {
			checkNoSharing(t, total, weights)
		}
		for k := range n {
			one := slices.Clone(weights)
			one[k] = 1
			if !impl.AreWeights(one) {
				t.Errorf("%v are no weights", one)
			}
		}
	}
}

// checkNoSharing checks that no function shares total by the weights.
func checkNoSharing(t *testing.T, total int, weights []int) {
	t.Helper()
	for _, k := range []int{-1, 0, 1, len(weights), len(weights) + 1} {
		if n, ok := impl.ShareUpTo(total, weights, k); n != 0 || ok {
			t.Errorf("ShareUpTo(%d, %v, %d) = %d, %v", total, weights, k, n, ok)
		}
	}
	if l, ok := impl.Apportion(total, weights); len(l) != 0 || ok {
		t.Errorf("Apportion(%d, %v) = %v, %v", total, weights, l, ok)
	}
	if l, ok := impl.LargestRemainder(total, weights); len(l) != 0 || ok {
		t.Errorf("LargestRemainder(%d, %v) = %v, %v", total, weights, l, ok)
	}
	equal := make([]int, len(weights))
	for _, shares := range [][]int{nil, equal, weights, {total}} {
		if impl.IsSharing(total, weights, shares) {
			t.Errorf("IsSharing(%d, %v, %v)", total, weights, shares)
		}
	}
}

func TestInvalidTotalsAndWeights(t *testing.T) {
	for _, weights := range noWeights() {
		for _, total := range append(someTotals(), noTotals()...) {
			checkNoSharing(t, total, weights)
		}
	}
	for _, total := range noTotals() {
		for _, weights := range someWeights() {
			checkNoSharing(t, total, weights)
		}
		if impl.IsSharing(total, []int{1}, []int{total}) || impl.IsSharing(total, []int{1, 1}, []int{total / 2, total - total/2}) {
			t.Errorf("%d is shared", total)
		}
	}
}

func TestShareUpTo(t *testing.T) {
	for _, weights := range someWeights() {
		for _, total := range someTotals() {
			for k := 0; k <= len(weights); k++ {
				want := towardsZero(exactSum(total, weights, 0, k))
				if n, ok := impl.ShareUpTo(total, weights, k); n != want || !ok {
					t.Errorf("ShareUpTo(%d, %v, %d) = %d, %v, not %d", total, weights, k, n, ok, want)
				}
			}
			if n, _ := impl.ShareUpTo(total, weights, 0); n != 0 {
				t.Errorf("none of %v have %d of %d", weights, n, total)
			}
			if n, _ := impl.ShareUpTo(total, weights, len(weights)); n != total {
				t.Errorf("all of %v have %d of %d", weights, n, total)
			}
			for _, k := range []int{-1, -2, len(weights) + 1, len(weights) + 2, mostWeights + 1, math.MaxInt, math.MinInt} {
				if n, ok := impl.ShareUpTo(total, weights, k); n != 0 || ok {
					t.Errorf("ShareUpTo(%d, %v, %d) = %d, %v", total, weights, k, n, ok)
				}
			}
		}
	}
}

func TestApportion(t *testing.T) {
	for _, weights := range someWeights() {
		for _, total := range someTotals() {
			l, ok := impl.Apportion(total, weights)
			if !ok || !sharesMatch(total, weights, l) {
				t.Fatalf("Apportion(%d, %v) = %v, %v", total, weights, l, ok)
			}
			for k, n := range l {
				want := towardsZero(exactSum(total, weights, 0, k+1)) - towardsZero(exactSum(total, weights, 0, k))
				if n != want {
					t.Errorf("Apportion(%d, %v) = %v: share %d is not %d", total, weights, l, k, want)
				}
			}
			if !impl.IsSharing(total, weights, l) {
				t.Errorf("Apportion(%d, %v) = %v is no sharing", total, weights, l)
			}
		}
	}
}

func TestLargestRemainder(t *testing.T) {
	for _, weights := range someWeights() {
		for _, total := range someTotals() {
			l, ok := impl.LargestRemainder(total, weights)
			if want := sharesByCuts(total, weights); !ok || !slices.Equal(l, want) {
				t.Errorf("LargestRemainder(%d, %v) = %v, %v, not %v", total, weights, l, ok, want)
			}
			if !sharesMatch(total, weights, l) || !impl.IsSharing(total, weights, l) {
				t.Errorf("LargestRemainder(%d, %v) = %v is no sharing", total, weights, l)
			}
		}
	}
}

func TestSharesCases(t *testing.T) {
	for _, c := range []struct {
		total                      int
		weights, running, remained []int
	}{
		{10, []int{1, 1, 1}, []int{3, 3, 4}, []int{4, 3, 3}},
		{-10, []int{1, 1, 1}, []int{-3, -3, -4}, []int{-4, -3, -3}},
		{11, []int{1, 1, 1}, []int{3, 4, 4}, []int{4, 4, 3}},
		{-11, []int{1, 1, 1}, []int{-3, -4, -4}, []int{-4, -4, -3}},
		{7, []int{5, 2, 3}, []int{3, 1, 3}, []int{4, 1, 2}},
		{-7, []int{5, 2, 3}, []int{-3, -1, -3}, []int{-4, -1, -2}},
		// 1.5, 1, 1.5 and 1, of which only the first and the third are cut
		{5, []int{3, 2, 3, 2}, []int{1, 1, 2, 1}, []int{2, 1, 1, 1}},
		// the most is cut off from the last one
		{10, []int{4, 4, 7}, []int{2, 3, 5}, []int{3, 3, 4}},
		{3, []int{1, 1, 9}, []int{0, 0, 3}, []int{0, 0, 3}},
		// nothing is cut off
		{10, []int{1, 0, 4}, []int{2, 0, 8}, []int{2, 0, 8}},
		{0, []int{1, 2, 0}, []int{0, 0, 0}, []int{0, 0, 0}},
		// a weight of 0 gets nothing, wherever it is
		{1, []int{0, 1, 1, 0}, []int{0, 0, 1, 0}, []int{0, 1, 0, 0}},
		{-1, []int{0, 1, 1, 0}, []int{0, 0, -1, 0}, []int{0, -1, 0, 0}},
		{mostAmount, []int{mostWeight}, []int{mostAmount}, []int{mostAmount}},
		{-mostAmount, []int{0, mostWeight}, []int{0, -mostAmount}, []int{0, -mostAmount}},
		{mostAmount, []int{1, 1, 1}, []int{333333333, 333333333, 333333334}, []int{333333334, 333333333, 333333333}},
	} {
		if l, ok := impl.Apportion(c.total, c.weights); !ok || !slices.Equal(l, c.running) {
			t.Errorf("Apportion(%d, %v) = %v, %v, not %v", c.total, c.weights, l, ok, c.running)
		}
		if l, ok := impl.LargestRemainder(c.total, c.weights); !ok || !slices.Equal(l, c.remained) {
			t.Errorf("LargestRemainder(%d, %v) = %v, %v, not %v", c.total, c.weights, l, ok, c.remained)
		}
	}
}

func TestEarlierSharesFirst(t *testing.T) {
	for n := 2; n <= mostWeights; n++ {
		weights := equalWeights(n, 3)
		for left := range n {
			want := equalWeights(n, 2)
			for k := range left {
				want[k]++
			}
			if l, _ := impl.LargestRemainder(2*n+left, weights); !slices.Equal(l, want) {
				t.Errorf("%d among %d are %v", 2*n+left, n, l)
			}
			for k := range want {
				want[k] = -want[k]
			}
			if l, _ := impl.LargestRemainder(-2*n-left, weights); !slices.Equal(l, want) {
				t.Errorf("%d among %d are %v", -2*n-left, n, l)
			}
		}
	}
}

// TestIsSharingOfAll compares with the promise for all small shares, among them too few and too many ones.
func TestIsSharingOfAll(t *testing.T) {
	shares := listsOver([]int{-3, -2, -1, 0, 1, 2, 3, 4}, 4)
	for _, weights := range [][]int{{1}, {3}, {1, 1}, {1, 2}, {0, 1}, {1, 1, 1}, {5, 2, 3}, {2, 0, 1}} {
		for total := -7; total <= 7; total++ {
			for _, l := range shares {
				if want := sharesMatch(total, weights, l); impl.IsSharing(total, weights, l) != want {
					t.Errorf("IsSharing(%d, %v, %v) is %v", total, weights, l, !want)
				}
			}
		}
	}
}

func TestIsSharingCases(t *testing.T) {
	for _, c := range []struct {
		total           int
		weights, shares []int
		want            bool
	}{
		{10, []int{1, 1, 1}, []int{3, 3, 4}, true},
		{10, []int{1, 1, 1}, []int{3, 4, 3}, true},
		{-10, []int{1, 1, 1}, []int{-4, -3, -3}, true},
		{0, []int{1, 1}, []int{0, 0}, true},
		// too few and too many shares
		{10, []int{1, 1, 1}, []int{5, 5}, false},
		{10, []int{1, 1, 1}, nil, false},
		{0, []int{1, 1}, nil, false},
		{0, []int{1, 1}, []int{0}, false},
		{0, []int{1, 1}, []int{0, 0, 0}, false},
		{10, []int{1, 1, 1}, []int{3, 3, 4, 0}, false},
		// not the total together
		{10, []int{1, 1, 1}, []int{3, 3, 3}, false},
		{10, []int{1, 1, 1}, []int{4, 4, 3}, false},
		{-10, []int{1, 1, 1}, []int{-3, -3, -3}, false},
		{-10, []int{1, 1, 1}, []int{3, 3, 4}, false},
		// one off by a whole one, up, down, and from a whole share
		{10, []int{1, 1, 1}, []int{2, 4, 4}, false},
		{10, []int{1, 1, 1}, []int{5, 3, 2}, false},
		{-10, []int{1, 1, 1}, []int{-2, -4, -4}, false},
		{4, []int{1, 1}, []int{1, 3}, false},
		{4, []int{1, 1}, []int{3, 1}, false},
		{-4, []int{1, 1}, []int{-1, -3}, false},
		{0, []int{1, 1}, []int{1, -1}, false},
		{1, []int{1, 1}, []int{2, -1}, false},
		{1, []int{0, 1}, []int{1, 0}, false},
		// below one, only 0 and the one of the same sign
		{1, []int{1, 1}, []int{0, 1}, true},
		{-1, []int{1, 1}, []int{-1, 0}, true},
		{1, []int{1, 1, 1}, []int{1, 1, -1}, false},
		{-1, []int{1, 1, 1}, []int{-1, -1, 1}, false},
		// at the limits
		{mostAmount, []int{mostWeight}, []int{mostAmount}, true},
		{-mostAmount, []int{mostWeight}, []int{-mostAmount}, true},
		{mostAmount, []int{mostWeight}, []int{mostAmount - 1}, false},
		{mostAmount, []int{mostWeight}, []int{mostAmount + 1}, false},
		{mostAmount, equalWeights(mostWeights, mostWeight), equalWeights(mostWeights, mostAmount/mostWeights), true},
		{-mostAmount, equalWeights(mostWeights, mostWeight), equalWeights(mostWeights, -mostAmount/mostWeights), true},
		// shares that are the total only where numbers wrap around
		{-2, []int{1, 1}, []int{math.MaxInt, math.MaxInt}, false},
		{0, []int{1, 1}, []int{math.MinInt, math.MinInt}, false},
		{1, []int{1, 1, 1}, []int{math.MinInt, math.MinInt, 1}, false},
		{0, equalWeights(4, 1), equalWeights(4, 1<<62), false},
		{3, []int{1, 2}, []int{1 + 1<<62, 2 - 1<<62}, false},
	} {
		if got := impl.IsSharing(c.total, c.weights, c.shares); got != c.want {
			t.Errorf("IsSharing(%d, %v, %v) is %v", c.total, c.weights, c.shares, got)
		}
	}
}

// TestIsSharingOfMovedOnes moves one from a share to another one, at and near to the limits.
func TestIsSharingOfMovedOnes(t *testing.T) {
	for _, weights := range someWeights() {
		for _, total := range []int{mostAmount, -mostAmount, 999999937, -999999937, 100, -100, 0} {
			shares, _ := impl.Apportion(total, weights)
			for k := 1; k < len(shares); k++ {
				for _, n := range []int{1, -1, 2, -2} {
					l := slices.Clone(shares)
					l[k-1], l[k] = l[k-1]+n, l[k]-n
					if want := sharesMatch(total, weights, l); impl.IsSharing(total, weights, l) != want {
						t.Errorf("IsSharing(%d, %v, %v) is %v", total, weights, l, !want)
					}
				}
			}
		}
	}
}

// TestSharesAreNewMemory checks that arguments stay as they are, in their unused capacity too, and that results share none of it.
func TestSharesAreNewMemory(t *testing.T) {
	given := []int{5, 2, 3, 77, 78, 79}
	kept := slices.Clone(given)
	weights := given[:3]
	first, _ := impl.Apportion(7, weights)
	second, _ := impl.LargestRemainder(7, weights)
	impl.ShareUpTo(7, weights, 2)
	impl.AreWeights(weights)
	impl.IsSharing(6, weights, weights)
	for _, l := range [][]int{first, second} {
		l = l[:cap(l)]
		for i := range l {
			l[i] = -1
		}
	}
	if !slices.Equal(given, kept) {
		t.Errorf("the weights are now %v", given)
	}
	again, _ := impl.LargestRemainder(7, weights)
	if !slices.Equal(again, []int{4, 1, 2}) {
		t.Errorf("shares changed to %v", again)
	}
}
