package tests

import (
	"math"
	"math/big"
	"slices"
	"strconv"
	"strings"
	"testing"

	"loop.example/g01087/impl"
)

// over is short for the Frac of num and den, valid or not.
func over(num int, den int) impl.Frac { return impl.Frac{Num: num, Den: den} }

// isPlainFrac says what a Frac is by trying all divisors, for small Dens.
func isPlainFrac(a impl.Frac) bool {
	if a.Den < 1 || a.Den > impl.MaxDen || a.Num < -impl.MaxNum || a.Num > impl.MaxNum {
		return false
	}
	for d := 2; d <= a.Den; d++ {
		if a.Den%d == 0 && a.Num%d == 0 {
			return false
		}
	}
	return true
}

// exact returns the number that a stands for.
func exact(a impl.Frac) *big.Rat { return big.NewRat(int64(a.Num), int64(a.Den)) }

// fracOf returns the Frac of an exact number, and whether there is one.
func fracOf(x *big.Rat) (impl.Frac, bool) {
	if x.Denom().Cmp(big.NewInt(impl.MaxDen)) > 0 || new(big.Int).Abs(x.Num()).Cmp(big.NewInt(impl.MaxNum)) > 0 {
		return impl.Frac{}, false
	}
	return over(int(x.Num().Int64()), int(x.Denom().Int64())), true
}

// invalidFracs are Fracs that no function may take.
var invalidFracs = []impl.Frac{
	over(0, 0), over(1, 0), over(1, -1), over(-1, -1), over(0, 2), over(0, -1), over(0, impl.MaxDen), over(2, 4), over(-2, 4), over(6, 3),
	over(5, 5), over(-7, 7), over(100, 1000), over(impl.MaxNum, impl.MaxDen), over(impl.MaxNum+1, 1), over(-impl.MaxNum-1, 1), over(impl.MaxNum+1, 2),
	over(1, impl.MaxDen+1), over(-1, impl.MaxDen+1), over(1, -impl.MaxDen), over(impl.MaxNum, -1),
	over(math.MaxInt, 1), over(math.MinInt, 1), over(1, math.MaxInt), over(1, math.MinInt), over(math.MinInt, math.MinInt),
	over(math.MaxInt, math.MaxInt), over(math.MinInt, math.MaxInt), over(math.MaxInt, math.MinInt), over(0, math.MaxInt), over(0, math.MinInt),
	over(math.MinInt, 0), over(math.MinInt, -1), over(-1, 0),
}

// wideFracs are Fracs of all sizes, up to the bounds.
var wideFracs = []impl.Frac{
	over(0, 1), over(1, 1), over(-1, 1), over(1, 2), over(-1, 2), over(2, 3), over(-7, 3), over(12, 1), over(-12, 1), over(355, 113), over(-355, 113),
	over(impl.MaxNum, 1), over(-impl.MaxNum, 1), over(impl.MaxNum-1, 1), over(1-impl.MaxNum, 1), over(impl.MaxNum/2, 1), over(impl.MaxNum/2+1, 1),
	over(1, impl.MaxDen), over(-1, impl.MaxDen), over(1, impl.MaxDen-1), over(-1, impl.MaxDen-1), over(impl.MaxDen-1, impl.MaxDen), over(impl.MaxDen+1, impl.MaxDen),
	over(impl.MaxNum-1, impl.MaxDen), over(1-impl.MaxNum, impl.MaxDen), over(impl.MaxNum, impl.MaxDen-1), over(-impl.MaxNum, impl.MaxDen-1),
	over(impl.MaxNum, 3), over(-impl.MaxNum, 7), over(10000, 1), over(10001, 1), over(1, 250), over(1, 400), over(1, 401), over(1, 316), over(1, 315), over(1, 317),
	over(99899001, impl.MaxDen), over(99999, 2), over(2, 99999), over(65536, 99), over(99, 65536), over(1, 50000), over(1, 99998),
}

func TestChapter2Constants(t *testing.T) {
	if impl.MaxNum != 100000000 || impl.MaxDen != 100000 {
		t.Error("limits", impl.MaxNum, impl.MaxDen)
	}
}

func TestIsFrac(t *testing.T) {
	for num := -40; num <= 40; num++ {
		for den := -5; den <= 40; den++ {
			if a := over(num, den); impl.IsFrac(a) != isPlainFrac(a) {
				t.Errorf("IsFrac(%v) is not %v", a, isPlainFrac(a))
			}
		}
	}
	for _, a := range wideFracs {
		if !impl.IsFrac(a) || !isPlainFrac(a) {
			t.Errorf("%v is no Frac", a)
		}
	}
	for _, a := range invalidFracs {
		if impl.IsFrac(a) {
			t.Errorf("%v is a Frac", a)
		}
	}
}

func TestMakeFrac(t *testing.T) {
	const most = 1000000000000000
	for _, c := range []struct {
		num, den int
		want     impl.Frac
	}{
		{6, 4, over(3, 2)}, {-6, 4, over(-3, 2)}, {0, 7, over(0, 1)}, {0, most, over(0, 1)}, {12, 4, over(3, 1)}, {-12, 12, over(-1, 1)},
		{most, most, over(1, 1)}, {-most, most, over(-1, 1)}, {most, most / impl.MaxNum, over(impl.MaxNum, 1)}, {-most, most / impl.MaxNum, over(-impl.MaxNum, 1)},
		{most / impl.MaxDen, most, over(1, impl.MaxDen)}, {impl.MaxNum, 1, over(impl.MaxNum, 1)}, {1, impl.MaxDen, over(1, impl.MaxDen)},
		{2 * impl.MaxNum, 6, over(impl.MaxNum, 3)}, {14, 2 * impl.MaxDen, over(7, impl.MaxDen)}, {999999999999999, 999999999999999, over(1, 1)},
		{most - 1, 333333333333333, over(3, 1)},
	} {
		if a, ok := impl.MakeFrac(c.num, c.den); !ok || a != c.want {
			t.Errorf("MakeFrac(%d, %d) = %v, %v", c.num, c.den, a, ok)
		}
	}
	for _, c := range [][2]int{
		{1, 0}, {0, 0}, {0, -1}, {1, -1}, {4, -2}, {impl.MaxNum + 1, 1}, {-impl.MaxNum - 1, 1}, {1, impl.MaxDen + 1}, {2*impl.MaxNum + 2, 2}, {most, 1}, {most, 3}, {1, most},
		// one beyond 10^15, where the number itself would be a Frac
		{most + 1, 142857142857143}, {-most - 1, 142857142857143}, {most + 1, most + 1}, {0, most + 1}, {most, most + 1}, {142857142857143, most + 1},
		{most + 1, most}, {most, -most}, {math.MaxInt, math.MaxInt}, {math.MinInt, math.MaxInt}, {math.MinInt, math.MinInt}, {math.MinInt, 1}, {0, math.MaxInt}, {0, math.MinInt}, {math.MaxInt, 1},
	} {
		if a, ok := impl.MakeFrac(c[0], c[1]); ok || a != (impl.Frac{}) {
			t.Errorf("MakeFrac(%d, %d) = %v, %v", c[0], c[1], a, ok)
		}
	}
}

func TestMakeFracIsTheReducedNumber(t *testing.T) {
	for num := -60; num <= 60; num++ {
		for den := 1; den <= 60; den++ {
			want, _ := fracOf(big.NewRat(int64(num), int64(den)))
			for _, times := range []int{1, 2, 6, 9999991, 1000000000000} {
				if a, ok := impl.MakeFrac(num*times, den*times); !ok || a != want {
					t.Fatalf("MakeFrac(%d, %d) = %v, %v", num*times, den*times, a, ok)
				}
			}
		}
	}
}

// fracOperations are the four operations on Fracs with what they stand for.
var fracOperations = []struct {
	name  string
	of    func(impl.Frac, impl.Frac) (impl.Frac, bool)
	exact func(z, x, y *big.Rat) *big.Rat
}{
	{"AddFracs", impl.AddFracs, (*big.Rat).Add},
	{"SubFracs", impl.SubFracs, (*big.Rat).Sub},
	{"MulFracs", impl.MulFracs, (*big.Rat).Mul},
	{"DivFracs", impl.DivFracs, (*big.Rat).Quo},
}

func TestOperationsAreExact(t *testing.T) {
	some := slices.Clone(wideFracs)
	for num := -9; num <= 9; num++ {
		for den := 1; den <= 9; den++ {
			if a := over(num, den); isPlainFrac(a) {
				some = append(some, a)
			}
		}
	}
	for _, op := range fracOperations {
		taken, refused := 0, 0
		for _, a := range some {
			for _, b := range some {
				want, is := impl.Frac{}, false
				if op.name != "DivFracs" || b.Num != 0 {
					want, is = fracOf(op.exact(new(big.Rat), exact(a), exact(b)))
				}
				if c, ok := op.of(a, b); ok != is || c != want {
					t.Fatalf("%s(%v, %v) = %v, %v and not %v, %v", op.name, a, b, c, ok, want, is)
				}
				if is {
					taken++
				} else {
					refused++
				}
			}
		}
		if taken < 1000 || refused < 100 {
			t.Error("too little was tried", op.name, taken, refused)
		}
	}
}

func TestOperationsAtTheBounds(t *testing.T) {
	for _, c := range []struct {
		op   int
		a, b impl.Frac
		want impl.Frac
		is   bool
	}{
		{0, over(impl.MaxNum-1, 1), over(1, 1), over(impl.MaxNum, 1), true},
		{0, over(impl.MaxNum, 1), over(1, 1), impl.Frac{}, false},
		{0, over(impl.MaxNum, 1), over(-impl.MaxNum, 1), over(0, 1), true},
		{0, over(1-impl.MaxNum, 1), over(-1, 1), over(-impl.MaxNum, 1), true},
		{0, over(-impl.MaxNum, 1), over(-1, 1), impl.Frac{}, false},
		{0, over(1, 316), over(1, 315), over(631, 99540), true},
		{0, over(1, 317), over(1, 316), impl.Frac{}, false},
		{0, over(1, impl.MaxDen), over(1, impl.MaxDen), over(1, 50000), true},
		{0, over(1, impl.MaxDen), over(1, impl.MaxDen-1), impl.Frac{}, false},
		{0, over(impl.MaxNum, 1), over(1, 2), impl.Frac{}, false},
		{1, over(1-impl.MaxNum, 1), over(1, 1), over(-impl.MaxNum, 1), true},
		{1, over(-impl.MaxNum, 1), over(1, 1), impl.Frac{}, false},
		{1, over(impl.MaxNum, 1), over(impl.MaxNum, 1), over(0, 1), true},
		{1, over(impl.MaxNum, impl.MaxDen-1), over(impl.MaxNum, impl.MaxDen-1), over(0, 1), true},
		{2, over(10000, 1), over(10000, 1), over(impl.MaxNum, 1), true},
		{2, over(10000, 1), over(-10000, 1), over(-impl.MaxNum, 1), true},
		{2, over(10001, 1), over(10000, 1), impl.Frac{}, false},
		{2, over(1, 400), over(1, 250), over(1, impl.MaxDen), true},
		{2, over(1, 401), over(1, 250), impl.Frac{}, false},
		{2, over(0, 1), over(1, impl.MaxDen), over(0, 1), true},
		// a product whose terms are beyond those that MakeFrac takes, before they are reduced
		{2, over(impl.MaxNum, impl.MaxDen-1), over(99899001, impl.MaxDen), over(999000, 1), true},
		{2, over(-impl.MaxNum, impl.MaxDen-1), over(99899001, impl.MaxDen), over(-999000, 1), true},
		{3, over(impl.MaxNum, 1), over(1, 1), over(impl.MaxNum, 1), true},
		{3, over(impl.MaxNum, 1), over(1, 2), impl.Frac{}, false},
		{3, over(1, 1), over(impl.MaxDen, 1), over(1, impl.MaxDen), true},
		{3, over(1, 1), over(-impl.MaxDen, 1), over(-1, impl.MaxDen), true},
		{3, over(1, 1), over(impl.MaxDen+1, 1), impl.Frac{}, false},
		{3, over(-impl.MaxNum, 1), over(-impl.MaxNum, 1), over(1, 1), true},
		{3, over(-1, 2), over(-1, 3), over(3, 2), true},
		{3, over(1, 2), over(-1, 3), over(-3, 2), true},
		{3, over(0, 1), over(-1, 3), over(0, 1), true},
		{3, over(1, 1), over(0, 1), impl.Frac{}, false},
		{3, over(0, 1), over(0, 1), impl.Frac{}, false},
	} {
		if r, ok := fracOperations[c.op].of(c.a, c.b); ok != c.is || r != c.want {
			t.Errorf("%s(%v, %v) = %v, %v", fracOperations[c.op].name, c.a, c.b, r, ok)
		}
	}
}

func TestChapter2RefusesInvalidFracs(t *testing.T) {
	good := over(1, 2)
	for _, bad := range invalidFracs {
		for _, pair := range [][2]impl.Frac{{bad, good}, {good, bad}, {bad, bad}, {bad, over(0, 1)}, {over(0, 1), bad}} {
			for _, op := range fracOperations {
				if r, ok := op.of(pair[0], pair[1]); ok || r != (impl.Frac{}) {
					t.Errorf("%s(%v, %v) = %v, %v", op.name, pair[0], pair[1], r, ok)
				}
			}
			if side, ok := impl.CompareFracs(pair[0], pair[1]); ok || side != 0 {
				t.Errorf("CompareFracs(%v, %v) = %d, %v", pair[0], pair[1], side, ok)
			}
			if r, ok := impl.FracBetween(pair[0], pair[1]); ok || r != (impl.Frac{}) {
				t.Errorf("FracBetween(%v, %v) = %v, %v", pair[0], pair[1], r, ok)
			}
			if r, ok := impl.SumFracs(pair[:]); ok || r != (impl.Frac{}) {
				t.Errorf("SumFracs(%v) = %v, %v", pair, r, ok)
			}
		}
		if n, ok := impl.FloorFrac(bad); ok || n != 0 {
			t.Errorf("FloorFrac(%v) = %d, %v", bad, n, ok)
		}
		if n, ok := impl.CeilFrac(bad); ok || n != 0 {
			t.Errorf("CeilFrac(%v) = %d, %v", bad, n, ok)
		}
		if s, ok := impl.FracText(bad); ok || s != "" {
			t.Errorf("FracText(%v) = %q, %v", bad, s, ok)
		}
	}
}

func TestCompareFracs(t *testing.T) {
	for _, a := range wideFracs {
		for _, b := range wideFracs {
			if side, ok := impl.CompareFracs(a, b); !ok || side != exact(a).Cmp(exact(b)) {
				t.Errorf("CompareFracs(%v, %v) = %d, %v", a, b, side, ok)
			}
		}
	}
}

func TestFloorAndCeil(t *testing.T) {
	some := slices.Clone(wideFracs)
	for num := -30; num <= 30; num++ {
		for den := 1; den <= 7; den++ {
			if a := over(num, den); isPlainFrac(a) {
				some = append(some, a)
			}
		}
	}
	for _, a := range some {
		low, ok := impl.FloorFrac(a)
		if !ok || low*a.Den > a.Num || (low+1)*a.Den <= a.Num {
			t.Errorf("FloorFrac(%v) = %d, %v", a, low, ok)
		}
		high, ok := impl.CeilFrac(a)
		if !ok || high*a.Den < a.Num || (high-1)*a.Den >= a.Num {
			t.Errorf("CeilFrac(%v) = %d, %v", a, high, ok)
		}
	}
}

func TestSumFracs(t *testing.T) {
	whole := slices.Repeat([]impl.Frac{over(1, 1)}, 100)
	for _, c := range []struct {
		list []impl.Frac
		want impl.Frac
		is   bool
	}{
		{nil, over(0, 1), true},
		{[]impl.Frac{}, over(0, 1), true},
		{[]impl.Frac{over(-3, 7)}, over(-3, 7), true},
		{[]impl.Frac{over(1, 2), over(1, 2)}, over(1, 1), true},
		{[]impl.Frac{over(1, 2), over(1, 3), over(1, 6)}, over(1, 1), true},
		{[]impl.Frac{over(1, 2), over(-1, 2)}, over(0, 1), true},
		{whole, over(100, 1), true},
		{slices.Repeat([]impl.Frac{over(1000000, 1)}, 100), over(impl.MaxNum, 1), true},
		{slices.Repeat([]impl.Frac{over(1000001, 1)}, 100), impl.Frac{}, false},
		{append(slices.Clone(whole), over(0, 1)), impl.Frac{}, false},
		{slices.Repeat([]impl.Frac{over(0, 1)}, 101), impl.Frac{}, false},
		{slices.Repeat([]impl.Frac{over(0, 1)}, 100000), impl.Frac{}, false},
		// the sum of all is a Frac, but one on the way is not; in another order none is left out
		{[]impl.Frac{over(impl.MaxNum, 1), over(1, 1), over(-1, 1)}, impl.Frac{}, false},
		{[]impl.Frac{over(impl.MaxNum, 1), over(-1, 1), over(1, 1)}, over(impl.MaxNum, 1), true},
		{[]impl.Frac{over(1, 317), over(1, 316), over(-1, 317)}, impl.Frac{}, false},
		{[]impl.Frac{over(1, 317), over(-1, 317), over(1, 316)}, over(1, 316), true},
		// nothing after a sum that is no Frac counts, and an invalid one at the end does
		{[]impl.Frac{over(impl.MaxNum, 1), over(1, 1), over(2, 4)}, impl.Frac{}, false},
		{append(slices.Clone(whole[:99]), over(2, 2)), impl.Frac{}, false},
	} {
		if a, ok := impl.SumFracs(c.list); ok != c.is || a != c.want {
			t.Errorf("SumFracs of %d Fracs = %v, %v and not %v", len(c.list), a, ok, c.want)
		}
	}
}

func TestMeanFrac(t *testing.T) {
	greatest := slices.Repeat([]int{impl.MaxNum}, 100)
	for _, c := range []struct {
		list []int
		want impl.Frac
		is   bool
	}{
		{[]int{1, 2}, over(3, 2), true},
		{[]int{0}, over(0, 1), true},
		{[]int{5, -5}, over(0, 1), true},
		{[]int{-1, -2}, over(-3, 2), true},
		{[]int{1, 2, 3}, over(2, 1), true},
		{[]int{1, 0, 0, 0, 0, 0}, over(1, 6), true},
		{[]int{impl.MaxNum}, over(impl.MaxNum, 1), true},
		{[]int{-impl.MaxNum}, over(-impl.MaxNum, 1), true},
		{greatest, over(impl.MaxNum, 1), true},
		{append([]int{1}, make([]int, 99)...), over(1, 100), true},
		{[]int{impl.MaxNum, 0, 0}, over(impl.MaxNum, 3), true},
		{[]int{impl.MaxNum, 1, 0}, impl.Frac{}, false}, // 100000001/3
		{[]int{impl.MaxNum, impl.MaxNum - 1}, impl.Frac{}, false},
		{[]int{impl.MaxNum + 1}, impl.Frac{}, false},
		{[]int{-impl.MaxNum - 1}, impl.Frac{}, false},
		{[]int{impl.MaxNum + 1, -impl.MaxNum - 1}, impl.Frac{}, false},
		{[]int{impl.MaxNum + 1, -1}, impl.Frac{}, false},
		{[]int{1, -impl.MaxNum - 1}, impl.Frac{}, false},
		{[]int{0, 0, impl.MaxNum + 2, 0}, impl.Frac{}, false},
		{[]int{math.MaxInt, math.MinInt}, impl.Frac{}, false},
		{[]int{math.MaxInt, math.MaxInt, 2}, impl.Frac{}, false}, // the sum wraps to 0
		{[]int{math.MinInt, math.MinInt}, impl.Frac{}, false},
		{nil, impl.Frac{}, false},
		{[]int{}, impl.Frac{}, false},
		{append(slices.Clone(greatest), impl.MaxNum), impl.Frac{}, false},
		{make([]int, 101), impl.Frac{}, false},
		{make([]int, 100000), impl.Frac{}, false},
	} {
		if a, ok := impl.MeanFrac(c.list); ok != c.is || a != c.want {
			t.Errorf("MeanFrac of %d numbers = %v, %v and not %v", len(c.list), a, ok, c.want)
		}
	}
}

func TestHarmonic(t *testing.T) {
	sum := new(big.Rat)
	for n := 0; n <= 12; n++ {
		if n > 0 {
			sum.Add(sum, big.NewRat(1, int64(n)))
		}
		want, is := fracOf(sum)
		if a, ok := impl.Harmonic(n); !is || !ok || a != want {
			t.Errorf("Harmonic(%d) = %v, %v", n, a, ok)
		}
	}
	if a, _ := impl.Harmonic(12); a != over(86021, 27720) {
		t.Error("Harmonic(12)", a)
	}
	for _, n := range []int{-1, 13, 14, 20, 1000000000, math.MaxInt, math.MinInt} {
		if a, ok := impl.Harmonic(n); ok || a != (impl.Frac{}) {
			t.Errorf("Harmonic(%d) = %v, %v", n, a, ok)
		}
	}
}

// plainBetween tries all Dens in order, and for each one the least Num that is great enough.
func plainBetween(a impl.Frac, b impl.Frac) (impl.Frac, bool) {
	for den := 1; den <= impl.MaxDen; den++ {
		num := int(math.Floor(float64(a.Num)*float64(den)/float64(a.Den))) - 1
		for num*a.Den <= a.Num*den {
			num++
		}
		if num*b.Den < b.Num*den && num >= -impl.MaxNum && num <= impl.MaxNum {
			return over(num, den), true
		}
	}
	return impl.Frac{}, false
}

// Promise 2, against all smaller Dens.
func TestFracBetweenHasTheLeastDen(t *testing.T) {
	some := []impl.Frac{}
	for den := 1; den <= 13; den++ {
		for num := -3 * den; num <= 3*den; num++ {
			if a := over(num, den); isPlainFrac(a) {
				some = append(some, a)
			}
		}
	}
	for _, a := range some {
		for _, b := range some {
			want, is := impl.Frac{}, false
			if a.Num*b.Den < b.Num*a.Den {
				want, is = plainBetween(a, b)
			}
			if c, ok := impl.FracBetween(a, b); ok != is || c != want {
				t.Fatalf("FracBetween(%v, %v) = %v, %v and not %v", a, b, c, ok, want)
			}
		}
	}
}

func TestFracBetweenOfWideFracs(t *testing.T) {
	found, none := 0, 0
	for _, a := range wideFracs {
		for _, b := range wideFracs {
			want, is := impl.Frac{}, false
			if exact(a).Cmp(exact(b)) < 0 {
				want, is = plainBetween(a, b)
			}
			if c, ok := impl.FracBetween(a, b); ok != is || c != want || ok && !impl.IsFrac(c) {
				t.Fatalf("FracBetween(%v, %v) = %v, %v and not %v", a, b, c, ok, want)
			}
			if is {
				found++
			} else if exact(a).Cmp(exact(b)) < 0 {
				none++
			}
		}
	}
	if found < 100 || none < 2 {
		t.Error("too little was tried", found, none)
	}
}

func TestFracBetweenNeighbors(t *testing.T) {
	for _, c := range []struct {
		a, b, want impl.Frac
		is         bool
	}{
		{over(1, 3), over(1, 2), over(2, 5), true},
		{over(-1, 2), over(-1, 3), over(-2, 5), true},
		{over(0, 1), over(1, 1), over(1, 2), true},
		{over(-1, 1), over(0, 1), over(-1, 2), true},
		{over(0, 1), over(2, 1), over(1, 1), true},
		{over(-5, 2), over(5, 2), over(-2, 1), true}, // of the whole numbers the least one
		{over(3, 1), over(9, 1), over(4, 1), true},
		{over(-9, 1), over(-3, 1), over(-8, 1), true},
		{over(-impl.MaxNum, 1), over(impl.MaxNum, 1), over(1-impl.MaxNum, 1), true},
		{over(impl.MaxNum-2, 1), over(impl.MaxNum, 1), over(impl.MaxNum-1, 1), true},
		{over(1, 2), over(1, 2), impl.Frac{}, false},
		{over(1, 2), over(1, 3), impl.Frac{}, false},
		{over(-1, 3), over(-1, 2), impl.Frac{}, false},
		// between these a fraction has a Num that is too great
		{over(impl.MaxNum-1, 1), over(impl.MaxNum, 1), impl.Frac{}, false},
		{over(-impl.MaxNum, 1), over(1-impl.MaxNum, 1), impl.Frac{}, false},
		{over(49999999, 1), over(50000000, 1), over(99999999, 2), true},
		{over(-50000000, 1), over(-49999999, 1), over(-99999999, 2), true},
		{over(50000000, 1), over(50000001, 1), impl.Frac{}, false},
		{over(-50000001, 1), over(-50000000, 1), impl.Frac{}, false},
		// and between these one has a Den that is too great
		{over(1, impl.MaxDen), over(1, impl.MaxDen-1), impl.Frac{}, false},
		{over(0, 1), over(1, impl.MaxDen), impl.Frac{}, false},
		{over(-1, impl.MaxDen), over(0, 1), impl.Frac{}, false},
		{over(0, 1), over(1, impl.MaxDen-1), over(1, impl.MaxDen), true},
		{over(-1, impl.MaxDen-1), over(0, 1), over(-1, impl.MaxDen), true},
		{over(1, 50001), over(1, 49999), over(1, 50000), true},
		{over(1, 50001), over(1, 50000), impl.Frac{}, false},
		{over(1, 50000), over(1, 49999), over(2, 99999), true},
		{over(-1, 49999), over(-1, 50000), over(-2, 99999), true},
		{over(impl.MaxDen-2, impl.MaxDen-1), over(1, 1), over(impl.MaxDen-1, impl.MaxDen), true},
	} {
		if r, ok := impl.FracBetween(c.a, c.b); ok != c.is || r != c.want {
			t.Errorf("FracBetween(%v, %v) = %v, %v", c.a, c.b, r, ok)
		}
	}
}

func TestFracText(t *testing.T) {
	for text, a := range map[string]impl.Frac{
		"0": over(0, 1), "1": over(1, 1), "-1": over(-1, 1), "-3/2": over(-3, 2), "1/2": over(1, 2), "12": over(12, 1),
		"100000000": over(impl.MaxNum, 1), "-100000000": over(-impl.MaxNum, 1), "1/100000": over(1, impl.MaxDen), "-99999999/100000": over(-99999999, impl.MaxDen),
		"1000000": over(1000000, 1), "100000000/3": over(impl.MaxNum, 3),
	} {
		if s, ok := impl.FracText(a); !ok || s != text {
			t.Errorf("FracText(%v) = %q, %v", a, s, ok)
		}
	}
	for _, a := range wideFracs {
		s, ok := impl.FracText(a)
		want := exact(a).RatString()
		if !ok || s != want {
			t.Errorf("FracText(%v) = %q, %v", a, s, ok)
		}
		if b, ok := impl.ParseFrac(s); !ok || b != a {
			t.Errorf("ParseFrac(%q) = %v, %v", s, b, ok)
		}
	}
}

func TestParseFracTakesJustWhatFracTextWrites(t *testing.T) {
	written := map[string]impl.Frac{}
	for num := -9999; num <= 99999; num++ {
		written[decimal(num)] = over(num, 1)
	}
	for den := 2; den <= 999; den++ {
		for num := -99; num <= 999; num++ {
			text := decimal(num) + "/" + decimal(den)
			if len(text) <= 5 && isPlainFrac(over(num, den)) {
				written[text] = over(num, den)
			}
		}
	}
	for _, s := range stringsOver("-+/01249 ", 5) {
		want, is := written[s]
		if a, ok := impl.ParseFrac(s); ok != is || a != want {
			t.Fatalf("ParseFrac(%q) = %v, %v and not %v, %v", s, a, ok, want, is)
		}
	}
}

func TestParseFracRefuses(t *testing.T) {
	for _, s := range []string{
		"", "/", "1/", "/2", "1/1", "0/1", "-3/1", "5/1", "0/2", "2/4", "-2/4", "6/3", "3/3", "01", "01/2", "1/02", "00", "-0", "-0/2", "+1", "+1/2", "1/+2", "1/-2", "-1/-2", "--1/2", "-/2",
		"1//2", "1/2/", "/1/2", "1/2/3", "1/0", "0/0", "1 /2", "1/ 2", " 1/2", "1/2 ", "1/2\n", "1.5", "0.5", "1/2.0", "1e3", "0x1/2", "1_0/3", "a", "1/a", "a/2", "1\x00/2", "1/2\x00",
		"100000001", "-100000001", "100000001/2", "1/100001", "-1/100001", "1/1000000", "99999999999999999999", "1/99999999999999999999", "9223372036854775807", "-9223372036854775808",
		"-9223372036854775808/3", "1/9223372036854775807", "1/-9223372036854775808", "18446744073709551617", "1/18446744073709551618",
		"\uff11/2", "1\u20442", "\u22121/2", "\xff", strings.Repeat("9", 100000), strings.Repeat("1/", 100000), strings.Repeat("0", 10000) + "1/2", "1/" + strings.Repeat("0", 10000) + "2",
	} {
		if a, ok := impl.ParseFrac(s); ok || a != (impl.Frac{}) {
			t.Errorf("ParseFrac(%.30q) = %v, %v", s, a, ok)
		}
	}
}

func TestAnyOtherSpellingOfAFracIsRefused(t *testing.T) {
	for num := -20; num <= 20; num++ {
		for den := 1; den <= 20; den++ {
			a, _ := impl.MakeFrac(num, den)
			text, _ := impl.FracText(a)
			s := strconv.Itoa(num) + "/" + strconv.Itoa(den)
			if b, ok := impl.ParseFrac(s); ok != (s == text) || ok && b != a || !ok && b != (impl.Frac{}) {
				t.Errorf("ParseFrac(%q) = %v, %v", s, b, ok)
			}
		}
	}
}

// Promise 13 for the arguments of chapter 2 that could be modified.
func TestChapter2ModifiesNoArgument(t *testing.T) {
	for _, list := range [][]impl.Frac{
		{over(1, 2), over(1, 3), over(-5, 1)}, {over(2, 4), over(1, 3)}, {over(impl.MaxNum, 1), over(1, 1)}, {over(math.MinInt, 0)},
	} {
		room := append(slices.Clone(list), over(7, 7), over(8, 8))
		kept := slices.Clone(room)
		impl.SumFracs(room[:len(list)])
		if !slices.Equal(room, kept) {
			t.Errorf("SumFracs leaves %v", room)
		}
	}
	for _, list := range [][]int{{6, 4, -2}, {math.MaxInt, 0}, {impl.MaxNum}, {3, impl.MaxNum + 1}} {
		room := append(slices.Clone(list), 77, 88)
		kept := slices.Clone(room)
		impl.MeanFrac(room[:len(list)])
		if !slices.Equal(room, kept) {
			t.Errorf("MeanFrac leaves %v", room)
		}
	}
}

func TestChapter2ReturnsForExtremeNumbers(t *testing.T) {
	extremes := []int{
		math.MinInt, math.MinInt + 1, -impl.MaxNum - 1, -impl.MaxNum, -impl.MaxDen, -2, -1, 0, 1, 2, impl.MaxDen, impl.MaxDen + 1, impl.MaxNum, impl.MaxNum + 1, math.MaxInt - 1, math.MaxInt,
	}
	all, valid := []impl.Frac{}, []bool{}
	for _, num := range extremes {
		for _, den := range extremes {
			a := over(num, den)
			all, valid = append(all, a), append(valid, isPlainFrac(a))
			if impl.IsFrac(a) != isPlainFrac(a) {
				t.Errorf("IsFrac(%v) is not %v", a, isPlainFrac(a))
			}
			if b, ok := impl.MakeFrac(num, den); ok != impl.IsFrac(b) || !ok && b != (impl.Frac{}) {
				t.Errorf("MakeFrac(%d, %d) = %v, %v", num, den, b, ok)
			}
		}
	}
	for i, a := range all {
		for j, b := range all {
			good := valid[i] && valid[j]
			for _, op := range fracOperations {
				if c, ok := op.of(a, b); ok && (!good || !impl.IsFrac(c)) || !ok && c != (impl.Frac{}) {
					t.Errorf("%s(%v, %v) = %v, %v", op.name, a, b, c, ok)
				}
			}
			if c, ok := impl.FracBetween(a, b); ok && !good || !ok && c != (impl.Frac{}) {
				t.Errorf("FracBetween(%v, %v) = %v, %v", a, b, c, ok)
			}
			if _, ok := impl.CompareFracs(a, b); ok != good {
				t.Errorf("CompareFracs(%v, %v): %v", a, b, ok)
			}
		}
	}
}
