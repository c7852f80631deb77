package tests

import (
	"maps"
	"math"
	"slices"
	"testing"

	"loop.example/g01087/impl"
)

// plainFollow serves a sequence by a plan, and returns the pages in the cache behind each place, the number of faults, and whether the plan is possible.
func plainFollow(k int, reqs []int, plan []int) ([][]int, int, bool) {
	contents, faults, cached := [][]int{}, 0, map[int]bool{}
	for place, page := range reqs {
		if plan[place] >= 0 {
			if cached[page] || !cached[plan[place]] {
				return nil, 0, false
			}
			delete(cached, plan[place])
		}
		if !cached[page] {
			faults++
		}
		cached[page] = true
		if len(cached) > k {
			return nil, 0, false
		}
		contents = append(contents, slices.Sorted(maps.Keys(cached)))
	}
	return contents, faults, true
}

// plainLazy returns the plan in which a page leaves only if k pages are in the cache: the first one that worst says.
func plainLazy(k int, reqs []int, worst func(place int, cached []int) int) []int {
	plan, cached := []int{}, []int{}
	for place, page := range reqs {
		leaves := -1
		if !slices.Contains(cached, page) {
			if len(cached) == k {
				slices.Sort(cached)
				leaves = worst(place, cached)
				cached = slices.DeleteFunc(cached, func(p int) bool { return p == leaves })
			}
			cached = append(cached, page)
		}
		plan = append(plan, leaves)
	}
	return plan
}

// plainFarthest is the plan of the farthest next request, which is behind the end for a page that is not requested any more.
func plainFarthest(k int, reqs []int) []int {
	return plainLazy(k, reqs, func(place int, cached []int) int {
		next := func(page int) int {
			for later := place; later < len(reqs); later++ {
				if reqs[later] == page {
					return later
				}
			}
			return len(reqs)
		}
		best := cached[0]
		for _, page := range cached {
			if next(page) > next(best) {
				best = page
			}
		}
		return best
	})
}

// plainLazyPlan is the lazy plan of a possible plan with these pages in its cache.
func plainLazyPlan(k int, reqs []int, contents [][]int) []int {
	return plainLazy(k, reqs, func(place int, cached []int) int {
		return cached[slices.IndexFunc(cached, func(page int) bool { return !slices.Contains(contents[place], page) })]
	})
}

// eachPossiblePlan calls visit with all possible plans in lexicographic order.
func eachPossiblePlan(k int, reqs []int, visit func(plan []int)) {
	var extend func(plan []int, cached []int)
	extend = func(plan []int, cached []int) {
		place := len(plan)
		if place == len(reqs) {
			visit(slices.Clone(plan))
			return
		}
		if slices.Contains(cached, reqs[place]) {
			extend(append(plan, -1), cached)
			return
		}
		with := append(slices.Clone(cached), reqs[place])
		if len(with) <= k {
			extend(append(plan, -1), with)
		}
		for _, leaves := range slices.Sorted(slices.Values(cached)) {
			extend(append(plan, leaves), slices.DeleteFunc(slices.Clone(with), func(p int) bool { return p == leaves }))
		}
	}
	extend([]int{}, nil)
}

// never is more faults than there are.
const never = 1000

// plainLeast returns the least numbers of faults from each place on with each set of pages, told by its bits, in the cache. Pages may leave a cache that is not full.
func plainLeast(k int, n int, reqs []int) [][]int {
	least := make([][]int, len(reqs)+1)
	least[len(reqs)] = make([]int, 1<<n)
	for place := len(reqs) - 1; place >= 0; place-- {
		least[place] = make([]int, 1<<n)
		for set := range 1 << n {
			least[place][set] = never
			for leaves := -1; leaves < n; leaves++ {
				if after, faults := plainExchange(k, n, set, reqs[place], leaves); faults < never {
					least[place][set] = min(least[place][set], faults+least[place+1][after])
				}
			}
		}
	}
	return least
}

// plainExchange returns the set of pages behind a place, and how many faults there are, or never if this is not possible.
func plainExchange(k int, n int, set int, page int, leaves int) (int, int) {
	size := 0
	for other := range n {
		size += set >> other & 1
	}
	if set>>page&1 == 1 {
		if leaves >= 0 {
			return 0, never
		}
		return set, 0
	}
	if leaves >= 0 {
		if set>>leaves&1 == 0 {
			return 0, never
		}
		return set - 1<<leaves + 1<<page, 1
	}
	if size >= k {
		return 0, never
	}
	return set + 1<<page, 1
}

// plainBest returns the lexicographically first of all possible plans with the least number of faults.
func plainBest(k int, n int, reqs []int) []int {
	least, set, plan := plainLeast(k, n, reqs), 0, []int{}
	for place, page := range reqs {
		for leaves := -1; ; leaves++ {
			after, faults := plainExchange(k, n, set, page, leaves)
			if faults < never && faults+least[place+1][after] == least[place][set] {
				plan, set = append(plan, leaves), after
				break
			}
		}
	}
	return plan
}

// plainIntervals returns the intervals, each one looked for from its place on.
func plainIntervals(reqs []int) [][2]int {
	intervals := [][2]int{}
	for place, page := range reqs {
		next := -1
		for later := len(reqs) - 1; later > place; later-- {
			if reqs[later] == page {
				next = later
			}
		}
		intervals = append(intervals, [2]int{place, next})
	}
	return intervals
}

// plainDifferent returns the number of different pages of a list.
func plainDifferent(reqs []int) int {
	return len(slices.Compact(slices.Sorted(slices.Values(reqs))))
}

// plainBound is the bound of marks as the document says it.
func plainBound(k int, reqs []int, marks []int) int {
	bound := plainDifferent(reqs)
	for _, mark := range marks {
		bound += plainDifferent(reqs[:mark+1]) - k
	}
	for _, interval := range plainIntervals(reqs) {
		from, to := interval[0]+1, interval[1]
		if to < 0 {
			to = len(reqs)
		}
		count := 0
		for place := from; place < to; place++ {
			if slices.Contains(marks, place) {
				count++
			}
		}
		if interval[1] < 0 {
			bound -= count
		} else if count > 0 {
			bound -= count - 1
		}
	}
	return bound
}

// markPlan finds marks with the set of the pages, told by its bits, whose last interval has a mark.
type markPlan struct {
	k     int
	reqs  []int
	known map[[2]int]int
}

// gain returns what a mark adds to the bound, and the marked pages behind it.
func (p markPlan) gain(place int, marked int) (int, int) {
	earlier := slices.Compact(slices.Sorted(slices.Values(p.reqs[:place+1])))
	gain := len(earlier) - p.k
	for _, page := range earlier {
		if page == p.reqs[place] {
			continue
		}
		if !slices.Contains(p.reqs[place:], page) || marked>>page&1 == 1 {
			gain--
		}
		marked |= 1 << page
	}
	return gain, marked
}

// most returns how much the marks from a place on can add.
func (p markPlan) most(place int, marked int) int {
	if place == len(p.reqs) {
		return 0
	}
	marked &^= 1 << p.reqs[place] // its interval ends here, and its next one begins
	most, ok := p.known[[2]int{place, marked}]
	if !ok {
		gain, after := p.gain(place, marked)
		most = max(p.most(place+1, marked), gain+p.most(place+1, after))
		p.known[[2]int{place, marked}] = most
	}
	return most
}

// plainMarks returns the lexicographically first marks with the greatest bound.
func plainMarks(k int, reqs []int) []int {
	p := markPlan{k, reqs, map[[2]int]int{}}
	marks, marked := []int{}, 0
	for place, page := range reqs {
		most := p.most(place, marked)
		if most == 0 {
			break
		}
		marked &^= 1 << page
		if gain, after := p.gain(place, marked); gain+p.most(place+1, after) == most {
			marks, marked = append(marks, place), after
		}
	}
	return marks
}

// allMarks returns all lists of marks of a sequence with so many places.
func allMarks(length int) [][]int {
	all := [][]int{}
	for set := range 1 << length {
		marks := []int{}
		for place := range length {
			if set>>place&1 == 1 {
				marks = append(marks, place)
			}
		}
		all = append(all, marks)
	}
	return all
}

// allPlans returns all lists of numbers in -1..n-1, sorted by their lengths.
func allPlans(n int, most int) [][][]int {
	byLength := make([][][]int, most+1)
	for _, raised := range sequencesOver(n+1, most) {
		plan := []int{}
		for _, number := range raised {
			plan = append(plan, number-1)
		}
		byLength[len(plan)] = append(byLength[len(plan)], plan)
	}
	return byLength
}

// checkPlan checks all functions with a plan, and returns its faults and whether it is possible.
func checkPlan(t *testing.T, k int, n int, reqs []int, plan []int) (int, bool) {
	t.Helper()
	contents, faults, possible := plainFollow(k, reqs, plan)
	if is, ok := impl.IsPlan(k, n, reqs, plan); !ok || is != possible {
		t.Fatalf("IsPlan(%d, %d, %v, %v) = %v, %v", k, n, reqs, plan, is, ok)
	}
	count, counts := impl.PlanFaults(k, n, reqs, plan)
	caches, caching := impl.PlanCaches(k, n, reqs, plan)
	lazy, lazes := impl.LazyPlan(k, n, reqs, plan)
	proves, proving := impl.ProvesFewest(k, n, reqs, plan, nil)
	if !possible {
		if counts || caching || lazes || proving || count != 0 || len(caches) != 0 || len(lazy) != 0 || proves {
			t.Fatalf("%v, %v, %v, %v of %v with %d, %d and the plan %v, which is not possible", count, caches, lazy, proves, reqs, k, n, plan)
		}
		return 0, false
	}
	if !counts || count != faults {
		t.Fatalf("PlanFaults(%d, %d, %v, %v) = %v, %v", k, n, reqs, plan, count, counts)
	}
	if !caching || !slices.EqualFunc(caches, contents, slices.Equal) {
		t.Fatalf("PlanCaches(%d, %d, %v, %v) = %v, %v", k, n, reqs, plan, caches, caching)
	}
	if !isList(lazy, lazes, plainLazyPlan(k, reqs, contents)...) {
		t.Fatalf("LazyPlan(%d, %d, %v, %v) = %v, %v", k, n, reqs, plan, lazy, lazes)
	}
	if fewer, ok := impl.PlanFaults(k, n, reqs, lazy); !ok || fewer > faults {
		t.Fatalf("%v has more faults of %v than %v for %d pages", lazy, reqs, plan, k)
	}
	if !proving || proves != (plainDifferent(reqs) == faults) {
		t.Fatalf("ProvesFewest(%d, %d, %v, %v, no marks) = %v, %v", k, n, reqs, plan, proves, proving)
	}
	return faults, true
}

// checkFewest checks the plans and numbers that are found against the least number of faults and the first plan that has it.
func checkFewest(t *testing.T, k int, n int, reqs []int, fewest int, first []int) {
	t.Helper()
	if faults, ok := impl.FewestFaults(k, n, reqs); !ok || faults != fewest {
		t.Fatalf("FewestFaults(%d, %d, %v) = %v, %v", k, n, reqs, faults, ok)
	}
	best, ok := impl.BestPlan(k, n, reqs)
	if !isList(best, ok, first...) {
		t.Fatalf("BestPlan(%d, %d, %v) = %v, %v", k, n, reqs, best, ok)
	}
	farthest, ok := impl.FarthestPlan(k, n, reqs)
	if !isList(farthest, ok, plainFarthest(k, reqs)...) {
		t.Fatalf("FarthestPlan(%d, %d, %v) = %v, %v", k, n, reqs, farthest, ok)
	}
	for _, plan := range [][]int{best, farthest} {
		if faults, possible := checkPlan(t, k, n, reqs, plan); !possible || faults != fewest {
			t.Fatalf("the plan %v of %v for %d pages has %d faults: %v", plan, reqs, k, faults, possible)
		}
	}
	if curve, ok := impl.OptimalCurve(n, reqs); !ok || len(curve) != 6 || curve[k-1] != fewest {
		t.Fatalf("OptimalCurve(%d, %v) = %v, %v", n, reqs, curve, ok)
	}
}

// checkMarks checks the marks that are found, and that they prove the least number of faults.
func checkMarks(t *testing.T, k int, n int, reqs []int, fewest int, want []int) {
	t.Helper()
	marks, ok := impl.FindMarks(k, n, reqs)
	if !isList(marks, ok, want...) {
		t.Fatalf("FindMarks(%d, %d, %v) = %v, %v", k, n, reqs, marks, ok)
	}
	if bound, ok := impl.MarksBound(k, n, reqs, marks); !ok || bound != fewest || bound != plainBound(k, reqs, marks) {
		t.Fatalf("MarksBound(%d, %d, %v, %v) = %v, %v", k, n, reqs, marks, bound, ok)
	}
	farthest, _ := impl.FarthestPlan(k, n, reqs)
	if proves, ok := impl.ProvesFewest(k, n, reqs, farthest, marks); !ok || !proves {
		t.Fatalf("ProvesFewest(%d, %d, %v, %v, %v) = %v, %v", k, n, reqs, farthest, marks, proves, ok)
	}
}

func TestAllPlansOfShortSequences(t *testing.T) {
	for n := 1; n <= 3; n++ {
		plans := allPlans(n, 4)
		for _, reqs := range sequencesOver(n, 4) {
			for _, k := range []int{1, 2, 3, 4, 6} {
				fewest, first := never, []int{}
				for _, plan := range plans[len(reqs)] {
					if faults, possible := checkPlan(t, k, n, reqs, plan); possible && faults < fewest {
						fewest, first = faults, plan
					}
				}
				checkFewest(t, k, n, reqs, fewest, first)
			}
		}
	}
}

func TestAllPossiblePlans(t *testing.T) {
	several := 0
	for n := 3; n <= 5; n++ {
		for seed := range 40 {
			reqs := seededSequence(n, 5+seed%3, 31*n+seed)
			for k := 1; k <= 4; k++ {
				fewest, first, equal := never, []int{}, 0
				eachPossiblePlan(k, reqs, func(plan []int) {
					faults, possible := checkPlan(t, k, n, reqs, plan)
					if !possible {
						t.Fatalf("%v is possible for %v and %d pages", plan, reqs, k)
					}
					if faults < fewest {
						fewest, first, equal = faults, plan, 0
					}
					if faults == fewest {
						equal++
					}
				})
				checkFewest(t, k, n, reqs, fewest, first)
				if equal > 1 {
					several++
				}
			}
		}
	}
	if several == 0 {
		t.Error("there are never several plans that are as good")
	}
}

// checkAllMarks checks all lists of marks of a sequence.
func checkAllMarks(t *testing.T, k int, n int, reqs []int) {
	t.Helper()
	fewest, _ := impl.FewestFaults(k, n, reqs)
	best, _ := impl.BestPlan(k, n, reqs)
	greatest, first := -never, []int{}
	for _, marks := range allMarks(len(reqs)) {
		want := plainBound(k, reqs, marks)
		bound, ok := impl.MarksBound(k, n, reqs, marks)
		if !ok || bound != want || bound > fewest {
			t.Fatalf("MarksBound(%d, %d, %v, %v) = %v, %v", k, n, reqs, marks, bound, ok)
		}
		if proves, ok := impl.ProvesFewest(k, n, reqs, best, marks); !ok || proves != (want == fewest) {
			t.Fatalf("ProvesFewest(%d, %d, %v, %v, %v) = %v, %v", k, n, reqs, best, marks, proves, ok)
		}
		if want > greatest || want == greatest && slices.Compare(marks, first) < 0 {
			greatest, first = want, marks
		}
	}
	checkMarks(t, k, n, reqs, fewest, first)
	if plain := plainMarks(k, reqs); !slices.Equal(plain, first) {
		t.Fatalf("plainMarks(%d, %v) = %v", k, reqs, plain)
	}
}

func TestAllMarksOfShortSequences(t *testing.T) {
	for n := 1; n <= 3; n++ {
		for _, reqs := range sequencesOver(n, 5) {
			for k := 1; k <= 4; k++ {
				checkAllMarks(t, k, n, reqs)
			}
		}
	}
	for n := 3; n <= 8; n++ {
		for seed := range 6 {
			for k := 1; k <= 6; k++ {
				checkAllMarks(t, k, n, seededSequence(n, 7+seed%3, 7*n+seed))
			}
		}
	}
	checkAllMarks(t, 2, 3, []int{0, 1, 2, 0, 1, 2, 0, 1, 2, 0, 1, 2})
	checkAllMarks(t, 3, 4, []int{0, 1, 2, 3, 0, 1, 2, 3, 0, 1, 2, 3})
}

// onLongSequences calls check with sequences of many places, up to MaxRequests.
func onLongSequences(check func(n int, reqs []int)) {
	for n := 1; n <= 8; n++ {
		for seed := range 6 {
			check(n, seededSequence(n, 12*seed, 100*n+seed))
			near, _ := impl.NearRequests(n, 60, min(n, 2+seed%2), 100*n+seed)
			check(n, near)
		}
		loop, _ := impl.LoopRequests(n, n, 60)
		check(n, loop)
		check(n, slices.Repeat([]int{n - 1}, 60))
	}
	for _, reqs := range append(fullSequences, anomalous) {
		check(8, reqs)
	}
}

// Promise 5, with plans and marks that are looked for over sets of pages.
func TestMarksProveTheFewestFaultsOfLongSequences(t *testing.T) {
	onLongSequences(func(n int, reqs []int) {
		curve := []int{}
		for k := 1; k <= 6; k++ {
			fewest := plainLeast(k, n, reqs)[0][0]
			checkFewest(t, k, n, reqs, fewest, plainBest(k, n, reqs))
			checkMarks(t, k, n, reqs, fewest, plainMarks(k, reqs))
			curve = append(curve, fewest)
			if fewest < plainDifferent(reqs) || k >= plainDifferent(reqs) && fewest > plainDifferent(reqs) {
				t.Fatalf("%d faults of %v for %d pages", fewest, reqs, k)
			}
		}
		l, ok := impl.OptimalCurve(n, reqs)
		if !isList(l, ok, curve...) {
			t.Fatalf("OptimalCurve(%d, %v) = %v, %v", n, reqs, l, ok)
		}
		for i := 1; i < 5; i++ {
			if 2*l[i] > l[i-1]+l[i+1] {
				t.Fatalf("OptimalCurve(%d, %v) = %v", n, reqs, l)
			}
		}
	})
}

// carelessPlan is a possible plan in which pages leave at faults without need, as numbers from a seed tell.
func carelessPlan(k int, reqs []int, seed int) []int {
	plan, cached := []int{}, []int{}
	states := statesOf(seed, len(reqs))
	for place, page := range reqs {
		leaves := -1
		if !slices.Contains(cached, page) {
			pick := int(states[place]/16) % (k + 2)
			if len(cached) == k {
				pick %= k
			}
			if pick < len(cached) {
				leaves = cached[pick]
				cached = slices.Delete(cached, pick, pick+1)
			}
			cached = append(cached, page)
		}
		plan = append(plan, leaves)
	}
	return plan
}

func TestPlansOfLongSequences(t *testing.T) {
	onLongSequences(func(n int, reqs []int) {
		for k := 1; k <= 6; k++ {
			marks := plainMarks(k, reqs)
			fewest := plainBound(k, reqs, marks)
			for seed := range 5 {
				plan := carelessPlan(k, reqs, seed)
				faults, possible := checkPlan(t, k, n, reqs, plan)
				if !possible || faults < fewest {
					t.Fatalf("%v has %d faults of %v for %d pages: %v", plan, faults, reqs, k, possible)
				}
				if proves, ok := impl.ProvesFewest(k, n, reqs, plan, marks); !ok || proves != (faults == fewest) {
					t.Fatalf("ProvesFewest(%d, %d, %v, %v, %v) = %v, %v", k, n, reqs, plan, marks, proves, ok)
				}
				for place := range plan {
					other := slices.Clone(plan)
					other[place] = (place + seed) % n
					checkPlan(t, k, n, reqs, other)
				}
			}
		}
	})
}

func TestMarksOfLongSequences(t *testing.T) {
	onLongSequences(func(n int, reqs []int) {
		states := statesOf(n, 20*60)
		for k := 1; k <= 6; k++ {
			for i := range 20 {
				marks := []int{}
				for place := range reqs {
					if int(states[60*i+place]/16)%20 <= i {
						marks = append(marks, place)
					}
				}
				if bound, ok := impl.MarksBound(k, n, reqs, marks); !ok || bound != plainBound(k, reqs, marks) {
					t.Fatalf("MarksBound(%d, %d, %v, %v) = %v, %v", k, n, reqs, marks, bound, ok)
				}
			}
		}
	})
}

func TestIntervals(t *testing.T) {
	check := func(n int, reqs []int) {
		if l, ok := impl.IntervalsOf(n, reqs); !ok || !slices.Equal(l, plainIntervals(reqs)) {
			t.Fatalf("IntervalsOf(%d, %v) = %v, %v", n, reqs, l, ok)
		}
	}
	onManySequences(check)
	onLongSequences(check)
}

// The caches of chapter 4 that take out one page at a time have possible plans, which have no fewer faults.
func TestPlansOfPolicies(t *testing.T) {
	onLongSequences(func(n int, reqs []int) {
		for _, policy := range []int{impl.CacheLRU, impl.CacheFIFO, impl.CacheLIFO, impl.CacheLFU, impl.CacheClock, impl.CacheMRU} {
			for k := 1; k <= 6; k++ {
				contents, _ := impl.ContentsOf(n, policy, k, reqs)
				plan, before := []int{}, []int{}
				for _, pages := range contents {
					leaves := -1
					for _, page := range before {
						if !slices.Contains(pages, page) {
							leaves = page
						}
					}
					plan, before = append(plan, leaves), pages
				}
				places, _ := impl.FaultPlaces(n, policy, k, reqs)
				caches, ok := impl.PlanCaches(k, n, reqs, plan)
				faults, fine := impl.PlanFaults(k, n, reqs, plan)
				fewest, good := impl.FewestFaults(k, n, reqs)
				if !ok || !fine || !good || !slices.EqualFunc(caches, contents, slices.Equal) || faults != len(places) || faults < fewest {
					t.Fatalf("the plan %v of the Policy %d for %v: %v, %v, %v", plan, policy, reqs, caches, faults, fewest)
				}
				if lazy, ok := impl.LazyPlan(k, n, reqs, plan); !isList(lazy, ok, plan...) {
					t.Fatalf("LazyPlan(%d, %d, %v, %v) = %v, %v", k, n, reqs, plan, lazy, ok)
				}
			}
		}
	})
}

func TestNamedPlans(t *testing.T) {
	for _, c := range []struct {
		k, n           int
		reqs           []int
		farthest, best []int
		faults         int
		marks          []int
	}{
		{2, 3, []int{0, 1, 2, 0, 1}, []int{-1, -1, 1, -1, 0}, []int{-1, -1, 0, 2, -1}, 4, []int{2}},
		{3, 4, []int{0, 1, 2, 3}, []int{-1, -1, -1, 0}, []int{-1, -1, -1, 0}, 4, []int{}},
		{3, 4, []int{2, 1, 0, 3, 1}, []int{-1, -1, -1, 0, -1}, []int{-1, -1, -1, 0, -1}, 4, []int{}},
		{3, 4, []int{0, 1, 2, 3, 0, 1}, []int{-1, -1, -1, 2, -1, -1}, []int{-1, -1, -1, 2, -1, -1}, 4, []int{}},
		{2, 3, []int{0, 1, 2, 1, 0}, []int{-1, -1, 0, -1, 1}, []int{-1, -1, 0, -1, 1}, 4, []int{2}},
		{1, 2, []int{0, 1, 0}, []int{-1, 0, 1}, []int{-1, 0, 1}, 3, []int{0, 1}},
		{1, 2, []int{1, 1, 0, 0, 1}, []int{-1, -1, 1, -1, 0}, []int{-1, -1, 1, -1, 0}, 3, []int{0, 1, 2}},
		{1, 1, []int{0}, []int{-1}, []int{-1}, 1, []int{}},
		{6, 8, []int{7}, []int{-1}, []int{-1}, 1, []int{}},
		{1, 8, nil, []int{}, []int{}, 0, []int{}},
		{6, 1, nil, []int{}, []int{}, 0, []int{}},
		{6, 8, []int{7, 6, 5, 4, 3, 2, 1, 0, 7}, []int{-1, -1, -1, -1, -1, -1, 2, 1, -1}, []int{-1, -1, -1, -1, -1, -1, 2, 1, -1}, 8, []int{}},
	} {
		if l, ok := impl.FarthestPlan(c.k, c.n, c.reqs); !isList(l, ok, c.farthest...) {
			t.Errorf("FarthestPlan(%d, %d, %v) = %v, %v", c.k, c.n, c.reqs, l, ok)
		}
		if l, ok := impl.BestPlan(c.k, c.n, c.reqs); !isList(l, ok, c.best...) {
			t.Errorf("BestPlan(%d, %d, %v) = %v, %v", c.k, c.n, c.reqs, l, ok)
		}
		if faults, ok := impl.FewestFaults(c.k, c.n, c.reqs); !ok || faults != c.faults {
			t.Errorf("FewestFaults(%d, %d, %v) = %v, %v", c.k, c.n, c.reqs, faults, ok)
		}
		if l, ok := impl.FindMarks(c.k, c.n, c.reqs); !isList(l, ok, c.marks...) {
			t.Errorf("FindMarks(%d, %d, %v) = %v, %v", c.k, c.n, c.reqs, l, ok)
		}
	}
	if l, ok := impl.OptimalCurve(3, []int{0, 1, 2, 0, 1}); !isList(l, ok, 5, 4, 3, 3, 3, 3) {
		t.Error("OptimalCurve", l, ok)
	}
	if l, ok := impl.OptimalCurve(8, nil); !isList(l, ok, 0, 0, 0, 0, 0, 0) {
		t.Error("OptimalCurve without places", l, ok)
	}
	if l, ok := impl.IntervalsOf(3, []int{0, 1, 2, 0, 1}); !ok || !slices.Equal(l, [][2]int{{0, 3}, {1, 4}, {2, -1}, {3, -1}, {4, -1}}) {
		t.Error("IntervalsOf", l, ok)
	}
	if l, ok := impl.IntervalsOf(1, nil); !ok || len(l) != 0 {
		t.Error("IntervalsOf without places", l, ok)
	}
}

func TestNamedBounds(t *testing.T) {
	for _, c := range []struct {
		marks []int
		bound int
	}{
		{nil, 3}, {[]int{0}, 2}, {[]int{1}, 3}, {[]int{2}, 4}, {[]int{3}, 3}, {[]int{4}, 2},
		{[]int{1, 2}, 3}, {[]int{2, 3}, 3}, {[]int{0, 4}, 1}, {[]int{0, 1, 2, 3, 4}, 0},
	} {
		if bound, ok := impl.MarksBound(2, 3, []int{0, 1, 2, 0, 1}, c.marks); !ok || bound != c.bound {
			t.Errorf("MarksBound with %v = %v, %v", c.marks, bound, ok)
		}
		if proves, ok := impl.ProvesFewest(2, 3, []int{0, 1, 2, 0, 1}, []int{-1, -1, 1, -1, 0}, c.marks); !ok || proves != (c.bound == 4) {
			t.Errorf("ProvesFewest with %v = %v, %v", c.marks, proves, ok)
		}
	}
	if bound, ok := impl.MarksBound(6, 1, make([]int, 60), countUp(60)); !ok || bound != 1-60*5 {
		t.Error("all marks of one page", bound, ok)
	}
	if proves, ok := impl.ProvesFewest(2, 3, []int{0, 1, 2, 0, 1}, []int{-1, -1, -1, -1, 0}, []int{2}); ok || proves {
		t.Error("ProvesFewest with a plan that is not possible", proves, ok)
	}
	if proves, ok := impl.ProvesFewest(2, 3, []int{0, 1, 2, 0, 1}, []int{-1, 0, 1, 2, 0}, []int{2}); !ok || proves {
		t.Error("ProvesFewest with a plan with a fault too many", proves, ok)
	}
	if proves, ok := impl.ProvesFewest(3, 1, nil, nil, nil); !ok || !proves {
		t.Error("ProvesFewest without places", proves, ok)
	}
}

func TestNamedPossiblePlans(t *testing.T) {
	reqs := []int{0, 1, 2, 0, 1}
	for _, c := range []struct {
		k      int
		plan   []int
		faults int
		lazy   []int
		caches [][]int
	}{
		{2, []int{-1, 0, -1, 2, -1}, 4, []int{-1, -1, 0, 2, -1}, [][]int{{0}, {1}, {1, 2}, {0, 1}, {0, 1}}},
		{2, []int{-1, 0, 1, 2, 0}, 5, []int{-1, -1, 0, 1, 0}, [][]int{{0}, {1}, {2}, {0}, {1}}},
		{3, []int{-1, 0, -1, -1, -1}, 4, []int{-1, -1, -1, -1, -1}, [][]int{{0}, {1}, {1, 2}, {0, 1, 2}, {0, 1, 2}}},
		{6, []int{-1, -1, -1, -1, -1}, 3, []int{-1, -1, -1, -1, -1}, [][]int{{0}, {0, 1}, {0, 1, 2}, {0, 1, 2}, {0, 1, 2}}},
		{1, []int{-1, 0, 1, 2, 0}, 5, []int{-1, 0, 1, 2, 0}, [][]int{{0}, {1}, {2}, {0}, {1}}},
	} {
		if faults, possible := checkPlan(t, c.k, 3, reqs, c.plan); !possible || faults != c.faults {
			t.Errorf("the plan %v for %d pages: %v, %v", c.plan, c.k, faults, possible)
		}
		if l, ok := impl.LazyPlan(c.k, 3, reqs, c.plan); !isList(l, ok, c.lazy...) {
			t.Errorf("LazyPlan with %v for %d pages = %v, %v", c.plan, c.k, l, ok)
		}
		if l, ok := impl.PlanCaches(c.k, 3, reqs, c.plan); !ok || !slices.EqualFunc(l, c.caches, slices.Equal) {
			t.Errorf("PlanCaches with %v for %d pages = %v, %v", c.plan, c.k, l, ok)
		}
	}
	for _, plan := range [][]int{
		{-1, -1, -1, -1, -1}, // more than 2 pages
		{0, -1, 1, -1, 0},    // the page that comes is not there yet
		{1, -1, 1, -1, 0},    // a page that has not come yet
		{-1, 1, -1, 1, -1},   // the page that comes, again
		{-1, -1, 1, 2, 0},    // no fault
		{-1, -1, 1, 1, 0},    // no fault, and a page that is not there
		{-1, -1, 1, -1, 1},   // a page that has left
		{-1, -1, 1, -1, -1},  // more than 2 pages at the last place
	} {
		if _, possible := checkPlan(t, 2, 3, reqs, plan); possible {
			t.Error("a plan that is not possible", plan)
		}
	}
}

// pagingCall is a function with a sequence for n and some of k, a plan and marks, and says whether its results are zero values.
type pagingCall struct {
	k, plan, marks bool
	call           func(k int, n int, reqs []int, plan []int, marks []int) (zero bool, ok bool)
}

var pagingCalls = map[string]pagingCall{
	"IsPlan": {true, true, false, func(k, n int, reqs, plan, marks []int) (bool, bool) {
		return zeroOf(impl.IsPlan(k, n, reqs, plan))
	}},
	"PlanFaults": {true, true, false, func(k, n int, reqs, plan, marks []int) (bool, bool) {
		return zeroOf(impl.PlanFaults(k, n, reqs, plan))
	}},
	"PlanCaches": {true, true, false, func(k, n int, reqs, plan, marks []int) (bool, bool) {
		return emptyList(impl.PlanCaches(k, n, reqs, plan))
	}},
	"FarthestPlan": {true, false, false, func(k, n int, reqs, plan, marks []int) (bool, bool) {
		return emptyList(impl.FarthestPlan(k, n, reqs))
	}},
	"FewestFaults": {true, false, false, func(k, n int, reqs, plan, marks []int) (bool, bool) {
		return zeroOf(impl.FewestFaults(k, n, reqs))
	}},
	"BestPlan": {true, false, false, func(k, n int, reqs, plan, marks []int) (bool, bool) {
		return emptyList(impl.BestPlan(k, n, reqs))
	}},
	"OptimalCurve": {false, false, false, func(k, n int, reqs, plan, marks []int) (bool, bool) {
		return emptyList(impl.OptimalCurve(n, reqs))
	}},
	"IntervalsOf": {false, false, false, func(k, n int, reqs, plan, marks []int) (bool, bool) {
		return emptyList(impl.IntervalsOf(n, reqs))
	}},
	"MarksBound": {true, false, true, func(k, n int, reqs, plan, marks []int) (bool, bool) {
		return zeroOf(impl.MarksBound(k, n, reqs, marks))
	}},
	"FindMarks": {true, false, false, func(k, n int, reqs, plan, marks []int) (bool, bool) {
		return emptyList(impl.FindMarks(k, n, reqs))
	}},
	"ProvesFewest": {true, true, true, func(k, n int, reqs, plan, marks []int) (bool, bool) {
		return zeroOf(impl.ProvesFewest(k, n, reqs, plan, marks))
	}},
	"LazyPlan": {true, true, false, func(k, n int, reqs, plan, marks []int) (bool, bool) {
		return emptyList(impl.LazyPlan(k, n, reqs, plan))
	}},
}

// refusesPaging checks that a function fails.
func refusesPaging(t *testing.T, name string, k int, n int, reqs []int, plan []int, marks []int) {
	t.Helper()
	if zero, ok := pagingCalls[name].call(k, n, reqs, plan, marks); ok || !zero {
		t.Errorf("%s takes %d, %d, %v, %v, %v: %v, %v", name, k, n, reqs[:min(len(reqs), 5)], plan[:min(len(plan), 5)], marks[:min(len(marks), 5)], zero, ok)
	}
}

// noLeaving returns a plan in which no page leaves.
func noLeaving(length int) []int { return slices.Repeat([]int{-1}, length) }

func TestChapter5RefusesInvalidSequences(t *testing.T) {
	reqs, plan, marks := []int{0, 1, 2, 0, 1}, []int{-1, -1, 1, -1, 0}, []int{2}
	for name, c := range pagingCalls {
		if _, ok := c.call(2, 3, reqs, plan, marks); !ok {
			t.Errorf("%s refuses what is valid", name)
		}
		for _, k := range append([]int{0, -1, 7, 8}, farInts...) {
			if c.k {
				refusesPaging(t, name, k, 3, reqs, plan, marks)
				refusesPaging(t, name, k, 3, nil, nil, nil)
				refusesPaging(t, name, k, 3, []int{0}, []int{-1}, nil)
				refusesPaging(t, name, k, k, []int{0}, []int{-1}, nil)
			}
		}
		for _, n := range append(otherCounts, 1, 2) {
			refusesPaging(t, name, 2, n, reqs, plan, marks)
			if n < 1 || n > 8 {
				refusesPaging(t, name, 2, n, nil, nil, nil)
				refusesPaging(t, name, 2, n, []int{0}, []int{-1}, nil)
				refusesPaging(t, name, 2, n, []int{n - 1}, []int{-1}, []int{0})
			}
		}
		for _, bad := range append(badItems(3), make([]int, 61), make([]int, 100000), append(make([]int, 59), 3), append(make([]int, 59), -1), append(make([]int, 60), math.MaxInt)) {
			refusesPaging(t, name, 6, 3, bad, noLeaving(len(bad)), nil)
			refusesPaging(t, name, 6, 3, bad, noLeaving(len(bad)), []int{0})
			refusesPaging(t, name, 6, 3, bad, nil, nil)
		}
	}
}

func TestChapter5RefusesWhatIsNoPlan(t *testing.T) {
	reqs, plan := []int{0, 1, 2, 0, 1}, []int{-1, -1, 1, -1, 0}
	bad := [][]int{nil, {-1}, plan[:4], append(slices.Clone(plan), -1), append([]int{-1}, plan...), noLeaving(60), noLeaving(100000), slices.Repeat(plan, 2)}
	for place := range plan {
		for _, number := range append([]int{3, 4, 8}, farInts...) {
			other := slices.Clone(plan)
			other[place] = number
			bad = append(bad, other)
		}
	}
	for name, c := range pagingCalls {
		if !c.plan {
			continue
		}
		for _, plan := range bad {
			refusesPaging(t, name, 2, 3, reqs, plan, []int{2})
		}
		refusesPaging(t, name, 2, 3, nil, []int{-1}, nil)
		refusesPaging(t, name, 2, 3, nil, []int{0}, nil)
		refusesPaging(t, name, 6, 3, make([]int, 60), noLeaving(59), nil)
		refusesPaging(t, name, 6, 3, make([]int, 60), noLeaving(61), nil)
		refusesPaging(t, name, 6, 3, make([]int, 60), append(noLeaving(59), 3), nil)
		refusesPaging(t, name, 6, 3, make([]int, 60), append(noLeaving(59), -2), nil)
	}
}

func TestChapter5RefusesWhatIsNoMarks(t *testing.T) {
	reqs, plan := []int{0, 1, 2, 0, 1}, []int{-1, -1, 1, -1, 0}
	bad := [][]int{{-1}, {5}, {6}, {-1, 2}, {2, 5}, {2, 2}, {3, 2}, {0, 0}, {4, 0}, {0, 1, 1}, {0, 2, 1}, {1, 0, 2}, {0, 1, 2, 3, 4, 5}, {0, 1, 2, 3, 4, 4}, {4, 3, 2, 1, 0}, make([]int, 100000), countUp(60)}
	for _, far := range farInts {
		bad = append(bad, []int{far}, []int{2, far}, []int{far, 2}, []int{0, far, 4})
	}
	for name, c := range pagingCalls {
		if !c.marks {
			continue
		}
		for _, marks := range bad {
			refusesPaging(t, name, 2, 3, reqs, plan, marks)
		}
		for _, marks := range [][]int{{0}, {-1}, {1}} {
			refusesPaging(t, name, 2, 3, nil, nil, marks)
		}
		refusesPaging(t, name, 6, 1, make([]int, 60), noLeaving(60), []int{60})
		if _, ok := c.call(6, 1, make([]int, 60), noLeaving(60), []int{0, 59}); !ok {
			t.Errorf("%s refuses marks at the first and at the last place", name)
		}
	}
}

func TestChapter5TakesTheLeastAndTheLongestSequences(t *testing.T) {
	for n := 1; n <= 8; n++ {
		for k := 1; k <= 6; k++ {
			for name, c := range pagingCalls {
				zero, ok := c.call(k, n, nil, []int{}, nil)
				if wantZero := !slices.Contains([]string{"IsPlan", "OptimalCurve", "ProvesFewest"}, name); !ok || zero != wantZero {
					t.Errorf("%s(%d, %d) without places: %v, %v", name, k, n, zero, ok)
				}
				if _, ok := c.call(k, n, slices.Repeat([]int{n - 1}, 60), noLeaving(60), countUp(60)); !ok {
					t.Errorf("%s(%d, %d) refuses one page alone", name, k, n)
				}
			}
		}
	}
}

// Promise 13: arguments stay as they are, with the room behind them, and results have memory of their own.
func TestChapter5ModifiesNoArgument(t *testing.T) {
	keptReqs, keptPlan, keptMarks := []int{6, 0, 1, 2, 0, 1, 6, 6}, []int{5, -1, 0, -1, 2, -1, 5, 5}, []int{4, 0, 2, 4, 4, 4}
	reqs, plan, marks := slices.Clone(keptReqs), slices.Clone(keptPlan), slices.Clone(keptMarks)
	same := func(name string) {
		t.Helper()
		if !slices.Equal(reqs, keptReqs) || !slices.Equal(plan, keptPlan) || !slices.Equal(marks, keptMarks) {
			t.Fatalf("%s leaves %v, %v and %v", name, reqs, plan, marks)
		}
	}
	for name, c := range pagingCalls {
		if _, ok := c.call(2, 3, reqs[1:6], plan[1:6], marks[1:4]); !ok {
			t.Errorf("%s fails", name)
		}
		same(name)
		c.call(1, 3, reqs[1:6], plan[1:6], marks[1:5])
		same(name)
	}
	for name, f := range map[string]func() ([]int, bool){
		"FarthestPlan": func() ([]int, bool) { return impl.FarthestPlan(2, 3, reqs[1:6]) },
		"BestPlan":     func() ([]int, bool) { return impl.BestPlan(2, 3, reqs[1:6]) },
		"OptimalCurve": func() ([]int, bool) { return impl.OptimalCurve(3, reqs[1:6]) },
		"FindMarks":    func() ([]int, bool) { return impl.FindMarks(2, 3, reqs[1:6]) },
		"LazyPlan":     func() ([]int, bool) { return impl.LazyPlan(2, 3, reqs[1:6], plan[1:6]) },
		"LazyPlan, of a lazy plan": func() ([]int, bool) {
			return impl.LazyPlan(6, 3, reqs[1:6], noLeaving(5))
		},
	} {
		l, ok := f()
		first := slices.Clone(l)
		scribble(l)
		again, fine := f()
		if !ok || !isList(again, fine, first...) {
			t.Errorf("%s returns %v and then %v", name, first, again)
		}
		same(name)
	}
}

func TestChapter5ResultsShareNoMemory(t *testing.T) {
	reqs, plan := []int{0, 1, 1, 2, 2, 0, 0}, []int{-1, -1, -1, 0, -1, 1, -1}
	contents, _, _ := plainFollow(2, reqs, plan)
	for i := range contents {
		l, _ := impl.PlanCaches(2, 3, reqs, plan)
		scribble(l[i])
		for j, pages := range l {
			if j != i && !slices.Equal(pages, contents[j]) {
				t.Fatalf("the places %d and %d share memory", i, j)
			}
		}
	}
	if l, ok := impl.PlanCaches(2, 3, reqs, plan); !ok || !slices.EqualFunc(l, contents, slices.Equal) {
		t.Error("PlanCaches", l, ok)
	}
	told, _ := impl.IntervalsOf(3, reqs)
	clear(told[:cap(told)])
	if l, ok := impl.IntervalsOf(3, reqs); !ok || !slices.Equal(l, plainIntervals(reqs)) {
		t.Error("IntervalsOf", l, ok)
	}
	if !slices.Equal(reqs, []int{0, 1, 1, 2, 2, 0, 0}) || !slices.Equal(plan, []int{-1, -1, -1, 0, -1, 1, -1}) {
		t.Error("an argument is modified", reqs, plan)
	}
}
