package tests

import (
	"fmt"
	"math"
	"math/big"
	"slices"
	"strings"
	"testing"

	"loop.example/g01087/impl"
)

// plainPairs returns the pairs in the order in which they are found, and the next pair, the cost and the growth for each request. There are none if there are too many offsets.
func plainPairs(p impl.Problem, next [][]int, start int) (pairs [][2]int, steps [][][3]int) {
	offsets, to, grows := plainOffsets(p, start)
	if len(offsets) > 400 {
		return nil, nil
	}
	pairs = [][2]int{{start, 0}}
	index := map[[2]int]int{pairs[0]: 0}
	for at := 0; at < len(pairs); at++ {
		row := [][3]int{}
		for request := range p.Serve {
			state, o := pairs[at][0], pairs[at][1]
			served := next[state][request]
			pair := [2]int{served, to[o][request]}
			if _, ok := index[pair]; !ok {
				index[pair] = len(pairs)
				pairs = append(pairs, pair)
			}
			row = append(row, [3]int{index[pair], p.Move[state][served] + p.Serve[request][served], grows[o][request]})
		}
		steps = append(steps, row)
	}
	return pairs, steps
}

// plainLead returns the pair to which requests lead from a pair, and the sums of the costs and the growths.
func plainLead(steps [][][3]int, at int, reqs []int) (end int, cost int, growth int) {
	for _, request := range reqs {
		step := steps[at][request]
		at, cost, growth = step[0], cost+step[1], growth+step[2]
	}
	return at, cost, growth
}

// plainBroken returns the first pair and request at which a list is no potential for num/den.
func plainBroken(steps [][][3]int, num int, den int, table []int) ([2]int, bool) {
	for at, row := range steps {
		for request, step := range row {
			if den*step[1]+table[step[0]] > num*step[2]+table[at] {
				return [2]int{at, request}, true
			}
		}
	}
	return [2]int{}, false
}

// plainPotential says whether a list is a potential for num/den.
func plainPotential(steps [][][3]int, num int, den int, table []int) bool {
	if len(table) != len(steps) || slices.Min(table) < 0 || slices.Max(table) > 1e15 {
		return false
	}
	_, broken := plainBroken(steps, num, den, table)
	return !broken
}

// plainGains returns the greatest gains for num/den of requests from each pair on, from those of all lengths below the number of pairs; there are none if longer ones have greater ones.
func plainGains(steps [][][3]int, num int, den int) ([]int, bool) {
	gains := make([]int, len(steps))
	for range steps {
		longer, same := slices.Clone(gains), true
		for at, row := range steps {
			for _, step := range row {
				if gain := den*step[1] - num*step[2] + gains[step[0]]; gain > longer[at] {
					longer[at], same = gain, false
				}
			}
		}
		if same {
			return gains, true
		}
		gains = longer
	}
	return nil, false
}

// plainCycle returns the first pair and cycle of the least length up to a number that refutes num/den, from all lists of requests.
func plainCycle(steps [][][3]int, most int, num int, den int) (int, []int, bool) {
	for length := 1; length <= most; length++ {
		for home := range steps {
			found := []int(nil)
			eachChoice(length, countUp(len(steps[0])), func(reqs []int) {
				if end, cost, growth := plainLead(steps, home, reqs); found == nil && end == home && den*cost > num*growth {
					found = slices.Clone(reqs)
				}
			})
			if found != nil {
				return home, found, true
			}
		}
	}
	return 0, nil, false
}

// plainCycleOf does as plainCycle by the greatest gains of ways to the pair, of each number of steps.
func plainCycleOf(steps [][][3]int, most int, num int, den int) (int, []int, bool) {
	ways := make([][][]int, len(steps))
	for home := range steps {
		now := slices.Repeat([]int{math.MinInt / 2}, len(steps))
		now[home] = 0
		ways[home] = [][]int{now}
		for range most {
			longer := slices.Repeat([]int{math.MinInt / 2}, len(steps))
			for at, row := range steps {
				for _, step := range row {
					longer[at] = max(longer[at], den*step[1]-num*step[2]+now[step[0]])
				}
			}
			ways[home], now = append(ways[home], longer), longer
		}
	}
	for length := 1; length <= most; length++ {
		for home := range steps {
			if ways[home][length][home] <= 0 {
				continue
			}
			cycle, at, gain := []int{}, home, 0
			for left := length - 1; left >= 0; left-- {
				for request, step := range steps[at] {
					more := gain + den*step[1] - num*step[2]
					if more+ways[home][left][step[0]] > 0 {
						cycle, at, gain = append(cycle, request), step[0], more
						break
					}
				}
			}
			return home, cycle, true
		}
	}
	return 0, nil, false
}

// isExact says whether num/den is the least ratio for which there is a potential: a lesser one of a cycle, which has at most 600 steps, is less by more than one part in 10^6 of 1/den.
func isExact(steps [][][3]int, ratio impl.Frac) bool {
	if _, ok := plainGains(steps, ratio.Num, ratio.Den); !ok || ratio.Num < 0 {
		return false
	}
	_, below := plainGains(steps, ratio.Num*1000000-1, ratio.Den*1000000)
	return ratio.Num == 0 || !below
}

// hasRatio says whether there is a potential for any ratio: if there is none for one that is greater than that of each cycle with a growth, a cycle has a cost and no growth.
func hasRatio(steps [][][3]int) bool {
	_, ok := plainGains(steps, 600*119+1, 1)
	return ok
}

// ratiosAbout are ratios of all kinds, and if there is an exact one, this one and its neighbors.
func ratiosAbout(ratio impl.Frac, ok bool) []impl.Frac {
	all := []impl.Frac{over(0, 1), over(1, 2), over(1, 1), over(3, 2), over(5, 1), over(100000000, 1), over(99999999, 100000), over(1, 100000), over(99999, 100000), over(100001, 100000)}
	if ok {
		k := 100000 / ratio.Den
		all = append(all, ratio)
		for _, num := range []int{ratio.Num*k - 1, ratio.Num*k + 1} {
			if near, ok := fracOf(big.NewRat(int64(num), int64(ratio.Den*k))); ok && near.Num >= 0 {
				all = append(all, near)
			}
		}
	}
	return all
}

// wayTo returns a shortest list of requests that leads to a pair.
func wayTo(steps [][][3]int, pair int) []int {
	ways := make([][]int, len(steps))
	ways[0] = []int{}
	for queue := []int{0}; ways[pair] == nil; queue = queue[1:] {
		for request, step := range steps[queue[0]] {
			if ways[step[0]] == nil {
				ways[step[0]] = append(slices.Clone(ways[queue[0]]), request)
				queue = append(queue, step[0])
			}
		}
	}
	return ways[pair]
}

// withPairs calls check with the pairs of Problems, algorithms and start states, where there are at most a number of pairs.
func withPairs(t *testing.T, most int, check func(p impl.Problem, next [][]int, start int, pairs [][2]int, steps [][][3]int)) {
	t.Helper()
	count := 0
	visit := func(p impl.Problem, next [][]int, start int) {
		if pairs, steps := plainPairs(p, next, start); len(pairs) > 0 && len(pairs) <= most {
			check(p, next, start, pairs, steps)
			count++
		}
	}
	onSmallProblems(func(p impl.Problem) {
		for i, next := range algorithmsFor(p)[:4] {
			visit(p, next, i%2)
		}
	})
	for seed, p := range manyProblems() {
		for i, next := range algorithmsFor(p) {
			visit(p, next, (seed+i)%len(p.Move))
		}
	}
	for _, s := range sparePairs {
		visit(s.p, s.next, s.start)
	}
	if count < 500 {
		t.Error("only", count)
	}
}

// pairsCase has a Problem, an algorithm and a start state, the number of pairs, the exact ratio, and the length of the shortest cycle that refutes ratios just below this.
type pairsCase struct {
	p      impl.Problem
	next   [][]int
	start  int
	pairs  int
	ratio  impl.Frac
	length int
}

// sparePairs are those whose shortest cycles have few requests and many.
var sparePairs = []pairsCase{
	{problem(2, []int{1}, []int{-1, 0}, []int{0, -1}), [][]int{{1, 0}, {1, 0}}, 1, 2, over(1, 1), 2},
	{problem(1, nil, []int{3}, []int{0}), [][]int{{0, 0}}, 0, 1, over(1, 1), 1},
	{problem(2, []int{3}, []int{1, 0}, []int{0, -1}), [][]int{{1, 0}, {1, 0}}, 0, 7, over(6, 1), 2},
	{problem(3, []int{4, 4, 4}, []int{5, 5, 3}), [][]int{{2}, {0}, {1}}, 2, 3, over(25, 9), 3},
	{problem(4, []int{5, 4, 4, 6, 6, 4}, []int{9, 9, 9, 9}), [][]int{{1}, {2}, {3}, {0}}, 0, 4, over(55, 36), 4},
	{problem(4, []int{12, 9, 10, 12, 7, 14}, []int{9, 4, 8, 4}), [][]int{{1}, {3}, {0}, {2}}, 0, 8, over(67, 16), 4},
	{problem(4, []int{1, 2, 1, 1, 2, 2}, []int{-1, -1, 1, -1}, []int{5, -1, 2, 12}, []int{-1, 16, 15, 3}, []int{7, -1, 10, 9}), [][]int{{2, 0, 2, 0}, {2, 3, 3, 2}, {2, 0, 1, 2}, {2, 2, 1, 0}}, 1, 12, over(58, 15), 5},
	{problem(4, []int{4, 4, 3, 3, 3, 4}, []int{3, 0, 4, -1}, []int{-1, 3, -1, -1}, []int{9, -1, 9, 6}), [][]int{{2, 1, 3}, {1, 1, 2}, {1, 1, 0}, {0, 1, 3}}, 3, 10, over(17, 8), 6},
	{problem(4, []int{1, 1, 2, 2, 2, 1}, []int{11, 9, -1, 3}, []int{7, 10, -1, -1}, []int{11, 7, 4, -1}), [][]int{{1, 1, 1}, {3, 0, 2}, {0, 1, 0}, {3, 1, 0}}, 0, 8, over(54, 23), 6},
	{problem(4, []int{9, 11, 11, 3, 6, 8}, []int{12, 7, 17, 11}, []int{17, 20, 5, 13}), [][]int{{1, 3}, {2, 0}, {3, 1}, {0, 3}}, 1, 7, over(22, 7), 6},
	{problem(4, []int{3, 1, 1, 2, 4, 2}, []int{12, 16, 16, 2}, []int{1, 0, 15, 10}, []int{19, 13, 9, 20}), [][]int{{3, 1, 3}, {3, 1, 0}, {1, 1, 0}, {3, 0, 2}}, 0, 14, over(83, 37), 7},
	{problem(4, []int{1, 1, 2, 2, 1, 3}, []int{12, 15, 5, 20}, []int{8, 0, 7, 4}, []int{3, 13, 4, 4}, []int{11, 17, 20, 13}), [][]int{{3, 3, 3, 3}, {2, 1, 0, 1}, {0, 0, 3, 1}, {1, 1, 1, 2}}, 0, 17, over(19, 6), 7},
	{problem(4, []int{8, 2, 3, 8, 8, 2}, []int{4, 7, 9, 8}, []int{20, 13, 5, 20}, []int{14, 13, 20, 5}, []int{13, 20, 16, 14}), [][]int{{2, 3, 0, 1}, {3, 1, 3, 2}, {2, 1, 1, 2}, {2, 2, 0, 1}}, 0, 21, over(43, 15), 8},
	{problem(4, []int{5, 4, 6, 5, 6, 2}, []int{20, 20, 12, 14}, []int{5, 19, -1, 12}, []int{17, 9, 14, 19}), [][]int{{3, 0, 3}, {1, 3, 2}, {0, 3, 2}, {1, 0, 1}}, 0, 20, over(163, 89), 8},
}

func TestChapter9Constants(t *testing.T) {
	if impl.MaxPairs != 600 || impl.MaxCycle != 6 {
		t.Error(impl.MaxPairs, impl.MaxCycle)
	}
}

// checkPairs checks the pairs and their steps.
func checkPairs(t *testing.T, p impl.Problem, next [][]int, start int, pairs [][2]int, steps [][][3]int) {
	t.Helper()
	list, one := impl.PairsOf(p, next, start)
	rows, two := impl.PairSteps(p, next, start)
	if !one || !slices.Equal(list, pairs) {
		t.Fatalf("PairsOf(%v, %v, %d) = %v, %v and not %v", p, next, start, list, one, pairs)
	}
	if !two || !slices.EqualFunc(rows, steps, slices.Equal[[][3]int]) {
		t.Fatalf("PairSteps(%v, %v, %d) = %v, %v and not %v", p, next, start, rows, two, steps)
	}
}

// Promise 9: PairAfter leads along PairSteps through the pairs of PairsOf, in which the algorithm and the work function are left.
func TestPairsOfManyAlgorithms(t *testing.T) {
	seed := 0
	withPairs(t, 600, func(p impl.Problem, next [][]int, start int, pairs [][2]int, steps [][][3]int) {
		checkPairs(t, p, next, start, pairs, steps)
		offsets, _ := impl.OffsetsOf(p, start)
		seed++
		for _, reqs := range append(sequencesOver(len(p.Serve), 2), longSequences(len(p.Serve), seed)...) {
			want, wantCost, wantGrowth := plainLead(steps, 0, reqs)
			at, ok := impl.PairAfter(p, next, start, reqs)
			if !ok || at != want {
				t.Fatalf("PairAfter(%v, %v, %d, %v) = %v, %v and not %d", p, next, start, reqs, at, ok, want)
			}
			state := start
			if states := plainStates(next, start, reqs); len(states) > 0 {
				state = states[len(states)-1]
			}
			o, least := plainOffset(plainWork(p, start, reqs))
			cost, _ := impl.AlgorithmCost(p, next, start, reqs)
			if pairs[at][0] != state || !slices.Equal(offsets[pairs[at][1]], o) || cost != wantCost || least != wantGrowth {
				t.Fatalf("the pair after %v for %v, %v, %d is %v, with the costs %d and %d", reqs, p, next, start, pairs[at], cost, least)
			}
		}
	})
}

func TestNamedPairs(t *testing.T) {
	swap := problem(2, []int{1}, []int{-1, 0}, []int{0, -1})
	rent := problem(2, []int{3}, []int{1, 0}, []int{0, -1})
	for _, c := range []struct {
		p     impl.Problem
		next  [][]int
		start int
		pairs [][2]int
		steps [][][3]int
	}{
		{problem(1, nil, []int{0}), [][]int{{0}}, 0, [][2]int{{0, 0}}, [][][3]int{{{0, 0, 0}}}},
		{problem(1, nil, []int{20}, []int{7}), [][]int{{0, 0}}, 0, [][2]int{{0, 0}}, [][][3]int{{{0, 20, 20}, {0, 7, 7}}}},
		{swap, [][]int{{1, 0}, {1, 0}}, 1, [][2]int{{1, 0}, {0, 1}}, [][][3]int{{{0, 0, 0}, {1, 1, 1}}, {{0, 1, 1}, {1, 0, 0}}}},
		{swap, [][]int{{1, 0}, {1, 0}}, 0, [][2]int{{0, 0}, {1, 1}}, [][][3]int{{{1, 1, 1}, {0, 0, 0}}, {{1, 0, 0}, {0, 1, 1}}}},
		{
			rent, [][]int{{0, 0}, {1, 0}}, 0,
			[][2]int{{0, 0}, {0, 1}, {0, 2}, {0, 3}, {0, 4}, {0, 5}, {0, 6}},
			[][][3]int{{{1, 1, 1}, {0, 0, 0}}, {{2, 1, 1}, {0, 0, 0}}, {{3, 1, 1}, {0, 0, 0}}, {{4, 1, 0}, {0, 0, 0}}, {{5, 1, 0}, {0, 0, 1}}, {{6, 1, 0}, {0, 0, 2}}, {{6, 1, 0}, {0, 0, 3}}},
		},
		{
			rent, [][]int{{1, 0}, {1, 0}}, 0,
			[][2]int{{0, 0}, {1, 1}, {1, 2}, {1, 3}, {1, 4}, {1, 5}, {1, 6}},
			[][][3]int{{{1, 3, 1}, {0, 0, 0}}, {{2, 0, 1}, {0, 3, 0}}, {{3, 0, 1}, {0, 3, 0}}, {{4, 0, 0}, {0, 3, 0}}, {{5, 0, 0}, {0, 3, 1}}, {{6, 0, 0}, {0, 3, 2}}, {{6, 0, 0}, {0, 3, 3}}},
		},
		// The same state with two offsets, and the same offset with two states; the start state comes with others too.
		{
			problem(2, []int{1}, []int{0, 1}, []int{1, 0}), [][]int{{1, 0}, {1, 0}}, 0,
			[][2]int{{0, 0}, {1, 0}, {0, 1}, {0, 2}, {1, 1}},
			[][][3]int{{{1, 2, 0}, {2, 1, 1}}, {{1, 1, 0}, {2, 2, 1}}, {{1, 2, 0}, {3, 1, 0}}, {{4, 2, 1}, {3, 1, 0}}, {{1, 1, 0}, {3, 2, 0}}},
		},
	} {
		checkPairs(t, c.p, c.next, c.start, c.pairs, c.steps)
		if pairs, steps := plainPairs(c.p, c.next, c.start); !slices.Equal(pairs, c.pairs) || !slices.EqualFunc(steps, c.steps, slices.Equal[[][3]int]) {
			t.Errorf("the tests find the pairs %v and the steps %v", pairs, steps)
		}
	}
}

// checkRatio checks what is told of a ratio: a potential and none, its least numbers, and a cycle.
func checkRatio(t *testing.T, p impl.Problem, next [][]int, start int, steps [][][3]int, ratio impl.Frac) {
	t.Helper()
	want, is := plainGains(steps, ratio.Num, ratio.Den)
	table, ok := impl.FindPotential(p, next, start, ratio)
	if ok != is || !slices.Equal(table, want) {
		t.Fatalf("FindPotential(%v, %v, %d, %v) = %v, %v and not %v, %v", p, next, start, ratio, table, ok, want, is)
	}
	wantExtra, isExtra := impl.Frac{}, false
	if is {
		wantExtra, isExtra = fracOf(big.NewRat(int64(want[0]), int64(ratio.Den)))
		yes, one := impl.IsPotential(p, next, start, ratio, table)
		broken, two := impl.FirstBroken(p, next, start, ratio, table)
		if !yes || !one || two || broken != [2]int{} {
			t.Fatalf("the potential %v of %v, %v, %d, %v: %v, %v and %v, %v", table, p, next, start, ratio, yes, one, broken, two)
		}
	}
	if extra, ok := impl.ExtraCost(p, next, start, ratio); ok != isExtra || extra != wantExtra {
		t.Fatalf("ExtraCost(%v, %v, %d, %v) = %v, %v and not %v, %v", p, next, start, ratio, extra, ok, wantExtra, isExtra)
	}
}

// checkCycle checks FindCycle and the gain of what it finds.
func checkCycle(t *testing.T, p impl.Problem, next [][]int, start int, steps [][][3]int, ratio impl.Frac) {
	t.Helper()
	wantAt, want, is := plainCycleOf(steps, 6, ratio.Num, ratio.Den)
	if len(steps)*len(steps[0]) <= 30 {
		if at, cycle, ok := plainCycle(steps, 6, ratio.Num, ratio.Den); ok != is || at != wantAt || !slices.Equal(cycle, want) {
			t.Fatalf("the tests find the cycles %v at %d, %v and %v at %d, %v", want, wantAt, is, cycle, at, ok)
		}
	}
	at, cycle, ok := impl.FindCycle(p, next, start, ratio)
	if ok != is || at != wantAt || !slices.Equal(cycle, want) {
		t.Fatalf("FindCycle(%v, %v, %d, %v) = %v, %v, %v and not %v, %v, %v", p, next, start, ratio, at, cycle, ok, wantAt, want, is)
	}
	if !ok {
		return
	}
	if table, ok := impl.FindPotential(p, next, start, ratio); !nothing(table, ok) {
		t.Fatalf("FindPotential(%v, %v, %d, %v) = %v, %v although %v at %d refutes it", p, next, start, ratio, table, ok, cycle, at)
	}
	_, cost, growth := plainLead(steps, at, cycle)
	way := wayTo(steps, at)
	if gain, ok := impl.CycleGain(p, next, start, ratio, way, cycle); ok != (len(way) <= 60) || ok && (gain <= 0 || gain != ratio.Den*cost-ratio.Num*growth) {
		t.Fatalf("CycleGain(%v, %v, %d, %v, %v, %v) = %v, %v", p, next, start, ratio, way, cycle, gain, ok)
	}
}

// checkExact checks ExactRatio, and returns it.
func checkExact(t *testing.T, p impl.Problem, next [][]int, start int, steps [][][3]int) (impl.Frac, bool) {
	t.Helper()
	ratio, ok := impl.ExactRatio(p, next, start)
	if ok != hasRatio(steps) || ok && !(isPlainFrac(ratio) && isExact(steps, ratio)) || !ok && ratio != (impl.Frac{}) {
		t.Fatalf("ExactRatio(%v, %v, %d) = %v, %v", p, next, start, ratio, ok)
	}
	return ratio, ok
}

// Promise 9: no ratio below the exact one has a potential, that one and all greater ones have, and a cycle that refutes a ratio leaves none.
func TestPotentialsAndCyclesOfManyAlgorithms(t *testing.T) {
	withPairs(t, 80, func(p impl.Problem, next [][]int, start int, pairs [][2]int, steps [][][3]int) {
		exactRatio, has := checkExact(t, p, next, start, steps)
		for _, ratio := range ratiosAbout(exactRatio, has) {
			checkRatio(t, p, next, start, steps, ratio)
			checkCycle(t, p, next, start, steps, ratio)
			_, ok := impl.FindPotential(p, next, start, ratio)
			if ok != (has && exact(ratio).Cmp(exact(exactRatio)) >= 0) {
				t.Fatalf("FindPotential(%v, %v, %d, %v): %v, and the exact ratio is %v, %v", p, next, start, ratio, ok, exactRatio, has)
			}
		}
	})
}

// The same with many pairs.
func TestPotentialsOfManyPairs(t *testing.T) {
	seen := 0
	withPairs(t, 600, func(p impl.Problem, next [][]int, start int, pairs [][2]int, steps [][][3]int) {
		if len(pairs) <= 80 {
			return
		}
		seen++
		exactRatio, has := checkExact(t, p, next, start, steps)
		for i, ratio := range ratiosAbout(exactRatio, has) {
			checkRatio(t, p, next, start, steps, ratio)
			if i%5 == seen%5 && seen%3 == 0 {
				checkCycle(t, p, next, start, steps, ratio)
			}
		}
	})
	if seen < 20 {
		t.Error("only", seen)
	}
}

// Promise 9: the cost of the algorithm is never more than the ratio times the least cost plus ExtraCost, and ExtraCost is no more than needed.
func TestPotentialsBoundCosts(t *testing.T) {
	met := 0
	withPairs(t, 40, func(p impl.Problem, next [][]int, start int, pairs [][2]int, steps [][][3]int) {
		exactRatio, ok := impl.ExactRatio(p, next, start)
		if !ok {
			return
		}
		reqs := append(sequencesOver(len(p.Serve), 8-2*len(p.Serve)), longSequences(len(p.Serve), len(pairs))...)
		for _, ratio := range ratiosAbout(exactRatio, true) {
			extra, ok := impl.ExtraCost(p, next, start, ratio)
			if !ok {
				continue
			}
			most := new(big.Rat)
			for _, reqs := range reqs {
				cost, _ := impl.AlgorithmCost(p, next, start, reqs)
				least, _ := impl.LeastCost(p, start, reqs)
				more := new(big.Rat).Sub(new(big.Rat).SetInt64(int64(cost)), new(big.Rat).Mul(exact(ratio), new(big.Rat).SetInt64(int64(least))))
				if more.Cmp(most) > 0 {
					most = more
				}
			}
			if most.Cmp(exact(extra)) > 0 {
				t.Fatalf("the extra cost of %v, %v, %d, %v is %v, and a sequence has %v", p, next, start, ratio, extra, most)
			}
			// With few pairs, a sequence without repetitions is among those that were looked at.
			if len(pairs) <= 9-2*len(p.Serve) {
				met++
				if most.Cmp(exact(extra)) != 0 {
					t.Fatalf("the extra cost of %v, %v, %d, %v is %v, and sequences have only %v", p, next, start, ratio, extra, most)
				}
			}
		}
	})
	if met < 1000 {
		t.Error("only", met)
	}
}

func TestNamedRatios(t *testing.T) {
	swap := problem(2, []int{1}, []int{-1, 0}, []int{0, -1})
	rent := problem(2, []int{3}, []int{1, 0}, []int{0, -1})
	stay, turn := [][]int{{0, 0}, {1, 0}}, [][]int{{1, 0}, {1, 0}}
	free := problem(2, []int{5}, []int{0, 0})
	for _, c := range []struct {
		p      impl.Problem
		next   [][]int
		start  int
		ratio  impl.Frac
		has    bool
		tried  impl.Frac
		table  []int
		found  bool
		at     int
		cycle  []int
		refute bool
	}{
		// Costs and growths of 0: the ratio 0.
		{problem(1, nil, []int{0}), [][]int{{0}}, 0, over(0, 1), true, over(0, 1), []int{0}, true, 0, nil, false},
		{problem(1, nil, []int{0}), [][]int{{0}}, 0, over(0, 1), true, over(100000000, 99999), []int{0}, true, 0, nil, false},
		{free, [][]int{{0}, {1}}, 1, over(0, 1), true, over(0, 1), []int{0}, true, 0, nil, false},
		// A move at first alone: its cost is extra.
		{free, [][]int{{1}, {1}}, 0, over(0, 1), true, over(0, 1), []int{5, 0}, true, 0, nil, false},
		{free, [][]int{{1}, {1}}, 0, over(0, 1), true, over(1, 100000), []int{500000, 0}, true, 0, nil, false},
		// Costs without a growth, always or at the end: no ratio.
		{free, [][]int{{1}, {0}}, 0, impl.Frac{}, false, over(100000000, 1), nil, false, 0, []int{0, 0}, true},
		{rent, stay, 0, impl.Frac{}, false, over(100000000, 1), nil, false, 6, []int{0}, true},
		{rent, stay, 0, impl.Frac{}, false, over(0, 1), nil, false, 6, []int{0}, true},
		// Ratios of 1, and just below.
		{problem(1, nil, []int{20}), [][]int{{0}}, 0, over(1, 1), true, over(1, 1), []int{0}, true, 0, nil, false},
		{problem(1, nil, []int{20}), [][]int{{0}}, 0, over(1, 1), true, over(99999, 100000), nil, false, 0, []int{0}, true},
		{problem(1, nil, []int{0}, []int{1}, []int{20}), [][]int{{0, 0, 0}}, 0, over(1, 1), true, over(0, 1), nil, false, 0, []int{1}, true},
		{swap, turn, 1, over(1, 1), true, over(1, 1), []int{0, 0}, true, 0, nil, false},
		{swap, turn, 1, over(1, 1), true, over(1, 2), nil, false, 0, []int{1, 0}, true},
		{swap, turn, 0, over(1, 1), true, over(1, 2), nil, false, 0, []int{0, 1}, true},
		// A gain of exactly 0 refutes nothing.
		{rent, turn, 0, over(6, 1), true, over(6, 1), []int{0, 3, 3, 3, 0, 0, 0}, true, 0, nil, false},
		{rent, turn, 0, over(6, 1), true, over(100000000, 1), []int{0, 3, 3, 3, 0, 0, 0}, true, 0, nil, false},
		{rent, turn, 0, over(6, 1), true, over(59, 10), nil, false, 0, []int{0, 1}, true},
		{rent, turn, 0, over(6, 1), true, over(599999, 100000), nil, false, 0, []int{0, 1}, true},
	} {
		ratio, one := impl.ExactRatio(c.p, c.next, c.start)
		table, two := impl.FindPotential(c.p, c.next, c.start, c.tried)
		at, cycle, three := impl.FindCycle(c.p, c.next, c.start, c.tried)
		if ratio != c.ratio || one != c.has || !slices.Equal(table, c.table) || two != c.found || at != c.at || !slices.Equal(cycle, c.cycle) || three != c.refute {
			t.Errorf("%v, %v, %d: %v, %v; for %v: %v, %v and %v, %v, %v", c.p, c.next, c.start, ratio, one, c.tried, table, two, at, cycle, three)
		}
	}
	if extra, ok := impl.ExtraCost(free, [][]int{{1}, {1}}, 0, over(1, 100000)); !ok || extra != over(5, 1) {
		t.Error("the cost of a move at first", extra, ok)
	}
	if extra, ok := impl.ExtraCost(swap, turn, 1, over(1, 2)); ok || extra != (impl.Frac{}) {
		t.Error("the extra cost of a ratio that is too small", extra, ok)
	}
}

// Shortest cycles of each length, longer ones than MaxCycle among them.
func TestLengthsOfCycles(t *testing.T) {
	lengths := [9]int{}
	for _, c := range sparePairs {
		pairs, steps := plainPairs(c.p, c.next, c.start)
		ratio, ok := impl.ExactRatio(c.p, c.next, c.start)
		if len(pairs) != c.pairs || !ok || ratio != c.ratio {
			t.Errorf("%v, %v, %d: %d pairs, and the ratio %v, %v", c.p, c.next, c.start, len(pairs), ratio, ok)
		}
		below := ratiosAbout(ratio, true)[11]
		_, want, ok := plainCycleOf(steps, 8, below.Num, below.Den)
		if !ok || len(want) != c.length {
			t.Errorf("the cycle of %v, %v, %d for %v: %v, %v", c.p, c.next, c.start, below, want, ok)
		}
		lengths[c.length]++
		checkCycle(t, c.p, c.next, c.start, steps, below)
		_, cycle, ok := impl.FindCycle(c.p, c.next, c.start, below)
		if table, fine := impl.FindPotential(c.p, c.next, c.start, below); !nothing(table, fine) || ok != (c.length <= 6) || ok && len(cycle) != c.length {
			t.Errorf("%v, %v, %d for %v: %v, %v and %v, %v", c.p, c.next, c.start, below, table, fine, cycle, ok)
		}
	}
	if slices.Min(lengths[1:]) == 0 {
		t.Error(lengths)
	}
}

// checkTable checks IsPotential and FirstBroken for a list.
func checkNumbers(t *testing.T, p impl.Problem, next [][]int, start int, steps [][][3]int, ratio impl.Frac, table []int) {
	t.Helper()
	is, ok := impl.IsPotential(p, next, start, ratio, table)
	if want := plainPotential(steps, ratio.Num, ratio.Den, table); !ok || is != want {
		t.Fatalf("IsPotential(%v, %v, %d, %v, %v) = %v, %v and not %v", p, next, start, ratio, table, is, ok, want)
	}
	want, broken := [2]int{}, false
	if len(table) == len(steps) && slices.Min(table) >= 0 && slices.Max(table) <= 1e15 {
		want, broken = plainBroken(steps, ratio.Num, ratio.Den, table)
	}
	if at, ok := impl.FirstBroken(p, next, start, ratio, table); ok != broken || at != want {
		t.Fatalf("FirstBroken(%v, %v, %d, %v, %v) = %v, %v and not %v, %v", p, next, start, ratio, table, at, ok, want, broken)
	}
}

// Promise 9: what FindPotential returns has numbers no greater than those of any other potential.
func TestAllSmallPotentials(t *testing.T) {
	numbers := []int{0, 1, 2, 4, 7}
	withPairs(t, 3, func(p impl.Problem, next [][]int, start int, pairs [][2]int, steps [][][3]int) {
		for _, ratio := range []impl.Frac{over(0, 1), over(1, 1), over(2, 1), over(3, 2), over(1, 3)} {
			least, ok := impl.FindPotential(p, next, start, ratio)
			eachChoice(len(pairs), numbers, func(table []int) {
				checkNumbers(t, p, next, start, steps, ratio, table)
				if !plainPotential(steps, ratio.Num, ratio.Den, table) {
					return
				}
				for at, number := range table {
					if !ok || least[at] > number {
						t.Fatalf("FindPotential(%v, %v, %d, %v) = %v, %v, and %v is one", p, next, start, ratio, least, ok, table)
					}
				}
			})
		}
	})
}

// Lists near to the least potential, with other numbers at each place, and of other lengths.
func TestListsAboutPotentials(t *testing.T) {
	count := 0
	withPairs(t, 60, func(p impl.Problem, next [][]int, start int, pairs [][2]int, steps [][][3]int) {
		exactRatio, ok := impl.ExactRatio(p, next, start)
		count++
		if !ok || count%7 != 0 && len(pairs) < 10 {
			return
		}
		for _, ratio := range []impl.Frac{exactRatio, over(100000000, 1), over(exactRatio.Num+exactRatio.Den, exactRatio.Den)} {
			least, ok := impl.FindPotential(p, next, start, ratio)
			if !ok {
				t.Fatalf("FindPotential(%v, %v, %d, %v) = %v, %v", p, next, start, ratio, least, ok)
			}
			tables := [][]int{nil, {}, least[1:], append(slices.Clone(least), 0), make([]int, len(least)), slices.Repeat([]int{1e15}, len(least)), slices.Repeat([]int{1e15 + 1}, len(least)), slices.Repeat([]int{-1}, len(least)), slices.Repeat([]int{math.MaxInt}, len(least)), slices.Repeat([]int{math.MinInt}, len(least)), make([]int, 100000)}
			for at := range least {
				for _, number := range []int{least[at] - 1, least[at] + 1, 0, -1, 1e15, 1e15 + 1, math.MaxInt, math.MinInt} {
					table := slices.Clone(least)
					table[at] = number
					tables = append(tables, table)
				}
			}
			for _, table := range tables {
				checkNumbers(t, p, next, start, steps, ratio, table)
			}
			// With other numbers as they are, none can be less.
			for at := range least {
				table := slices.Clone(least)
				table[at]--
				if is, ok := impl.IsPotential(p, next, start, ratio, table); !ok || is {
					t.Fatalf("IsPotential(%v, %v, %d, %v, %v) = %v, %v", p, next, start, ratio, table, is, ok)
				}
			}
		}
	})
}

func TestFirstBrokenIsTheFirst(t *testing.T) {
	rent := problem(2, []int{3}, []int{1, 0}, []int{0, -1})
	turn := [][]int{{1, 0}, {1, 0}}
	for _, c := range []struct {
		ratio impl.Frac
		table []int
		at    [2]int
		ok    bool
	}{
		{over(6, 1), []int{0, 3, 3, 3, 0, 0, 0}, [2]int{}, false},
		{over(6, 1), []int{0, 0, 0, 0, 0, 0, 0}, [2]int{1, 1}, true},
		{over(6, 1), []int{0, 4, 3, 3, 0, 0, 0}, [2]int{0, 0}, true},
		{over(6, 1), []int{0, 3, 2, 3, 0, 0, 0}, [2]int{2, 1}, true},
		{over(6, 1), []int{0, 3, 3, 2, 0, 0, 0}, [2]int{3, 1}, true},
		{over(6, 1), []int{0, 3, 3, 3, 4, 0, 0}, [2]int{3, 0}, true},
		{over(6, 1), []int{0, 3, 3, 3, 0, 0, 1}, [2]int{5, 0}, true},
		{over(6, 1), []int{0, 3, 9, 3, 0, 0, 1}, [2]int{5, 0}, true},
		{over(6, 1), []int{0, 3, 10, 3, 0, 0, 1}, [2]int{1, 0}, true},
		{over(6, 1), []int{9, 12, 12, 12, 6, 0, 0}, [2]int{}, false},
		{over(6, 1), []int{10, 13, 13, 13, 7, 0, 0}, [2]int{5, 1}, true},
		{over(6, 1), []int{10, 13, 13, 13, 7, 0, 1}, [2]int{5, 0}, true}, // with both requests
		{over(6, 1), []int{9, 12, 12, 12, 6, 0}, [2]int{}, false},
		{over(6, 1), []int{9, 12, 12, 12, 6, 0, 0, 0}, [2]int{}, false},
		{over(6, 1), []int{9, 12, 12, 12, 6, 0, -1}, [2]int{}, false},
		{over(6, 1), []int{1e15, 0, 0, 0, 0, 0, 0}, [2]int{1, 1}, true},
		{over(6, 1), []int{1e15 + 1, 0, 0, 0, 0, 0, 0}, [2]int{}, false},
		{over(0, 1), []int{0, 0, 0, 0, 0, 0, 0}, [2]int{0, 0}, true},
		{over(1, 100000), []int{299998, 0, 0, 0, 0, 0, 0}, [2]int{0, 0}, true},
		{over(1, 100000), []int{299999, 0, 0, 0, 0, 0, 0}, [2]int{1, 1}, true},
	} {
		if at, ok := impl.FirstBroken(rent, turn, 0, c.ratio, c.table); at != c.at || ok != c.ok {
			t.Errorf("FirstBroken for %v of %v: %v, %v", c.ratio, c.table, at, ok)
		}
	}
	// The greatest numbers that there may be.
	swap := problem(2, []int{1}, []int{-1, 0}, []int{0, -1})
	for _, c := range []struct {
		table []int
		is    bool
	}{
		{[]int{0, 0}, true}, {[]int{3, 3}, true}, {[]int{3, 2}, false}, {[]int{2, 3}, false},
		{[]int{1e15, 1e15}, true}, {[]int{1e15, 1e15 + 1}, false}, {[]int{1e15 + 1, 1e15 + 1}, false}, {[]int{-1, -1}, false}, {[]int{math.MinInt, math.MinInt}, false}, {[]int{math.MaxInt, math.MaxInt}, false},
		{[]int{0}, false}, {[]int{0, 0, 0}, false}, {nil, false},
	} {
		if is, ok := impl.IsPotential(swap, turn, 1, over(1, 1), c.table); !ok || is != c.is {
			t.Errorf("IsPotential of %v: %v, %v", c.table, is, ok)
		}
	}
}

// All lists of requests behind all short sequences: those that lead back have a gain, and others fail.
func TestGainsOfAllShortCycles(t *testing.T) {
	signs := [3]int{}
	withPairs(t, 12, func(p impl.Problem, next [][]int, start int, pairs [][2]int, steps [][][3]int) {
		if len(pairs) < 3 {
			return
		}
		exactRatio, ok := impl.ExactRatio(p, next, start)
		if !ok {
			exactRatio = over(7, 2)
		}
		for i, reqs := range sequencesOver(len(p.Serve), 2) {
			home, _, _ := plainLead(steps, 0, reqs)
			for _, cycle := range append(sequencesOver(len(p.Serve), 3), slices.Repeat([]int{0}, 5), slices.Repeat([]int{len(p.Serve) - 1, 0}, 3)) {
				ratio := []impl.Frac{exactRatio, over(1, 1), over(5, 3)}[i%3]
				end, cost, growth := plainLead(steps, home, cycle)
				is, want := len(cycle) > 0 && end == home, ratio.Den*cost-ratio.Num*growth
				if gain, ok := impl.CycleGain(p, next, start, ratio, reqs, cycle); ok != is || ok && gain != want || !ok && gain != 0 {
					t.Fatalf("CycleGain(%v, %v, %d, %v, %v, %v) = %v, %v and not %d, %v", p, next, start, ratio, reqs, cycle, gain, ok, want, is)
				}
				if is {
					signs[1+max(-1, min(1, want))]++
				}
			}
		}
	})
	if slices.Min(signs[:]) == 0 {
		t.Error(signs)
	}
}

func TestNamedGains(t *testing.T) {
	swap := problem(2, []int{1}, []int{-1, 0}, []int{0, -1})
	rent := problem(2, []int{3}, []int{1, 0}, []int{0, -1})
	turn := [][]int{{1, 0}, {1, 0}}
	one, long := problem(1, nil, []int{20}), slices.Repeat([]int{0}, 60)
	for _, c := range []struct {
		p     impl.Problem
		next  [][]int
		start int
		ratio impl.Frac
		reqs  []int
		cycle []int
		gain  int
		ok    bool
	}{
		{swap, turn, 1, over(1, 2), nil, []int{1, 0}, 2, true},
		{swap, turn, 1, over(1, 1), nil, []int{1, 0}, 0, true},
		{swap, turn, 1, over(3, 2), nil, []int{1, 0}, -2, true},
		{swap, turn, 1, over(1, 2), nil, []int{0}, 0, true},
		{swap, turn, 1, over(1, 2), nil, []int{1}, 0, false},
		{swap, turn, 1, over(1, 2), []int{1}, []int{1}, 0, true},
		{swap, turn, 1, over(1, 2), []int{1}, []int{0}, 0, false},
		{swap, turn, 1, over(1, 2), []int{1}, []int{0, 1, 0, 1, 0, 1}, 6, true},
		{swap, turn, 1, over(1, 2), []int{1}, []int{0, 1, 0, 1, 0, 1, 1}, 0, false}, // more than MaxCycle
		{swap, turn, 1, over(0, 1), []int{1}, []int{0, 1}, 2, true},
		{swap, turn, 1, over(100000000, 1), nil, []int{1, 0}, 2 - 200000000, true},
		{swap, turn, 1, over(99999999, 100000), nil, []int{1, 0}, 200000 - 199999998, true},
		{rent, turn, 0, over(6, 1), nil, []int{0, 1}, 0, true},
		{rent, turn, 0, over(6, 1), nil, []int{0, 0, 0, 1}, 6 - 6*3, true},
		{rent, turn, 0, over(6, 1), nil, []int{0, 0, 0, 0, 0, 1}, 6 - 6*5, true},
		{rent, turn, 0, over(6, 1), []int{0, 0, 0, 0, 0, 0}, []int{0}, 0, true},
		{rent, turn, 0, over(6, 1), []int{0, 0, 0, 0, 0}, []int{0}, 0, false},
		{rent, turn, 0, over(5, 1), []int{0, 1, 0}, []int{1, 0}, 1, true},
		{rent, turn, 0, over(5, 1), []int{0, 1, 0}, []int{1, 0, 1, 0, 1, 0}, 3, true},
		{one, [][]int{{0}}, 0, over(0, 1), nil, nil, 0, false},
		{one, [][]int{{0}}, 0, over(0, 1), nil, []int{0}, 20, true},
		{one, [][]int{{0}}, 0, over(1, 100000), long, long[:6], 120 * 99999, true},
		{one, [][]int{{0}}, 0, over(1, 100000), long, long[:7], 0, false},
		{one, [][]int{{0}}, 0, over(0, 1), long[:59], long[:6], 120, true},
		{one, [][]int{{0}}, 0, over(0, 1), append([]int{0}, long...), long[:6], 0, false},
		{one, [][]int{{0}}, 0, over(0, 1), nil, long, 0, false},
		{one, [][]int{{0}}, 0, over(100000000, 1), nil, long[:6], 120 - 120*100000000, true},
	} {
		if gain, ok := impl.CycleGain(c.p, c.next, c.start, c.ratio, c.reqs, c.cycle); gain != c.gain || ok != c.ok {
			t.Errorf("CycleGain(%v, %v, %d, %v, %v, %v) = %v, %v", c.p, c.next, c.start, c.ratio, c.reqs, c.cycle, gain, ok)
		}
	}
}

func TestRatioOn(t *testing.T) {
	zeros := 0
	seed := 0
	withPairs(t, 600, func(p impl.Problem, next [][]int, start int, pairs [][2]int, steps [][][3]int) {
		seed++
		for _, reqs := range append(sequencesOver(len(p.Serve), 2), longSequences(len(p.Serve), seed)...) {
			cost, _ := plainSchedule(p, start, reqs, plainStates(next, start, reqs))
			least := slices.Min(plainWork(p, start, reqs))
			want, is := impl.Frac{}, least > 0
			if is {
				want, _ = fracOf(big.NewRat(int64(cost), int64(least)))
			} else {
				zeros++
			}
			if ratio, ok := impl.RatioOn(p, next, start, reqs); ok != is || ratio != want {
				t.Fatalf("RatioOn(%v, %v, %d, %v) = %v, %v and not %v, %v", p, next, start, reqs, ratio, ok, want, is)
			}
		}
	})
	if zeros < 100 {
		t.Error("only", zeros)
	}
	far := problem(2, []int{99}, []int{-1, 20}, []int{20, -1})
	away := problem(2, []int{99}, []int{1, 20})
	for _, c := range []struct {
		p     impl.Problem
		next  [][]int
		reqs  []int
		ratio impl.Frac
		ok    bool
	}{
		{far, [][]int{{1, 0}, {1, 0}}, nil, impl.Frac{}, false},
		{far, [][]int{{1, 0}, {1, 0}}, slices.Repeat([]int{0, 1}, 30), over(1, 1), true},
		{away, [][]int{{1}, {0}}, []int{0}, over(119, 1), true},
		{away, [][]int{{1}, {0}}, slices.Repeat([]int{0}, 60), over(30*119+30*100, 60), true},
		{away, [][]int{{1}, {0}}, slices.Repeat([]int{0}, 61), impl.Frac{}, false},
		{away, [][]int{{1}, {1}}, slices.Repeat([]int{0}, 60), over(99+20*60, 60), true},
		{problem(2, []int{99}, []int{0, 20}), [][]int{{1}, {0}}, slices.Repeat([]int{0}, 60), impl.Frac{}, false},
	} {
		want, _ := fracOf(big.NewRat(int64(c.ratio.Num), int64(max(1, c.ratio.Den))))
		if !c.ok {
			want = impl.Frac{}
		}
		if ratio, ok := impl.RatioOn(c.p, c.next, 0, c.reqs); ratio != want || ok != c.ok {
			t.Errorf("RatioOn(%v, %v, 0, %v) = %v, %v", c.p, c.next, c.reqs, ratio, ok)
		}
	}
}

// plainMemoryless returns the first algorithm with the least ratio, from all lists of states.
func plainMemoryless(p impl.Problem, start int) (best [][]int, least impl.Frac, count int) {
	m := len(p.Serve)
	eachChoice(len(p.Move)*m, countUp(len(p.Move)), func(list []int) {
		next := [][]int{}
		for state := range p.Move {
			next = append(next, slices.Clone(list[state*m:(state+1)*m]))
		}
		if !plainAlgorithm(p, next) {
			return
		}
		count++
		ratio, ok := impl.ExactRatio(p, next, start)
		if ok && (best == nil || exact(ratio).Cmp(exact(least)) < 0) {
			best, least = next, ratio
		}
	})
	return best, least, count
}

func TestBestMemoryless(t *testing.T) {
	counts := map[int]int{}
	check := func(p impl.Problem, start int) {
		t.Helper()
		next, ratio, ok := impl.BestMemoryless(p, start)
		want, least, count := plainMemoryless(p, start)
		counts[count]++
		if count > 300 {
			want, least = nil, impl.Frac{}
		}
		if ok != (want != nil) || !sameLists(next, want) || ratio != least {
			t.Fatalf("BestMemoryless(%v, %d) = %v, %v, %v and not %v, %v", p, start, next, ratio, ok, want, least)
		}
	}
	onSmallProblems(func(p impl.Problem) {
		for start := range p.Move {
			check(p, start)
		}
	})
	for seed, p := range manyProblems() {
		if count, _ := impl.CountAlgorithms(p); count <= 300 && len(p.Move)*len(p.Serve) <= 9 {
			check(p, seed%len(p.Move))
		}
	}
	for _, p := range []impl.Problem{
		// 256 algorithms, the greatest number up to 300 that there is, 512, the least one above, and others.
		problem(2, []int{2}, []int{0, 1}, []int{1, 0}, []int{2, 2}, []int{0, 3}),
		problem(4, []int{1, 1, 1, 1, 1, 1}, []int{1, 0, 2, 3}),
		problem(4, []int{1, 1, 1, 1, 1, 1}, []int{1, 0, 2, 3}, []int{-1, -1, 0, -1}),
		problem(4, []int{1, 1, 1, 1, 1, 1}, []int{1, 0, -1, 3}, []int{-1, -1, 0, 3}),
		problem(3, []int{1, 2, 1}, []int{1, 0, 0}, []int{-1, 0, 5}),
		problem(3, []int{1, 2, 1}, []int{1, 0, 0}, []int{0, 0, 5}),
		problem(3, []int{1, 2, 1}, []int{1, 0, -1}, []int{-1, 0, 5}, []int{0, -1, 2}),
	} {
		check(p, 1)
	}
	for _, count := range []int{1, 4, 16, 64, 216, 256, 512, 729} {
		if counts[count] == 0 {
			t.Error("no Problem with", count, "algorithms:", counts)
		}
	}
	// Ones that are too many to be looked at one after the other.
	all := problem(4, []int{9, 9, 9, 9, 9, 9}, []int{0, 0, 0, 0}, []int{1, 1, 1, 1}, []int{2, 2, 2, 2}, []int{20, 20, 20, 20})
	if next, ratio, ok := impl.BestMemoryless(all, 0); !nothing(next, ok) || ratio != (impl.Frac{}) {
		t.Error("BestMemoryless of too many algorithms", next, ratio, ok)
	}
}

func TestNamedBestAlgorithms(t *testing.T) {
	for _, c := range []struct {
		p     impl.Problem
		start int
		next  [][]int
		ratio impl.Frac
		ok    bool
	}{
		{problem(1, nil, []int{0}), 0, [][]int{{0}}, over(0, 1), true},
		{problem(1, nil, []int{0}, []int{4}), 0, [][]int{{0, 0}}, over(1, 1), true},
		{problem(2, []int{1}, []int{-1, 0}, []int{0, -1}), 1, [][]int{{1, 0}, {1, 0}}, over(1, 1), true},
		// States that are never reached have the least states, and so has what is asked for there.
		{problem(2, []int{1}, []int{0, 0}), 0, [][]int{{0}, {0}}, over(0, 1), true},
		{problem(2, []int{1}, []int{0, 0}), 1, [][]int{{0}, {0}}, over(0, 1), true},
		{problem(2, []int{1}, []int{3, 3}), 1, [][]int{{0}, {0}}, over(1, 1), true},
		{problem(2, []int{1}, []int{3, 2}), 0, [][]int{{1}, {1}}, over(1, 1), true},
		{problem(3, []int{2, 2, 2}, []int{3, 2, 2}), 2, [][]int{{0}, {0}, {2}}, over(1, 1), true},
		{problem(2, []int{3}, []int{1, 0}, []int{0, -1}), 0, [][]int{{1, 0}, {1, 0}}, over(6, 1), true},
		// In state 0 the requests 1 and 3 may be served in 1 and 3, or in 3 and 2, but not in 1 and 2.
		{problem(4, []int{2, 2, 4, 1, 4, 4}, []int{-1, -1, -1, 0}, []int{-1, 0, -1, 0}, []int{1, -1, -1, -1}, []int{-1, -1, 0, 0}), 0, [][]int{{3, 1, 0, 3}, {3, 1, 0, 2}, {3, 3, 0, 2}, {3, 3, 0, 3}}, over(9, 5), true},
	} {
		next, ratio, ok := impl.BestMemoryless(c.p, c.start)
		if !isLists(next, ok, c.next...) || ratio != c.ratio {
			t.Errorf("BestMemoryless(%v, %d) = %v, %v, %v", c.p, c.start, next, ratio, ok)
		}
	}
}

// failsWithoutPairs checks that all functions that use an algorithm fail, and refuses all results beside it.
func failsWithoutPairs(t *testing.T, p impl.Problem, next [][]int, start int) {
	t.Helper()
	s := potentialArgs{p: p, next: next, start: start, ratio: over(7, 1), reqs: []int{0}, cycle: []int{0}}
	for _, length := range []int{0, 600, 601, 602} {
		s.table = make([]int, length)
		refusePotential(t, "n", s, "a Problem with too many")
	}
}

func TestAlgorithmsWithAboutMaxPairs(t *testing.T) {
	for i, c := range []struct {
		p     impl.Problem
		next  [][]int
		start int
		pairs int
	}{
		{problem(3, []int{18, 11, 17}, []int{5, 4, 2}, []int{2, 3, -1}, []int{-1, 3, 3}), [][]int{{2, 0, 1}, {1, 0, 2}, {0, 1, 1}}, 1, 599},
		{problem(3, []int{54, 54, 28}, []int{7, 5, 13}, []int{16, 17, 18}), [][]int{{2, 2}, {0, 0}, {0, 2}}, 2, 600},
		{problem(4, []int{74, 80, 68, 74, 68, 98}, []int{-1, 6, 17, 10}, []int{-1, 17, 1, -1}), [][]int{{1, 2}, {3, 1}, {3, 1}, {1, 2}}, 1, 600},
		{problem(4, []int{94, 93, 95, 96, 94, 89}, []int{7, -1, 6, 1}, []int{2, 5, 4, 2}), [][]int{{0, 1}, {0, 3}, {3, 3}, {2, 0}}, 0, 600},
		{problem(4, []int{12, 24, 12, 23, 12, 23}, []int{-1, 7, 0, 4}, []int{-1, 13, -1, 16}, []int{12, 2, 7, -1}), [][]int{{3, 3, 1}, {2, 3, 2}, {1, 1, 2}, {3, 3, 1}}, 3, 601},
		{problem(3, []int{93, 83, 89}, []int{-1, 0, 2}, []int{2, -1, 1}, []int{-1, 1, 2}, []int{-1, 0, -1}), [][]int{{1, 0, 1, 1}, {2, 2, 2, 1}, {2, 2, 1, 1}}, 0, 601},
		{problem(3, []int{64, 75, 68}, []int{3, -1, 11}, []int{0, 12, 5}, []int{-1, 9, -1}, []int{5, 8, 1}), [][]int{{0, 1, 1, 0}, {0, 2, 1, 2}, {2, 2, 1, 2}}, 2, 601},
		{problem(3, []int{98, 91, 73}, []int{3, -1, 2}, []int{10, -1, 9}, []int{1, -1, 7}, []int{5, 11, -1}), [][]int{{0, 0, 0, 0}, {2, 0, 2, 1}, {2, 0, 0, 1}}, 1, 602},
		{problem(4, []int{31, 37, 30, 32, 36, 25}, []int{0, 0, 0, 5}, []int{0, 2, 0, 0}, []int{2, 1, 0, 3}), [][]int{{1, 2, 0}, {2, 2, 3}, {0, 1, 2}, {0, 2, 0}}, 0, 1576},
	} {
		pairs, steps := plainPairs(c.p, c.next, c.start)
		if len(pairs) != c.pairs {
			t.Errorf("%v, %v, %d have %d pairs", c.p, c.next, c.start, len(pairs))
		}
		if c.pairs > 600 {
			failsWithoutPairs(t, c.p, c.next, c.start)
			continue
		}
		checkPairs(t, c.p, c.next, c.start, pairs, steps)
		ratio, ok := checkExact(t, c.p, c.next, c.start, steps)
		for j, ratio := range ratiosAbout(ratio, ok) {
			checkRatio(t, c.p, c.next, c.start, steps, ratio)
			if j%4 == i%4 {
				checkCycle(t, c.p, c.next, c.start, steps, ratio)
			}
		}
		if at, ok := impl.PairAfter(c.p, c.next, c.start, wayTo(steps, len(steps)-1)); ok != (len(wayTo(steps, len(steps)-1)) <= 60) || ok && at != len(steps)-1 {
			t.Errorf("the last pair of %v, %v, %d: %v, %v", c.p, c.next, c.start, at, ok)
		}
	}
	// Problems with exactly MaxOffsets, and with more: OffsetsOf fails then.
	for _, c := range []struct {
		p  impl.Problem
		ok bool
	}{
		{problem(3, []int{78, 99, 76}, []int{18, 8, 8}, []int{0, 0, 2}), true},
		{problem(4, []int{17, 13, 12, 14, 11, 19}, []int{6, 0, 0, 18}, []int{0, 20, 19, 1}), true},
		{problem(3, []int{94, 93, 81}, []int{0, 10, 8}, []int{8, 4, 0}), false},
		{problem(4, []int{84, 87, 55, 64, 63, 79}, []int{10, 5, 0, 0}, []int{15, 15, 0, 18}), false},
	} {
		// One that goes to the same state always has about as many pairs as there are offsets.
		next := slices.Repeat([][]int{{1, 1}}, len(c.p.Move))
		if pairs, steps := plainPairs(c.p, next, 0); c.ok {
			checkPairs(t, c.p, next, 0, pairs, steps)
			checkRatio(t, c.p, next, 0, steps, over(3, 1))
		} else {
			failsWithoutPairs(t, c.p, next, 0)
		}
		if best, ratio, ok := impl.BestMemoryless(c.p, 0); !c.ok && (!nothing(best, ok) || ratio != (impl.Frac{})) {
			t.Errorf("BestMemoryless(%v, 0) = %v, %v, %v", c.p, best, ratio, ok)
		}
	}
}

// Algorithms with too many pairs are left out, although others have a greater ratio, or the same one and come later.
func TestBestMemorylessLeavesOutManyPairs(t *testing.T) {
	for _, c := range []struct {
		p      impl.Problem
		start  int
		better int
	}{
		{problem(3, []int{88, 84, 96}, []int{-1, 15, 0}, []int{4, 5, -1}), 0, 1},
		{problem(3, []int{50, 29, 33}, []int{11, 4, 5}, []int{9, -1, 8}, []int{-1, -1, 2}), 0, 0},
	} {
		m := len(c.p.Serve)
		next, ratio, ok := impl.BestMemoryless(c.p, c.start)
		want, least, count := plainMemoryless(c.p, c.start)
		if !isLists(next, ok, want...) || ratio != least || count > 300 {
			t.Fatalf("BestMemoryless(%v, %d) = %v, %v, %v and not %v, %v", c.p, c.start, next, ratio, ok, want, least)
		}
		better, earlier := 0, 0
		eachChoice(len(c.p.Move)*m, countUp(len(c.p.Move)), func(list []int) {
			other := [][]int{}
			for state := range c.p.Move {
				other = append(other, slices.Clone(list[state*m:(state+1)*m]))
			}
			if !plainAlgorithm(c.p, other) {
				return
			}
			if pairs, steps := plainPairs(c.p, other, c.start); len(pairs) > 600 {
				if _, is := plainGains(steps, ratio.Num*1000000-1, ratio.Den*1000000); is {
					better++
				} else if _, is := plainGains(steps, ratio.Num, ratio.Den); is && slices.Compare(list, slices.Concat(next...)) < 0 {
					earlier++
				}
			}
		})
		if better != c.better || better+earlier == 0 {
			t.Errorf("%d better ones and %d earlier ones are left out for %v, %d", better, earlier, c.p, c.start)
		}
	}
}

// potentialArgs are arguments for the functions of chapter 9.
type potentialArgs struct {
	p     impl.Problem
	next  [][]int
	start int
	ratio impl.Frac
	table []int
	reqs  []int
	cycle []int
}

// goodPotential are valid ones, of three states, two requests and as many pairs as the table has numbers. All lists are windows with room behind them.
func goodPotential() potentialArgs {
	s := goodProblem()
	return potentialArgs{p: s.p, next: s.next, start: 0, ratio: over(19, 2), table: window(0, 0, 8), reqs: window(0, 1, 1), cycle: window(1, 1)}
}

// potentialCall is a function, and which arguments it uses: p for the Problem, n for the algorithm, s for the start, r for the ratio, t for the table, q for the requests and c for the cycle.
type potentialCall struct {
	uses string
	call func(s potentialArgs) (zero bool, ok bool)
}

var potentialCalls = map[string]potentialCall{
	"PairsOf":   {"pns", func(s potentialArgs) (bool, bool) { return emptyList(impl.PairsOf(s.p, s.next, s.start)) }},
	"PairSteps": {"pns", func(s potentialArgs) (bool, bool) { return emptyList(impl.PairSteps(s.p, s.next, s.start)) }},
	"PairAfter": {"pnsq", func(s potentialArgs) (bool, bool) { return zeroOf(impl.PairAfter(s.p, s.next, s.start, s.reqs)) }},
	"IsPotential": {"pnsr", func(s potentialArgs) (bool, bool) {
		return zeroOf(impl.IsPotential(s.p, s.next, s.start, s.ratio, s.table))
	}},
	"FirstBroken": {"pnsrt", func(s potentialArgs) (bool, bool) {
		return zeroOf(impl.FirstBroken(s.p, s.next, s.start, s.ratio, s.table))
	}},
	"FindPotential": {"pnsrg", func(s potentialArgs) (bool, bool) {
		return emptyList(impl.FindPotential(s.p, s.next, s.start, s.ratio))
	}},
	"ExtraCost": {"pnsrg", func(s potentialArgs) (bool, bool) { return zeroOf(impl.ExtraCost(s.p, s.next, s.start, s.ratio)) }},
	"CycleGain": {"pnsrqc", func(s potentialArgs) (bool, bool) {
		return zeroOf(impl.CycleGain(s.p, s.next, s.start, s.ratio, s.reqs, s.cycle))
	}},
	"FindCycle": {"pnsr", func(s potentialArgs) (bool, bool) {
		at, cycle, ok := impl.FindCycle(s.p, s.next, s.start, s.ratio)
		return at == 0 && len(cycle) == 0, ok
	}},
	"ExactRatio": {"pns", func(s potentialArgs) (bool, bool) { return zeroOf(impl.ExactRatio(s.p, s.next, s.start)) }},
	"RatioOn":    {"pnsq", func(s potentialArgs) (bool, bool) { return zeroOf(impl.RatioOn(s.p, s.next, s.start, s.reqs)) }},
	"BestMemoryless": {"ps", func(s potentialArgs) (bool, bool) {
		next, ratio, ok := impl.BestMemoryless(s.p, s.start)
		return len(next) == 0 && ratio == impl.Frac{}, ok
	}},
}

// refusePotential checks that all functions that use an argument fail.
func refusePotential(t *testing.T, use string, s potentialArgs, what any) {
	t.Helper()
	for name, c := range potentialCalls {
		if strings.Contains(c.uses, use) {
			if zero, ok := c.call(s); ok || !zero {
				t.Errorf("%s takes %v: %v, %v", name, what, zero, ok)
			}
		}
	}
}

// takePotential checks that all functions that use an argument take it.
func takePotential(t *testing.T, use string, s potentialArgs, what any) {
	t.Helper()
	for name, c := range potentialCalls {
		if strings.Contains(c.uses, use) {
			if _, ok := c.call(s); !ok {
				t.Errorf("%s refuses %v", name, what)
			}
		}
	}
}

// Which of the valid arguments are taken depends on the ratio: below the exact one there is a cycle, and no potential.
func TestChapter9TakesWhatIsValid(t *testing.T) {
	s := goodPotential()
	ratio, ok := impl.ExactRatio(s.p, s.next, s.start)
	pairs, fine := impl.PairsOf(s.p, s.next, s.start)
	if !ok || !fine || len(pairs) != len(s.table) || ratio != over(17, 2) {
		t.Fatal(ratio, ok, pairs, fine)
	}
	for name, c := range potentialCalls {
		for _, ratio := range []impl.Frac{over(19, 2), over(1, 2)} {
			s := goodPotential()
			s.ratio = ratio
			_, ok := c.call(s)
			want := true
			if strings.Contains(c.uses, "g") {
				want = ratio == over(19, 2)
			} else if name == "FindCycle" || name == "FirstBroken" {
				want = ratio == over(1, 2)
			}
			if ok != want {
				t.Errorf("%s with the ratio %v: %v", name, ratio, ok)
			}
		}
	}
}

// eachNoProblem calls refuse with what is no Problem, though most of it is nearly one of three states, and a short form of it for messages.
func eachNoProblem(refuse func(p impl.Problem, what any)) {
	for _, m := range append(badTables(), symmetric(3, []int{-1, 7, 4}), symmetric(3, []int{3, 8, 4}), symmetric(2, []int{-1}), symmetric(5, slices.Repeat([]int{1}, 10))) {
		for _, n := range []int{1, 3, min(len(m.Dist), 9)} {
			refuse(impl.Problem{Move: m.Dist, Serve: [][]int{make([]int, n)}}, m.Dist[:min(len(m.Dist), 6)])
			refuse(impl.Problem{Move: m.Dist, Serve: [][]int{make([]int, n), make([]int, n)}}, m.Dist[:min(len(m.Dist), 6)])
		}
		refuse(impl.Problem{Move: m.Dist}, m.Dist[:min(len(m.Dist), 6)])
	}
	refuse(impl.Problem{}, "no states")
	move := goodProblem().p.Move
	for _, serve := range [][][]int{
		nil, {}, {nil}, {{}}, {{0, 0, 0}, nil}, {{0, 0}, {0, 0}}, {{0, 0, 0, 0}}, {{0, 0, 0}, {0, 0}}, {{-1, -1, -1}}, {{0, 0, 0}, {-1, -1, -1}},
		{{0, 0, 21}, {0, 0, 0}}, {{0, -2, 0}, {0, 0, 0}}, {{0, 0, 0}, {0, math.MaxInt, 0}}, {{math.MinInt, 0, 0}, {0, 0, 0}}, slices.Repeat([][]int{{0, 0, 0}}, 5), slices.Repeat([][]int{{0, 0, 0}}, 100000),
	} {
		refuse(impl.Problem{Move: move, Serve: serve}, len(serve))
	}
}

func TestChapter9RefusesWhatIsNoProblem(t *testing.T) {
	eachNoProblem(func(p impl.Problem, what any) {
		t.Helper()
		one := potentialArgs{p: p, next: [][]int{{0}}, ratio: over(1, 1), table: []int{0}, cycle: []int{0}}
		all := one
		all.next, all.table = slices.Repeat([][]int{{0}}, min(9, len(p.Move))), make([]int, len(p.Move))
		good := goodPotential()
		good.p = p
		for _, s := range []potentialArgs{good, one, all, {p: p}} {
			refusePotential(t, "p", s, what)
			s.ratio = over(0, 1)
			refusePotential(t, "p", s, what)
		}
	})
}

func TestChapter9RefusesWhatIsNoStateOrRequest(t *testing.T) {
	for _, number := range append([]int{-1, 3, 4}, farInts...) {
		s := goodPotential()
		s.start = number
		refusePotential(t, "s", s, number)
		s.reqs, s.ratio = nil, over(1, 2)
		refusePotential(t, "s", s, number)
		for state := range 3 {
			for request := range 2 {
				s := goodPotential()
				s.next[state][request] = number
				refusePotential(t, "n", s, s.next)
				s.ratio = over(1, 2)
				refusePotential(t, "n", s, s.next)
			}
		}
	}
	for _, number := range append([]int{-1, 2, 3}, farInts...) {
		for at := range 3 {
			s := goodPotential()
			s.reqs[at] = number
			refusePotential(t, "q", s, s.reqs)
		}
		for at := range 2 {
			s := goodPotential()
			s.cycle[at] = number
			refusePotential(t, "c", s, s.cycle)
		}
	}
	for _, length := range []int{61, 62, 100000} {
		s := goodPotential()
		s.reqs = slices.Repeat([]int{1}, length)
		refusePotential(t, "q", s, length)
	}
	for _, length := range []int{1, 59, 60} {
		s := goodPotential()
		s.reqs = slices.Repeat([]int{1}, length)
		takePotential(t, "q", s, length)
	}
	for _, length := range []int{0, 7, 60, 61, 100000} {
		s := goodPotential()
		s.cycle = slices.Repeat([]int{1}, length)
		refusePotential(t, "c", s, length)
	}
	for length := 1; length <= 6; length++ {
		s := goodPotential()
		s.cycle = slices.Repeat([]int{1}, length)
		takePotential(t, "c", s, length)
	}
	s := goodPotential()
	s.cycle = []int{0} // it leads to another pair
	refusePotential(t, "c", s, s.cycle)
}

func TestChapter9RefusesWhatIsNoAlgorithm(t *testing.T) {
	for _, next := range [][][]int{
		nil, {}, {nil, nil, nil}, {{}, {}, {}}, {{1, 1}}, {{1, 1}, {1, 1}}, {{1, 1}, {1, 1}, {1, 1}, {1, 1}}, {{1, 1}, {1, 1}, nil}, {nil, {1, 1}, {1, 1}},
		{{1}, {1, 1}, {1, 1}}, {{1, 1}, {1, 1}, {1}}, {{1, 1}, {1, 1, 1}, {1, 1}}, {{1, 1, 1}, {1, 1, 1}, {1, 1, 1}}, {{1}, {1}, {1}},
		{{0, 1}, {1, 1}, {1, 1}}, {{1, 0}, {1, 1}, {1, 1}}, {{1, 1}, {1, 2}, {1, 1}}, {{1, 1}, {1, 1}, {1, 0}}, {{1, 1}, {1, 1}, {2, 2}}, // a state in which the request cannot be served, reached or not
		slices.Repeat([][]int{{1, 1}}, 100000), {make([]int, 100000), {1, 1}, {1, 1}}, {{1, 1}, {1, 1}, make([]int, 100000)},
	} {
		for _, ratio := range []impl.Frac{over(19, 2), over(1, 2), over(0, 1)} {
			s := goodPotential()
			s.next, s.ratio = next, ratio
			refusePotential(t, "n", s, next[:min(len(next), 5)])
		}
	}
}

func TestChapter9RefusesWhatIsNoRatio(t *testing.T) {
	bad := []impl.Frac{{}, {Num: 0, Den: 2}, {Num: 2, Den: 2}, {Num: 14, Den: 4}, {Num: -1, Den: 1}, {Num: -7, Den: 2}, {Num: -1, Den: 2}, {Num: 7, Den: -2}, {Num: -7, Den: -2}, {Num: 7, Den: 0}, {Num: 100000001, Den: 1}, {Num: 100000001, Den: 2}, {Num: 1, Den: 100001}, {Num: 700000, Den: 200001}, {Num: -100000000, Den: 1}, {Num: -1, Den: 100000}}
	for _, number := range farInts {
		if number < 0 || number > 100000000 {
			bad = append(bad, impl.Frac{Num: number, Den: 1}, impl.Frac{Num: number, Den: number}, impl.Frac{Num: 1, Den: number}, impl.Frac{Num: 0, Den: number})
		}
	}
	for _, ratio := range bad {
		for _, table := range [][]int{{0, 0, 8}, make([]int, 3), slices.Repeat([]int{1e15}, 3), nil} {
			s := goodPotential()
			s.ratio, s.table = ratio, table
			refusePotential(t, "r", s, ratio)
		}
	}
}

func TestChapter9RefusesOtherTables(t *testing.T) {
	for _, ratio := range []impl.Frac{over(19, 2), over(1, 2)} {
		for _, table := range [][]int{nil, {}, {0}, {0, 8}, {0, 0, 8, 8}, make([]int, 100000), {-1, 0, 8}, {0, -1, 8}, {0, 0, -1}, {0, 0, 1e15 + 1}, {1e15 + 1, 0, 8}, {math.MaxInt, 0, 8}, {0, 0, math.MinInt}, slices.Repeat([]int{math.MinInt}, 3), slices.Repeat([]int{math.MaxInt}, 3)} {
			s := goodPotential()
			s.ratio, s.table = ratio, table
			refusePotential(t, "t", s, table[:min(len(table), 7)])
			if is, ok := impl.IsPotential(s.p, s.next, s.start, s.ratio, table); !ok || is {
				t.Errorf("IsPotential of %v: %v, %v", table[:min(len(table), 7)], is, ok)
			}
		}
	}
}

// samePotential says whether arguments are those of goodPotential, with what is around them.
func samePotential(s potentialArgs) bool {
	all := func(s potentialArgs) [][]int {
		lists := [][]int{around(s.table), around(s.reqs), around(s.cycle), {s.start, len(s.p.Move), len(s.p.Serve), len(s.next)}}
		for _, list := range slices.Concat(s.p.Move, s.p.Serve, s.next) {
			lists = append(lists, around(list))
		}
		return append(lists, s.p.Move[:4][3], s.p.Serve[:3][2], s.next[:4][3])
	}
	return sameLists(all(s), all(goodPotential()))
}

// Promise 13: arguments stay as they are, with the room behind them.
func TestChapter9ModifiesNoArgument(t *testing.T) {
	s := goodPotential()
	for name, c := range potentialCalls {
		for _, ratio := range []impl.Frac{over(19, 2), over(1, 2), over(0, 1), over(100000000, 1)} {
			for start := range 3 {
				s.ratio, s.start = ratio, start
				c.call(s)
				s.start = 0
				if !samePotential(s) {
					t.Fatalf("%s modifies %v", name, s)
				}
			}
		}
	}
}

// checkFreshTriples does as checkFreshLists for lists of arrays.
func checkFreshTriples[E comparable](t *testing.T, name string, call func() ([]E, bool), same func() bool) {
	t.Helper()
	list, ok := call()
	first := slices.Clone(list)
	clear(list[:cap(list)])
	if again, fine := call(); !ok || len(first) == 0 || !fine || !slices.Equal(again, first) || !same() {
		t.Errorf("%s returns %v and then %v", name, first, again)
	}
}

// Promise 13: results have memory of their own, each list of them too.
func TestChapter9ResultsShareNoMemory(t *testing.T) {
	s := goodPotential()
	same := func() bool { return samePotential(s) }
	checkFreshTriples(t, "PairsOf", func() ([][2]int, bool) { return impl.PairsOf(s.p, s.next, s.start) }, same)
	for at := range s.table {
		checkFreshTriples(t, fmt.Sprint("PairSteps, row ", at), func() ([][3]int, bool) {
			steps, ok := impl.PairSteps(s.p, s.next, s.start)
			return steps[at], ok
		}, same)
		steps, _ := impl.PairSteps(s.p, s.next, s.start)
		clear(steps[at][:cap(steps[at])])
		again, _ := impl.PairSteps(s.p, s.next, s.start)
		for other := range steps {
			if other != at && !slices.Equal(steps[other], again[other]) {
				t.Errorf("the rows %d and %d of PairSteps share memory", at, other)
			}
		}
	}
	checkFresh(t, "FindPotential", func() ([]int, bool) { return impl.FindPotential(s.p, s.next, s.start, s.ratio) }, same)
	checkFresh(t, "FindCycle", func() ([]int, bool) {
		_, cycle, ok := impl.FindCycle(s.p, s.next, s.start, over(1, 2))
		return cycle, ok
	}, same)
	checkFreshLists(t, "BestMemoryless", func() ([][]int, bool) {
		next, _, ok := impl.BestMemoryless(s.p, s.start)
		return next, ok
	}, same)
}
