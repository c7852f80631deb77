package tests

import (
	"math"
	"slices"
	"strings"
	"testing"

	"loop.example/g01087/impl"
)

// mostWork is the greatest value of a work list.
const mostWork = 99999

// plainTeams are the configurations of k servers of a Metric, and what all moves between them cost by trying all matchings.
type plainTeams struct {
	m       impl.Metric
	k       int
	configs [][]int
	costs   [][]int
	index   map[[3]int]int
}

// teamKey is a configuration that can be a key.
func teamKey(config []int) [3]int {
	key := [3]int{-1, -1, -1}
	copy(key[:], config)
	return key
}

func teamsOn(m impl.Metric, k int) plainTeams {
	p := plainTeams{m: m, k: k, configs: plainConfigs(len(m.Dist), k), index: map[[3]int]int{}}
	for x, a := range p.configs {
		costs := []int{}
		for _, b := range p.configs {
			_, cost := plainMatch(m, a, b)
			costs = append(costs, cost)
		}
		p.costs = append(p.costs, costs)
		p.index[teamKey(a)] = x
	}
	return p
}

// with returns the configuration x with the point to in the place of one from.
func (p plainTeams) with(x int, from int, to int) int {
	config := slices.Clone(p.configs[x])
	config[slices.Index(config, from)] = to
	slices.Sort(config)
	return p.index[teamKey(config)]
}

// step returns the next work list, which may have great values.
func (p plainTeams) step(w []int, r int) []int {
	next := []int{}
	for x := range w {
		least := math.MaxInt
		for y, config := range p.configs {
			if slices.Contains(config, r) {
				least = min(least, w[y]+p.costs[y][x])
			}
		}
		next = append(next, least)
	}
	return next
}

// after returns the work lists after the beginnings of a sequence.
func (p plainTeams) after(start int, reqs []int) [][]int {
	lists := [][]int{slices.Clone(p.costs[start])}
	for place, r := range reqs {
		lists = append(lists, p.step(lists[place], r))
	}
	return lists
}

// isWork says whether w is a work list.
func (p plainTeams) isWork(w []int) bool {
	if len(w) != len(p.configs) {
		return false
	}
	for x := range w {
		if w[x] < 0 || w[x] > mostWork {
			return false
		}
	}
	for x := range w {
		for y := range w {
			if abs(w[x]-w[y]) > p.costs[x][y] {
				return false
			}
		}
	}
	return true
}

// support returns the support of w, and the values.
func (p plainTeams) support(w []int) ([][]int, []int) {
	configs, values := [][]int{}, []int{}
	for x, value := range w {
		least := math.MaxInt
		for y := range w {
			if y != x {
				least = min(least, w[y]+p.costs[y][x])
			}
		}
		if value < least {
			configs, values = append(configs, p.configs[x]), append(values, value)
		}
	}
	return configs, values
}

// far returns the index of the configuration that is far from r in w.
func (p plainTeams) far(w []int, r int) int {
	best, least := -1, math.MaxInt
	for x, config := range p.configs {
		worth := w[x]
		for _, point := range config {
			worth -= p.m.Dist[point][r]
		}
		if worth < least {
			best, least = x, worth
		}
	}
	return best
}

// exchange returns two configurations and a point that cannot be exchanged, or -1s.
func (p plainTeams) exchange(w []int) [3]int {
	for x, a := range p.configs {
		for y, b := range p.configs {
			for _, from := range a {
				found := false
				for _, to := range b {
					found = found || w[p.with(x, from, to)]+w[p.with(y, to, from)] <= w[x]+w[y]
				}
				if !found {
					return [3]int{x, y, from}
				}
			}
		}
	}
	return [3]int{-1, -1, -1}
}

// serve returns to where the work function algorithm goes from the configuration at, with the next work list, and the cost.
func (p plainTeams) serve(next []int, at int, r int) (int, int) {
	if slices.Contains(p.configs[at], r) {
		return at, 0
	}
	best, cost := -1, 0
	for x := range p.configs {
		for _, from := range p.configs[at] {
			d := p.m.Dist[from][r]
			if p.with(at, from, r) == x && (best < 0 || next[x]+d < next[best]+cost) {
				best, cost = x, d
			}
		}
	}
	return best, cost
}

// first returns the first schedule with the least cost, with what is left to pay behind each place for each configuration.
func (p plainTeams) first(start int, reqs []int) [][]int {
	left := [][]int{make([]int, len(p.configs))}
	for i := range reqs {
		left = slices.Insert(left, 0, p.step(left[0], reqs[len(reqs)-1-i]))
	}
	schedule := [][]int{}
	for place, r := range reqs {
		next := -1
		for x, config := range p.configs {
			if next < 0 && slices.Contains(config, r) && p.costs[start][x]+left[place+1][x] == left[place][start] {
				next = x
			}
		}
		schedule, start = append(schedule, p.configs[next]), next
	}
	return schedule
}

// eachSchedule calls visit with all schedules of a sequence, as indices in lexicographic order, and their costs.
func (p plainTeams) eachSchedule(start int, reqs []int, visit func(schedule []int, cost int)) {
	schedule := make([]int, len(reqs))
	var choose func(place int, at int, cost int)
	choose = func(place int, at int, cost int) {
		if place == len(reqs) {
			visit(schedule, cost)
			return
		}
		for x, config := range p.configs {
			if slices.Contains(config, reqs[place]) {
				schedule[place] = x
				choose(place+1, x, cost+p.costs[at][x])
			}
		}
	}
	choose(0, start, 0)
}

// lists returns the configurations with these indices.
func (p plainTeams) lists(indices []int) [][]int {
	lists := [][]int{}
	for _, x := range indices {
		lists = append(lists, p.configs[x])
	}
	return lists
}

// some returns some configurations, all if there are few.
func (p plainTeams) some(seed int) []int {
	if len(p.configs) <= 10 {
		return countUp(len(p.configs))
	}
	return []int{0, (7*seed + 3) % len(p.configs), (13*seed + 11) % len(p.configs), len(p.configs) - 1}
}

// workMetrics are the Metrics for work functions: of one point and of all numbers of points, with equal, near and far distances.
func workMetrics() []impl.Metric {
	metrics := []impl.Metric{dists([]int{0}), symmetric(2, []int{1}), symmetric(2, []int{99}), symmetric(3, []int{2, 2, 2}), symmetric(3, []int{50, 99, 49}), symmetric(4, []int{1, 2, 1, 1, 2, 1})}
	line, _ := impl.LineMetric([]int{7, 0, 3, 9, 12, 99})
	star, _ := impl.StarMetric([]int{1, 5, 5, 49, 2})
	tree, _ := impl.TreeMetric([]int{0, 0, 1, 2, 2}, []int{3, 4, 3, 3, 1})
	uniform, _ := impl.UniformMetric(6, 99)
	metrics = append(metrics, line, star, tree, uniform, symmetric(5, []int{2, 2, 2, 1, 2, 2, 1, 2, 1, 1}))
	for n := 3; n <= 6; n++ {
		for seed := range 3 {
			metrics = append(metrics, seededTable(n, 1+seed*seed, 2+2*seed*seed, 0, 50*n+seed))
		}
		metrics = append(metrics, seededTable(n, 50, 99, 0, n))
	}
	return metrics
}

// workSequences are sequences of n points: short and long ones, with few and with many of the points, and the same one several times in a row.
func workSequences(n int, seed int) [][]int {
	mixed := seededSequence(n, 60, seed)
	few := seededSequence(min(n, 3), 25, seed+1)
	runs := []int{}
	for place := range 30 {
		runs = append(runs, mixed[place/(1+seed%4)])
	}
	return [][]int{{}, {seed % n}, {n - 1, n - 1, n - 1, 0, 0}, mixed[:7], few, runs, mixed}
}

func TestChapter7Constants(t *testing.T) {
	if impl.MaxWork != mostWork || impl.MaxChained != 24 {
		t.Error(impl.MaxWork, impl.MaxChained)
	}
}

// checkWork checks what is told of a work list, and returns whether it has an exchange break.
func checkWork(t *testing.T, p plainTeams, w []int, seed int) bool {
	t.Helper()
	if is, ok := impl.IsWork(p.m, p.k, w); !ok || !is {
		t.Fatalf("IsWork(%v, %d, %v) = %v, %v", p.m, p.k, w, is, ok)
	}
	for _, x := range p.some(seed) {
		if value, ok := impl.WorkOf(p.m, p.k, w, p.configs[x]); !ok || value != w[x] {
			t.Fatalf("WorkOf(%v, %d, %v, %v) = %v, %v", p.m, p.k, w, p.configs[x], value, ok)
		}
	}
	support, values := p.support(w)
	if l, ok := impl.SupportOf(p.m, p.k, w); !isLists(l, ok, support...) {
		t.Fatalf("SupportOf(%v, %d, %v) = %v, %v", p.m, p.k, w, l, ok)
	}
	// The support supports the work list, and all of its configurations do too.
	if l, ok := impl.FromSupport(p.m, support, values); !isList(l, ok, w...) {
		t.Fatalf("FromSupport(%v, %v, %v) = %v, %v and not %v", p.m, support, values, l, ok, w)
	}
	if l, ok := impl.FromSupport(p.m, p.configs, w); !isList(l, ok, w...) {
		t.Fatalf("FromSupport(%v, all, %v) = %v, %v", p.m, w, l, ok)
	}
	for r := range p.m.Dist {
		checkRequest(t, p, w, r, seed+r)
	}
	want := p.exchange(w)
	x, y, point, ok := impl.ExchangeBreak(p.m, p.k, w)
	if ok != (want[0] >= 0) || !ok && (len(x) != 0 || len(y) != 0 || point != 0) {
		t.Fatalf("ExchangeBreak(%v, %d, %v) = %v, %v, %v, %v", p.m, p.k, w, x, y, point, ok)
	}
	if ok && (!slices.Equal(x, p.configs[want[0]]) || !slices.Equal(y, p.configs[want[1]]) || point != want[2]) {
		t.Fatalf("ExchangeBreak(%v, %d, %v) = %v, %v, %v and not %v", p.m, p.k, w, x, y, point, want)
	}
	return ok
}

// checkRequest checks what is told of a work list and a request.
func checkRequest(t *testing.T, p plainTeams, w []int, r int, seed int) {
	t.Helper()
	next, growth := p.step(w, r), 0
	for x := range w {
		growth = max(growth, next[x]-w[x])
	}
	fits := slices.Max(next) <= mostWork
	if l, ok := impl.StepWork(p.m, p.k, w, r); fits && !isList(l, ok, next...) || !fits && !nothing(l, ok) {
		t.Fatalf("StepWork(%v, %d, %v, %d) = %v, %v", p.m, p.k, w, r, l, ok)
	}
	if n, ok := impl.GrowthOf(p.m, p.k, w, r); ok != fits || fits && n != growth || !fits && n != 0 {
		t.Fatalf("GrowthOf(%v, %d, %v, %d) = %v, %v", p.m, p.k, w, r, n, ok)
	}
	if l, ok := impl.FarConfig(p.m, p.k, w, r); !isList(l, ok, p.configs[p.far(w, r)]...) {
		t.Fatalf("FarConfig(%v, %d, %v, %d) = %v, %v", p.m, p.k, w, r, l, ok)
	}
	for _, at := range p.some(seed) {
		a := p.configs[at]
		config, cost, ok := impl.WorkServe(p.m, p.k, w, a, r)
		if !fits && !slices.Contains(a, r) {
			if !nothing(config, ok) || cost != 0 {
				t.Fatalf("WorkServe(%v, %d, %v, %v, %d) = %v, %v, %v", p.m, p.k, w, a, r, config, cost, ok)
			}
			continue
		}
		to, moves := p.serve(next, at, r)
		if !isList(config, ok, p.configs[to]...) || cost != moves || cost != p.costs[at][to] {
			t.Fatalf("WorkServe(%v, %d, %v, %v, %d) = %v, %v, %v", p.m, p.k, w, a, r, config, cost, ok)
		}
	}
}

// checkServing checks what is told of a sequence, and returns the last of its work lists.
func checkServing(t *testing.T, p plainTeams, start int, reqs []int) []int {
	t.Helper()
	a, want := p.configs[start], p.after(start, reqs)
	if l, ok := impl.StartWork(p.m, a); !isList(l, ok, want[0]...) {
		t.Fatalf("StartWork(%v, %v) = %v, %v", p.m, a, l, ok)
	}
	if lists, ok := impl.WorkLists(p.m, a, reqs); !isLists(lists, ok, want...) {
		t.Fatalf("WorkLists(%v, %v, %v) = %v, %v", p.m, a, reqs, lists, ok)
	}
	last := want[len(reqs)]
	least := slices.Min(last)
	if n, ok := impl.LeastWork(p.m, a, reqs); !ok || n != least {
		t.Fatalf("LeastWork(%v, %v, %v) = %v, %v", p.m, a, reqs, n, ok)
	}
	schedule, ok := impl.LeastSchedule(p.m, a, reqs)
	if !isLists(schedule, ok, p.first(start, reqs)...) {
		t.Fatalf("LeastSchedule(%v, %v, %v) = %v, %v", p.m, a, reqs, schedule, ok)
	}
	if n, ok := impl.ScheduleMoves(p.m, a, reqs, schedule); !ok || n != least {
		t.Fatalf("LeastSchedule(%v, %v, %v) = %v costs %v, %v", p.m, a, reqs, schedule, n, ok)
	}
	checkWorkRun(t, p, start, reqs, want)
	return last
}

// checkWorkRun checks the work function algorithm on a sequence against its work lists.
func checkWorkRun(t *testing.T, p plainTeams, start int, reqs []int, lists [][]int) {
	t.Helper()
	a, at, sum, growths, configs := p.configs[start], start, 0, 0, [][]int{}
	for place, r := range reqs {
		to, cost := p.serve(lists[place+1], at, r)
		configs, sum, at = append(configs, p.configs[to]), sum+cost, to
		growth := 0
		for x, value := range lists[place] {
			growth = max(growth, lists[place+1][x]-value)
		}
		// The growth is that of the far configuration.
		far := p.far(lists[place], r)
		if lists[place+1][far]-lists[place][far] != growth {
			t.Fatalf("the growth %d after %v, %v for %d is not that of %v on %v", growth, a, reqs[:place], r, p.configs[far], p.m)
		}
		growths += growth
	}
	l, cost, ok := impl.WorkRun(p.m, a, reqs)
	if !isLists(l, ok, configs...) || cost != sum {
		t.Fatalf("WorkRun(%v, %v, %v) = %v, %v, %v", p.m, a, reqs, l, cost, ok)
	}
	if moves, ok := impl.ScheduleMoves(p.m, a, reqs, l); !ok || moves != cost {
		t.Fatalf("WorkRun(%v, %v, %v) tells the cost %v of %v", p.m, a, reqs, cost, moves)
	}
	if cost+lists[len(reqs)][at] > growths {
		t.Fatalf("WorkRun(%v, %v, %v) costs %v, and all growths are %v", p.m, a, reqs, cost, growths)
	}
}

// Promise 7, by trying all schedules.
func TestWorkListsAreThoseOfAllSchedules(t *testing.T) {
	for _, m := range []impl.Metric{dists([]int{0}), symmetric(2, []int{1}), symmetric(2, []int{99}), symmetric(3, []int{1, 1, 1}), symmetric(3, []int{1, 2, 1}), symmetric(3, []int{50, 98, 49}), symmetric(3, []int{3, 2, 4})} {
		n := len(m.Dist)
		for k := 1; k <= 3; k++ {
			p, most := teamsOn(m, k), 4
			if n == 3 {
				most = 5 - k
			}
			for start, a := range p.configs {
				for _, reqs := range sequencesOver(n, most) {
					work, least, first := slices.Repeat([]int{math.MaxInt}, len(p.configs)), math.MaxInt, [][]int{}
					p.eachSchedule(start, reqs, func(schedule []int, cost int) {
						if cost < least {
							least, first = cost, p.lists(schedule)
						}
						last := start
						if len(schedule) > 0 {
							last = schedule[len(schedule)-1]
						}
						for x := range work {
							work[x] = min(work[x], cost+p.costs[last][x])
						}
					})
					if lists, ok := impl.WorkLists(m, a, reqs); !ok || len(lists) != len(reqs)+1 || !slices.Equal(lists[len(reqs)], work) {
						t.Fatalf("WorkLists(%v, %v, %v) = %v, %v", m, a, reqs, lists, ok)
					}
					if n, ok := impl.LeastWork(m, a, reqs); !ok || n != least {
						t.Fatalf("LeastWork(%v, %v, %v) = %v, %v", m, a, reqs, n, ok)
					}
					if l, ok := impl.LeastSchedule(m, a, reqs); !isLists(l, ok, first...) {
						t.Fatalf("LeastSchedule(%v, %v, %v) = %v, %v", m, a, reqs, l, ok)
					}
				}
			}
		}
	}
}

// Promise 7, on long sequences and many points.
func TestWorkFunctionsOfSequences(t *testing.T) {
	for i, m := range workMetrics() {
		for k := 1; k <= 3; k++ {
			p := teamsOn(m, k)
			for j, start := range p.some(i) {
				for _, reqs := range workSequences(len(m.Dist), 10*i+k) {
					if len(p.configs) > 20 && j > 0 && len(reqs) > 10 {
						continue
					}
					last := checkServing(t, p, start, reqs)
					if len(p.configs) > 20 && (i+j+len(reqs))%4 > 0 {
						continue
					}
					if checkWork(t, p, last, i+j) {
						t.Fatalf("there is an exchange break after %v, %v on %v", p.configs[start], reqs, m)
					}
				}
			}
		}
	}
}

// Promise 7: ExchangeBreak fails for all work lists after sequences.
func TestNoExchangeBreaksAfterSequences(t *testing.T) {
	for i, m := range workMetrics() {
		for k := 1; k <= 3; k++ {
			p := teamsOn(m, k)
			for _, start := range p.some(i) {
				lists, _ := impl.WorkLists(m, p.configs[start], seededSequence(len(m.Dist), 12, i))
				for _, w := range lists {
					if x, y, point, ok := impl.ExchangeBreak(m, k, w); ok || len(x) != 0 || len(y) != 0 || point != 0 {
						t.Fatalf("ExchangeBreak(%v, %d, %v) = %v, %v, %v, %v", m, k, w, x, y, point, ok)
					}
				}
			}
		}
	}
}

// onSmallLists calls check with all lists of few small values for few configurations, work lists or not.
func onSmallLists(check func(p plainTeams, w []int)) {
	for _, c := range []struct {
		m    impl.Metric
		k    int
		most int
	}{
		{dists([]int{0}), 1, 3}, {dists([]int{0}), 3, 3}, {symmetric(2, []int{2}), 1, 4}, {symmetric(2, []int{2}), 2, 5}, {symmetric(2, []int{1}), 3, 4},
		{symmetric(3, []int{1, 2, 2}), 1, 4}, {symmetric(3, []int{1, 2, 1}), 1, 3}, {symmetric(3, []int{1, 1, 1}), 2, 2}, {symmetric(3, []int{1, 2, 1}), 2, 2}, {symmetric(2, []int{2}), 3, 5},
	} {
		p := teamsOn(c.m, c.k)
		eachChoice(len(p.configs), countUp(c.most+1), func(w []int) { check(p, w) })
	}
}

func TestAllSmallWorkLists(t *testing.T) {
	seen, breaks := map[bool]int{}, 0
	onSmallLists(func(p plainTeams, w []int) {
		want := p.isWork(w)
		seen[want]++
		if is, ok := impl.IsWork(p.m, p.k, w); !ok || is != want {
			t.Fatalf("IsWork(%v, %d, %v) = %v, %v", p.m, p.k, w, is, ok)
		}
		if !want {
			if l, ok := impl.SupportOf(p.m, p.k, w); !nothing(l, ok) {
				t.Fatalf("SupportOf(%v, %d, %v) = %v, %v", p.m, p.k, w, l, ok)
			}
			return
		}
		if checkWork(t, p, slices.Clone(w), len(w)) {
			breaks++
		}
	})
	if seen[true] < 500 || seen[false] < 500 || breaks < 100 {
		t.Error("few lists of a kind", seen, breaks)
	}
}

// The values at the upper end are those from which some next work lists are just possible, and others are not.
func TestWorkListsAtTheUpperEnd(t *testing.T) {
	beyond := 0
	onSmallLists(func(p plainTeams, w []int) {
		if !p.isWork(w) {
			return
		}
		for gap := range 3 {
			high := []int{}
			for _, value := range w {
				high = append(high, value+mostWork-gap-slices.Max(w))
			}
			checkWork(t, p, high, gap)
			for r := range p.m.Dist {
				if slices.Max(p.step(high, r)) > mostWork {
					beyond++
				}
			}
		}
		for _, value := range w {
			if value < slices.Max(w) {
				w = slices.Clone(w)
				for x := range w {
					w[x] += mostWork - slices.Max(w) + 1
				}
				if is, ok := impl.IsWork(p.m, p.k, w); !ok || is {
					t.Fatalf("IsWork(%v, %d, %v) = %v, %v", p.m, p.k, w, is, ok)
				}
				break
			}
		}
	})
	if beyond < 100 {
		t.Error("few next work lists are beyond MaxWork", beyond)
	}
	far := symmetric(2, []int{99})
	if l, ok := impl.StepWork(far, 1, []int{mostWork - 99, mostWork - 50}, 0); !isList(l, ok, mostWork-99, mostWork) {
		t.Error("the greatest value", l, ok)
	}
	if l, ok := impl.StepWork(far, 1, []int{mostWork - 98, mostWork - 50}, 0); !nothing(l, ok) {
		t.Error("one more", l, ok)
	}
	if n, ok := impl.GrowthOf(far, 1, []int{mostWork - 98, mostWork - 50}, 0); ok || n != 0 {
		t.Error("a growth beyond", n, ok)
	}
	if l, ok := impl.FarConfig(far, 1, []int{mostWork - 98, mostWork - 50}, 0); !isList(l, ok, 1) {
		t.Error("a far configuration needs no next work list", l, ok)
	}
	if l, cost, ok := impl.WorkServe(far, 1, []int{mostWork - 98, mostWork - 50}, []int{1}, 0); !nothing(l, ok) || cost != 0 {
		t.Error("a move beyond", l, cost, ok)
	}
	if l, cost, ok := impl.WorkServe(far, 1, []int{mostWork - 98, mostWork - 50}, []int{0}, 0); !isList(l, ok, 0) || cost != 0 {
		t.Error("a configuration that has the point needs no next work list", l, cost, ok)
	}
}

func TestIsWorkAtItsBounds(t *testing.T) {
	m := symmetric(3, []int{3, 7, 4})
	for _, c := range []struct {
		k  int
		w  []int
		is bool
	}{
		{1, []int{0, 0, 0}, true},
		{1, []int{mostWork, mostWork, mostWork}, true},
		{1, []int{0, 3, 7}, true},
		{1, []int{0, 4, 7}, false},
		{1, []int{0, 3, 8}, false},
		{1, []int{0, 4, 8}, false},
		{1, []int{3, 0, 4}, true},
		{1, []int{4, 0, 4}, false},
		{1, []int{3, 0, 5}, false},
		{1, []int{7, 4, 0}, true},
		{1, []int{7, 5, 0}, false},
		{1, []int{mostWork - 7, mostWork - 4, mostWork}, true},
		{1, []int{mostWork - 6, mostWork - 3, mostWork + 1}, false},
		{1, []int{0, -1, 0}, false},
		{1, []int{-1, -1, -1}, false},
		{1, []int{mostWork + 1, mostWork + 1, mostWork + 1}, false},
		{1, []int{0, 0}, false},
		{1, []int{0, 0, 0, 0}, false},
		{1, nil, false},
		{2, []int{0, 0, 0}, false},
		{2, []int{3, 0, 4, 3, 7, 11}, true},
		{2, []int{3, 0, 4, 3, 7, 12}, false},
		{2, []int{0, 3, 7, 6, 10, 14}, true},
		{2, []int{0, 3, 7, 7, 10, 14}, false},
		{2, []int{0, 3, 7, 6, 11, 14}, false},
		{3, slices.Repeat([]int{5}, 10), true},
		{3, slices.Repeat([]int{5}, 9), false},
		{3, slices.Repeat([]int{5}, 11), false},
		{3, slices.Repeat([]int{5}, 56), false},
		{3, slices.Repeat([]int{5}, 100000), false},
		{1, []int{math.MinInt, math.MaxInt, 0}, false},
		{1, []int{math.MaxInt, math.MaxInt, math.MaxInt}, false},
		{1, []int{math.MinInt, math.MinInt, math.MinInt}, false},
		{1, []int{0, 0, math.MinInt}, false},
		{1, []int{math.MaxInt, 0, 0}, false},
	} {
		if is, ok := impl.IsWork(m, c.k, c.w); !ok || is != c.is {
			t.Errorf("IsWork(%v, %d, %v) = %v, %v", m, c.k, c.w[:min(len(c.w), 12)], is, ok)
		}
	}
	uniform, _ := impl.UniformMetric(6, 99)
	if is, ok := impl.IsWork(uniform, 3, make([]int, 56)); !ok || !is {
		t.Error("56 configurations", is, ok)
	}
	for _, length := range []int{0, 1, 55, 57} {
		if is, ok := impl.IsWork(uniform, 3, make([]int, length)); !ok || is {
			t.Error("there are 56 configurations and not", length, is, ok)
		}
	}
}

func TestNamedWorkLists(t *testing.T) {
	m, _ := impl.LineMetric([]int{0, 1, 2})
	if l, ok := impl.StartWork(m, []int{0}); !isList(l, ok, 0, 1, 2) {
		t.Error("StartWork", l, ok)
	}
	if l, ok := impl.StartWork(m, []int{0, 0}); !isList(l, ok, 0, 1, 2, 2, 3, 4) {
		t.Error("StartWork of two servers at one point", l, ok)
	}
	if lists, ok := impl.WorkLists(m, []int{0}, []int{2, 1, 2}); !isLists(lists, ok, []int{0, 1, 2}, []int{4, 3, 2}, []int{4, 3, 4}, []int{6, 5, 4}) {
		t.Error("WorkLists", lists, ok)
	}
	if n, ok := impl.LeastWork(m, []int{0}, []int{2, 1, 2}); !ok || n != 4 {
		t.Error("the example of LeastWork", n, ok)
	}
	if lists, ok := impl.WorkLists(m, []int{1}, nil); !isLists(lists, ok, []int{1, 0, 1}) {
		t.Error("WorkLists without requests", lists, ok)
	}
	for _, reqs := range [][]int{nil, {0}, make([]int, 60)} {
		point := dists([]int{0})
		lists, ok := impl.WorkLists(point, []int{0, 0, 0}, reqs)
		if !isLists(lists, ok, slices.Repeat([][]int{{0}}, len(reqs)+1)...) {
			t.Error("WorkLists of one point", lists, ok)
		}
		if l, ok := impl.LeastSchedule(point, []int{0, 0}, reqs); !isLists(l, ok, slices.Repeat([][]int{{0, 0}}, len(reqs))...) {
			t.Error("LeastSchedule of one point", l, ok)
		}
		if l, cost, ok := impl.WorkRun(point, []int{0, 0}, reqs); !isLists(l, ok, slices.Repeat([][]int{{0, 0}}, len(reqs))...) || cost != 0 {
			t.Error("WorkRun of one point", l, cost, ok)
		}
	}
	// From end to end: the greatest cost of all.
	if n, ok := impl.LeastWork(symmetric(2, []int{99}), []int{0}, slices.Repeat([]int{1, 0}, 30)); !ok || n != 60*99 {
		t.Error("LeastWork from end to end", n, ok)
	}
	if n, ok := impl.GrowthOf(m, 1, []int{0, 1, 2}, 2); !ok || n != 4 {
		t.Error("GrowthOf", n, ok)
	}
	if n, ok := impl.GrowthOf(m, 1, []int{4, 3, 2}, 2); !ok || n != 0 {
		t.Error("GrowthOf where nothing grows", n, ok)
	}
}

func TestTheFirstOfSeveral(t *testing.T) {
	uniform, _ := impl.UniformMetric(4, 5)
	line, _ := impl.LineMetric([]int{0, 1, 2})
	// On a line, 1 is as far from both.
	if l, ok := impl.LeastSchedule(line, []int{0, 2}, []int{1}); !isLists(l, ok, []int{0, 1}) {
		t.Error("LeastSchedule", l, ok)
	}
	// A move ahead of its request costs the same, and makes for an earlier configuration.
	if l, ok := impl.LeastSchedule(line, []int{1, 2}, []int{2, 0}); !isLists(l, ok, []int{0, 2}, []int{0, 2}) {
		t.Error("LeastSchedule", l, ok)
	}
	if l, ok := impl.LeastSchedule(line, []int{2, 2}, []int{1, 0}); !isLists(l, ok, []int{1, 2}, []int{0, 2}) {
		t.Error("LeastSchedule", l, ok)
	}
	if l, ok := impl.LeastSchedule(uniform, []int{1, 2}, []int{0, 3}); !isLists(l, ok, []int{0, 1}, []int{0, 3}) {
		t.Error("LeastSchedule", l, ok)
	}
	flat := slices.Repeat([]int{7}, 10)
	if l, ok := impl.FarConfig(uniform, 2, flat, 0); !isList(l, ok, 1, 1) {
		t.Error("FarConfig", l, ok)
	}
	if l, ok := impl.FarConfig(uniform, 2, flat, 1); !isList(l, ok, 0, 0) {
		t.Error("FarConfig", l, ok)
	}
	if l, cost, ok := impl.WorkServe(uniform, 2, flat, []int{1, 2}, 3); !isList(l, ok, 1, 3) || cost != 5 {
		t.Error("WorkServe", l, cost, ok)
	}
	if l, cost, ok := impl.WorkServe(uniform, 2, flat, []int{1, 2}, 0); !isList(l, ok, 0, 1) || cost != 5 {
		t.Error("WorkServe", l, cost, ok)
	}
	if l, cost, ok := impl.WorkServe(uniform, 3, slices.Repeat([]int{7}, 20), []int{1, 2, 3}, 0); !isList(l, ok, 0, 1, 2) || cost != 5 {
		t.Error("WorkServe", l, cost, ok)
	}
	if l, cost, ok := impl.WorkServe(uniform, 3, slices.Repeat([]int{7}, 20), []int{1, 1, 2}, 3); !isList(l, ok, 1, 1, 3) || cost != 5 {
		t.Error("WorkServe", l, cost, ok)
	}
	// A distance that is less is worth as much as a value that is less.
	if l, cost, ok := impl.WorkServe(line, 1, []int{0, 1, 2}, []int{0}, 2); !isList(l, ok, 2) || cost != 2 {
		t.Error("WorkServe", l, cost, ok)
	}
	if l, cost, ok := impl.WorkServe(line, 2, []int{0, 1, 2, 2, 3, 4}, []int{0, 2}, 1); !isList(l, ok, 0, 1) || cost != 1 {
		t.Error("WorkServe", l, cost, ok)
	}
	if l, cost, ok := impl.WorkServe(line, 2, []int{4, 3, 2, 2, 1, 0}, []int{0, 2}, 1); !isList(l, ok, 1, 2) || cost != 1 {
		t.Error("WorkServe", l, cost, ok)
	}
	if l, cost, ok := impl.WorkServe(line, 2, []int{4, 3, 2, 2, 1, 0}, []int{1, 1}, 1); !isList(l, ok, 1, 1) || cost != 0 {
		t.Error("WorkServe", l, cost, ok)
	}
}

func TestSupports(t *testing.T) {
	m, _ := impl.LineMetric([]int{0, 1, 2})
	two := symmetric(2, []int{2})
	for _, c := range []struct {
		m       impl.Metric
		k       int
		w       []int
		support [][]int
	}{
		{m, 1, []int{4, 3, 2}, [][]int{{2}}},
		{m, 1, []int{0, 1, 1}, [][]int{{0}, {2}}},
		{m, 1, []int{5, 5, 5}, [][]int{{0}, {1}, {2}}}, // all
		{m, 1, []int{1, 0, 1}, [][]int{{1}}},
		{m, 1, []int{0, 1, 0}, [][]int{{0}, {2}}},
		{two, 2, []int{3, 3, 3}, [][]int{{0, 0}, {0, 1}, {1, 1}}},
		{two, 2, []int{3, 1, 3}, [][]int{{0, 1}}},
		{two, 2, []int{0, 2, 4}, [][]int{{0, 0}}},
		{two, 2, []int{0, 2, 3}, [][]int{{0, 0}, {1, 1}}},
	} {
		if l, ok := impl.SupportOf(c.m, c.k, c.w); !isLists(l, ok, c.support...) {
			t.Errorf("SupportOf(%v, %d, %v) = %v, %v", c.m, c.k, c.w, l, ok)
		}
	}
	uniform, _ := impl.UniformMetric(6, 99)
	if l, ok := impl.SupportOf(uniform, 3, make([]int, 56)); !isLists(l, ok, plainConfigs(6, 3)...) {
		t.Error("all 56 configurations", len(l), ok)
	}
}

func TestFromSupport(t *testing.T) {
	for i, m := range workMetrics() {
		for k := 1; k <= 3; k++ {
			p := teamsOn(m, k)
			for seed, count := range []int{1, 2, 3, 8, 55, 56} {
				states, configs, values, want := statesOf(10*i+seed, 2*count), [][]int{}, []int{}, slices.Repeat([]int{math.MaxInt}, len(p.configs))
				for j := range count {
					x, value := int(states[j]/16)%len(p.configs), int(states[count+j]/16)%[]int{1, 5, 300, mostWork + 1}[seed%4]
					configs, values = append(configs, p.configs[x]), append(values, value)
					for y := range want {
						want[y] = min(want[y], value+p.costs[x][y])
					}
				}
				fits := slices.Max(want) <= mostWork
				if l, ok := impl.FromSupport(m, configs, values); fits && !isList(l, ok, want...) || !fits && !nothing(l, ok) {
					t.Fatalf("FromSupport(%v, %v, %v) = %v, %v", m, configs, values, l, ok)
				}
			}
		}
	}
	m, _ := impl.LineMetric([]int{0, 1, 2})
	for _, c := range []struct {
		configs [][]int
		values  []int
		want    []int
	}{
		{[][]int{{0}, {2}}, []int{0, 1}, []int{0, 1, 1}},
		{[][]int{{0}, {0}}, []int{9, 4}, []int{4, 5, 6}}, // the same one twice
		{[][]int{{0}, {0}}, []int{4, 9}, []int{4, 5, 6}},
		{[][]int{{2}, {0}, {2}}, []int{0, 50, 0}, []int{2, 1, 0}},
		{[][]int{{1}}, []int{mostWork - 1}, []int{mostWork, mostWork - 1, mostWork}},
		{[][]int{{1}}, []int{mostWork}, nil}, // beyond MaxWork
		{[][]int{{0}}, []int{mostWork - 1}, nil},
		{[][]int{{0}, {2}}, []int{mostWork - 1, mostWork}, []int{mostWork - 1, mostWork, mostWork}},
		{[][]int{{0}, {1}, {2}}, []int{mostWork, mostWork, mostWork}, []int{mostWork, mostWork, mostWork}},
		{[][]int{{0, 2}}, []int{3}, []int{5, 4, 3, 5, 4, 5}},
		{slices.Repeat([][]int{{1}}, 56), countUp(56), []int{1, 0, 1}},
	} {
		if l, ok := impl.FromSupport(m, c.configs, c.values); c.want != nil && !isList(l, ok, c.want...) || c.want == nil && !nothing(l, ok) {
			t.Errorf("FromSupport(%v, %v) = %v, %v", c.configs, c.values, l, ok)
		}
	}
	if l, ok := impl.FromSupport(dists([]int{0}), [][]int{{0, 0, 0}}, []int{mostWork}); !isList(l, ok, mostWork) {
		t.Error("the greatest value", l, ok)
	}
}

func TestNamedExchangeBreaks(t *testing.T) {
	two, line := symmetric(2, []int{1}), symmetric(3, []int{1, 2, 1})
	for _, c := range []struct {
		m     impl.Metric
		k     int
		w     []int
		x, y  []int
		point int
	}{
		{two, 2, []int{0, 1, 0}, []int{0, 0}, []int{1, 1}, 0},
		{two, 2, []int{0, 1, 1}, []int{0, 0}, []int{1, 1}, 0}, // by one
		{two, 2, []int{1, 1, 1}, nil, nil, 0},
		{two, 2, []int{0, 0, 0}, nil, nil, 0},
		{two, 3, []int{0, 0, 1, 0}, []int{0, 0, 0}, []int{1, 1, 1}, 0},
		{two, 3, []int{1, 0, 1, 0}, []int{0, 0, 1}, []int{1, 1, 1}, 0},
		{two, 3, []int{0, 1, 0, 1}, []int{0, 1, 1}, []int{0, 0, 0}, 1}, // 0 is exchanged with 0
		{line, 2, []int{1, 1, 1, 1, 2, 1}, []int{0, 1}, []int{2, 2}, 0},
		{line, 2, []int{1, 1, 1, 0, 1, 0}, []int{0, 0}, []int{1, 1}, 0},
		{line, 2, []int{0, 1, 2, 2, 2, 1}, []int{0, 0}, []int{1, 2}, 0},
		{line, 1, []int{0, 1, 0}, nil, nil, 0}, // a single server is always exchanged
	} {
		x, y, point, ok := impl.ExchangeBreak(c.m, c.k, c.w)
		if ok != (c.x != nil) || !slices.Equal(x, c.x) || !slices.Equal(y, c.y) || point != c.point {
			t.Errorf("ExchangeBreak(%v, %d, %v) = %v, %v, %v, %v", c.m, c.k, c.w, x, y, point, ok)
		}
	}
}

func TestCruelRequests(t *testing.T) {
	for i, m := range workMetrics() {
		n := len(m.Dist)
		for k := 1; k <= 3; k++ {
			p := teamsOn(m, k)
			for _, start := range p.some(i) {
				a := p.configs[start]
				for _, length := range []int{0, 1, 2, 20, 60} {
					reqs, ok := impl.CruelRequests(m, a, length)
					if n <= k {
						if !nothing(reqs, ok) {
							t.Fatalf("CruelRequests(%v, %v, %d) = %v, %v", m, a, length, reqs, ok)
						}
						continue
					}
					want, at, w := []int{}, start, p.costs[start]
					for range length {
						r := slices.IndexFunc(countUp(n), func(r int) bool { return !slices.Contains(p.configs[at], r) })
						w = p.step(w, r)
						want = append(want, r)
						at, _ = p.serve(w, at, r)
					}
					if !isList(reqs, ok, want...) {
						t.Fatalf("CruelRequests(%v, %v, %d) = %v, %v", m, a, length, reqs, ok)
					}
					// The algorithm pays for each of them.
					if _, cost, ok := impl.WorkRun(m, a, reqs); !ok || cost < length {
						t.Fatalf("WorkRun(%v, %v, %v) costs %v, %v", m, a, reqs, cost, ok)
					}
				}
			}
		}
	}
	line, _ := impl.LineMetric([]int{0, 1, 2})
	if l, ok := impl.CruelRequests(line, []int{0}, 2); !isList(l, ok, 1, 0) {
		t.Error("CruelRequests", l, ok)
	}
	if l, ok := impl.CruelRequests(line, []int{0, 0, 1}, 0); !nothing(l, ok) {
		t.Error("as many points as servers, with a point that is free", l, ok)
	}
	for _, length := range append([]int{-1, 61}, farInts...) {
		if l, ok := impl.CruelRequests(line, []int{0}, length); !nothing(l, ok) {
			t.Error("CruelRequests of another length", length, len(l), ok)
		}
	}
}

// plainPoints returns the points of the numbers of a chain list.
func plainPoints(a []int, reqs []int) []int { return append(slices.Clone(a), reqs...) }

// eachChainList calls visit with all chain lists, in lexicographic order, and their costs.
func eachChainList(m impl.Metric, a []int, reqs []int, visit func(before []int, cost int)) {
	points, before := plainPoints(a, reqs), []int{}
	var choose func(cost int)
	choose = func(cost int) {
		place := len(before)
		if place == len(reqs) {
			visit(before, cost)
			return
		}
		for number := range len(a) + place {
			if !slices.Contains(before, number) {
				before = append(before, number)
				choose(cost + m.Dist[points[number]][reqs[place]])
				before = before[:place]
			}
		}
	}
	choose(0)
}

// plainPriceBound returns the bound of a price list, with a rent for each server and then for each place.
func plainPriceBound(m impl.Metric, a []int, reqs []int, prices []int) (int, []int) {
	bound, rents := 0, []int{}
	for _, server := range a {
		rent := 0
		for place, r := range reqs {
			rent = max(rent, prices[place]-m.Dist[server][r])
		}
		rents = append(rents, rent)
	}
	for place, point := range reqs {
		rent := 0
		for i := place + 1; i < len(reqs); i++ {
			rent = max(rent, prices[i]-m.Dist[point][reqs[i]])
		}
		rents = append(rents, rent)
		bound += prices[place]
	}
	for _, rent := range rents {
		bound -= rent
	}
	return bound, rents
}

// Promise 7, by trying all chain lists and all price lists of few small prices.
func TestAllChainsAndPrices(t *testing.T) {
	tied := 0
	for _, m := range []impl.Metric{dists([]int{0}), symmetric(2, []int{1}), symmetric(2, []int{3}), symmetric(3, []int{1, 1, 1}), symmetric(3, []int{1, 2, 1}), symmetric(3, []int{3, 2, 2}), symmetric(4, []int{1, 2, 1, 1, 2, 1})} {
		n := len(m.Dist)
		for k := 1; k <= 3; k++ {
			for _, a := range plainConfigs(n, k) {
				if n == 4 && a[0] > 0 {
					continue
				}
				for _, reqs := range sequencesOver(n, 3) {
					least, first, count := math.MaxInt, []int{}, 0
					eachChainList(m, a, reqs, func(before []int, cost int) {
						if sum, ok := impl.ChainCost(m, a, reqs, before); !ok || sum != cost {
							t.Fatalf("ChainCost(%v, %v, %v, %v) = %v, %v", m, a, reqs, before, sum, ok)
						}
						if cost < least {
							least, first, count = cost, slices.Clone(before), 0
						}
						if cost == least {
							count++
						}
					})
					if count > 1 {
						tied++
					}
					checkFlow(t, m, a, reqs, least, first)
					if n < 4 || len(reqs) < 3 {
						checkAllPrices(t, m, a, reqs, least)
					}
				}
			}
		}
	}
	if tied < 500 {
		t.Error("few sequences have several chain lists", tied)
	}
}

// checkFlow checks the least cost and the first chain list with it.
func checkFlow(t *testing.T, m impl.Metric, a []int, reqs []int, least int, first []int) {
	t.Helper()
	if n, ok := impl.FlowCost(m, a, reqs); !ok || n != least {
		t.Fatalf("FlowCost(%v, %v, %v) = %v, %v and not %d", m, a, reqs, n, ok, least)
	}
	if n, ok := impl.LeastWork(m, a, reqs); !ok || n != least {
		t.Fatalf("LeastWork(%v, %v, %v) = %v, %v and not %d", m, a, reqs, n, ok, least)
	}
	l, ok := impl.ChainsOf(m, a, reqs)
	if len(reqs) > 24 {
		if !nothing(l, ok) {
			t.Fatalf("ChainsOf(%v, %v, %v) = %v, %v", m, a, reqs, l, ok)
		}
		return
	}
	if !isList(l, ok, first...) {
		t.Fatalf("ChainsOf(%v, %v, %v) = %v, %v and not %v", m, a, reqs, l, ok, first)
	}
	if n, ok := impl.ChainCost(m, a, reqs, l); !ok || n != least {
		t.Fatalf("ChainCost(%v, %v, %v, %v) = %v, %v", m, a, reqs, l, n, ok)
	}
}

// checkAllPrices checks all price lists of prices that may be in one with the bound least and no other prices than needed.
func checkAllPrices(t *testing.T, m impl.Metric, a []int, reqs []int, least int) {
	t.Helper()
	lowest, count := slices.Repeat([]int{math.MaxInt}, len(reqs)), 0
	eachChoice(len(reqs), countUp(least+2), func(prices []int) {
		bound, _ := plainPriceBound(m, a, reqs, prices)
		if bound > least {
			t.Fatalf("the prices %v for %v, %v on %v have the bound %d, and the least cost is %d", prices, a, reqs, m, bound, least)
		}
		if n, ok := impl.PriceBound(m, a, reqs, prices); !ok || n != bound {
			t.Fatalf("PriceBound(%v, %v, %v, %v) = %v, %v", m, a, reqs, prices, n, ok)
		}
		if bound == least {
			count++
			for place, price := range prices {
				lowest[place] = min(lowest[place], price)
			}
		}
	})
	if l, ok := impl.LeastPrices(m, a, reqs); !isList(l, ok, lowest...) || count == 0 {
		t.Fatalf("LeastPrices(%v, %v, %v) = %v, %v and not %v", m, a, reqs, l, ok, lowest)
	}
	if bound, _ := plainPriceBound(m, a, reqs, lowest); bound != least {
		t.Fatalf("the prices %v for %v, %v on %v have the bound %d", lowest, a, reqs, m, bound)
	}
}

// noChain is the cost of a number that a place cannot have before it.
const noChain = 1 << 40

// chainCosts returns, for each place, what the numbers before it cost.
func chainCosts(m impl.Metric, a []int, reqs []int) [][]int {
	points, costs := plainPoints(a, reqs), [][]int{}
	for place, r := range reqs {
		row := []int{}
		for number, point := range points {
			if number < len(a)+place {
				row = append(row, m.Dist[point][r])
			} else {
				row = append(row, noChain)
			}
		}
		costs = append(costs, row)
	}
	return costs
}

// leastAssignment returns the least sum of one member of each row, no two of them of one column, by raising prices along paths.
func leastAssignment(costs [][]int) int {
	if len(costs) == 0 {
		return 0
	}
	columns := len(costs[0])
	rows, cols, owner := make([]int, len(costs)+1), make([]int, columns+1), make([]int, columns+1)
	for row := 1; row <= len(costs); row++ {
		owner[0] = row
		slack, from, done, at := slices.Repeat([]int{math.MaxInt}, columns+1), make([]int, columns+1), make([]bool, columns+1), 0
		for owner[at] != 0 {
			done[at] = true
			by, next := math.MaxInt, 0
			for column := 1; column <= columns; column++ {
				if done[column] {
					continue
				}
				if rest := costs[owner[at]-1][column-1] - rows[owner[at]] - cols[column]; rest < slack[column] {
					slack[column], from[column] = rest, at
				}
				if slack[column] < by {
					by, next = slack[column], column
				}
			}
			for column := range done {
				if done[column] {
					rows[owner[column]] += by
					cols[column] -= by
				} else if slack[column] < math.MaxInt {
					slack[column] -= by
				}
			}
			at = next
		}
		for at != 0 {
			owner[at] = owner[from[at]]
			at = from[at]
		}
	}
	sum := 0
	for column := 1; column <= columns; column++ {
		if owner[column] > 0 {
			sum += costs[owner[column]-1][column-1]
		}
	}
	return sum
}

// firstAssignment returns the columns of all rows in the first assignment with the least sum, by fixing them one after the other.
func firstAssignment(costs [][]int, least int) []int {
	first := []int{}
	for row := range costs {
		kept := costs[row]
		for column, cost := range kept {
			if cost == noChain || slices.Contains(first, column) {
				continue
			}
			costs[row] = slices.Repeat([]int{noChain}, len(kept))
			costs[row][column] = cost
			if leastAssignment(costs) == least {
				first = append(first, column)
				break
			}
		}
	}
	return first
}

func TestAssignmentsOfTheTests(t *testing.T) {
	m := symmetric(4, []int{3, 2, 3, 1, 2, 3})
	for _, a := range [][]int{{0}, {1, 3}, {0, 0, 2}} {
		for seed := range 20 {
			reqs := seededSequence(4, 5, seed)
			least, first := math.MaxInt, []int{}
			eachChainList(m, a, reqs, func(before []int, cost int) {
				if cost < least {
					least, first = cost, slices.Clone(before)
				}
			})
			costs := chainCosts(m, a, reqs)
			if sum := leastAssignment(costs); sum != least {
				t.Fatalf("%d, and not %d, for %v, %v", sum, least, a, reqs)
			}
			if l := firstAssignment(costs, least); !slices.Equal(l, first) {
				t.Fatalf("%v, and not %v, for %v, %v", l, first, a, reqs)
			}
		}
	}
}

// Promise 7, against assignments: each least price is what the flow would save without the request of the place, if its place could still serve later ones.
func TestFlowsOfLongSequences(t *testing.T) {
	for i, m := range workMetrics() {
		for k := 1; k <= 3; k++ {
			p := teamsOn(m, k)
			for j, start := range p.some(i) {
				a, sequences := p.configs[start], workSequences(len(m.Dist), 7*i+k)
				for _, length := range []int{23, 24, 25, 59} {
					if (i+j+k)%4 == length%4 {
						sequences = append(sequences, sequences[6][:length])
					}
				}
				for _, reqs := range sequences {
					if len(reqs) > 30 && (i+j+k)%6 > 0 {
						continue
					}
					checkLongFlow(t, m, a, reqs)
				}
			}
		}
	}
}

// checkLongFlow checks the flow and the prices of a sequence against assignments.
func checkLongFlow(t *testing.T, m impl.Metric, a []int, reqs []int) {
	t.Helper()
	costs, first := chainCosts(m, a, reqs), []int{}
	least := leastAssignment(costs)
	prices := []int{}
	for place := range reqs {
		prices = append(prices, least-leastAssignment(slices.Delete(slices.Clone(costs), place, place+1)))
	}
	if len(reqs) <= 24 {
		first = firstAssignment(costs, least)
	}
	checkFlow(t, m, a, reqs, least, first)
	if l, ok := impl.LeastPrices(m, a, reqs); !isList(l, ok, prices...) {
		t.Fatalf("LeastPrices(%v, %v, %v) = %v, %v and not %v", m, a, reqs, l, ok, prices)
	}
	if bound, ok := impl.PriceBound(m, a, reqs, prices); !ok || bound != least {
		t.Fatalf("PriceBound(%v, %v, %v, %v) = %v, %v and not %d", m, a, reqs, prices, bound, ok, least)
	}
	// No price can be less, and other prices have no greater bound.
	for place, price := range prices {
		if price > 0 {
			less := slices.Clone(prices)
			less[place]--
			if bound, _ := plainPriceBound(m, a, reqs, less); bound >= least {
				t.Fatalf("the price %d of the place %d for %v, %v on %v could be less", price, place, a, reqs, m)
			}
		}
	}
	for seed := range 5 {
		others := []int{}
		for place, state := range statesOf(seed+len(reqs), len(reqs)) {
			others = append(others, []int{int(state), int(state) % 50, int(state) % 300, prices[place] + int(state)%3, mostWork * (int(state) % 2)}[seed])
		}
		bound, ok := impl.PriceBound(m, a, reqs, others)
		if want, _ := plainPriceBound(m, a, reqs, others); !ok || bound != want || bound > least {
			t.Fatalf("PriceBound(%v, %v, %v, %v) = %v, %v", m, a, reqs, others, bound, ok)
		}
	}
}

func TestNamedChains(t *testing.T) {
	line, _ := impl.LineMetric([]int{0, 1, 2})
	far, _ := impl.LineMetric([]int{0, 10, 20, 30, 40, 50})
	uniform, _ := impl.UniformMetric(4, 5)
	for _, c := range []struct {
		m      impl.Metric
		a      []int
		reqs   []int
		chains []int
		cost   int
	}{
		{line, []int{0}, []int{2, 1, 2}, []int{0, 1, 2}, 4},
		{line, []int{0, 2}, nil, []int{}, 0},
		{far, []int{0, 2, 4}, []int{1, 3, 5}, []int{0, 1, 2}, 30}, // each request with a server of its own
		{far, []int{0, 2, 4}, []int{5, 3, 1}, []int{2, 1, 0}, 30}, // and in another order
		{far, []int{0, 0, 0}, []int{1, 2, 3}, []int{0, 3, 4}, 30}, // one server for all
		{far, []int{0, 4, 5}, []int{0, 0, 1, 0, 0}, []int{0, 3, 4, 5, 6}, 20},
		{far, []int{0, 0}, []int{0, 0, 0}, []int{0, 1, 2}, 0}, // all that is not used costs the same
		{far, []int{0, 0, 0}, []int{0, 0, 0, 0}, []int{0, 1, 2, 3}, 0},
		{uniform, []int{0, 1}, []int{2, 3}, []int{0, 1}, 10},
		{uniform, []int{0, 1}, []int{2, 3, 1, 0}, []int{0, 2, 1, 3}, 15}, // from 0 to 2, to 3 and back to 0
		{uniform, []int{0, 1}, []int{2, 3, 0, 1}, []int{0, 2, 3, 1}, 15},
		{uniform, []int{0, 0, 1}, []int{2, 0, 1}, []int{0, 1, 2}, 5},
		{dists([]int{0}), []int{0}, []int{0, 0, 0}, []int{0, 1, 2}, 0},
		{dists([]int{0}), []int{0, 0, 0}, make([]int, 24), countUp(24), 0},
	} {
		if l, ok := impl.ChainsOf(c.m, c.a, c.reqs); !isList(l, ok, c.chains...) {
			t.Errorf("ChainsOf(%v, %v, %v) = %v, %v", c.m, c.a, c.reqs, l, ok)
		}
		if n, ok := impl.ChainCost(c.m, c.a, c.reqs, c.chains); !ok || n != c.cost {
			t.Errorf("ChainCost(%v, %v, %v, %v) = %v, %v", c.m, c.a, c.reqs, c.chains, n, ok)
		}
		if n, ok := impl.FlowCost(c.m, c.a, c.reqs); !ok || n != c.cost {
			t.Errorf("FlowCost(%v, %v, %v) = %v, %v", c.m, c.a, c.reqs, n, ok)
		}
	}
	for length, fits := range map[int]bool{23: true, 24: true, 25: false, 60: false} {
		reqs := make([]int, length)
		if l, ok := impl.ChainsOf(line, []int{1}, reqs); ok != fits || fits && !isList(l, ok, countUp(length)...) || !fits && len(l) != 0 {
			t.Error("ChainsOf", length, l, ok)
		}
		if n, ok := impl.FlowCost(line, []int{1}, reqs); !ok || n != 1 {
			t.Error("FlowCost", length, n, ok)
		}
		if n, ok := impl.ChainCost(line, []int{1}, reqs, countUp(length)); !ok || n != 1 {
			t.Error("ChainCost", length, n, ok)
		}
	}
}

func TestNamedPrices(t *testing.T) {
	far, _ := impl.LineMetric([]int{0, 3})
	for _, c := range []struct {
		a      []int
		reqs   []int
		prices []int
		bound  int
	}{
		{[]int{0}, []int{1}, []int{5}, 3}, // the example
		{[]int{0}, []int{1}, []int{3}, 3}, // a rent of 0
		{[]int{0}, []int{1}, []int{2}, 2},
		{[]int{0}, []int{1}, []int{0}, 0},
		{[]int{0}, []int{1}, []int{mostWork}, 3},
		{[]int{0, 0}, []int{1}, []int{mostWork}, 6 - mostWork},
		{[]int{0, 1}, []int{1}, []int{mostWork}, 3 - mostWork},
		{[]int{0}, nil, nil, 0},
		{[]int{0, 0, 1}, []int{}, []int{}, 0},
		{[]int{0}, []int{1, 0}, []int{6, 3}, 6 + 3 - 3 - 0},
		{[]int{0}, []int{1, 0}, []int{3, 6}, 3 + 6 - 6 - 3}, // a place has no rent of an earlier one
		{[]int{0}, []int{1, 1}, []int{3, 0}, 3},
		{[]int{0}, []int{1, 1}, []int{0, 3}, 3 - 3},
		{[]int{1}, []int{1, 1}, []int{0, 0}, 0},
	} {
		if n, ok := impl.PriceBound(far, c.a, c.reqs, c.prices); !ok || n != c.bound {
			t.Errorf("PriceBound(%v, %v, %v) = %v, %v", c.a, c.reqs, c.prices, n, ok)
		}
	}
	for _, c := range []struct {
		a      []int
		reqs   []int
		prices []int
	}{
		{[]int{0}, []int{1}, []int{3}},
		{[]int{0}, nil, []int{}},
		{[]int{1}, []int{1, 1, 1}, []int{0, 0, 0}},
		{[]int{0}, []int{1, 0}, []int{6, 3}},
		{[]int{0}, []int{1, 1}, []int{3, 0}},
		{[]int{0}, []int{1, 0, 1}, []int{9, 6, 3}},
		{[]int{0, 1}, []int{1, 0, 1}, []int{0, 0, 0}},
		{[]int{0, 0}, []int{1, 0, 1}, []int{3, 0, 0}},
	} {
		if l, ok := impl.LeastPrices(far, c.a, c.reqs); !isList(l, ok, c.prices...) {
			t.Errorf("LeastPrices(%v, %v) = %v, %v", c.a, c.reqs, l, ok)
		}
	}
	// The greatest prices of all: a server at the first request could serve all others, too.
	wide := symmetric(2, []int{99})
	reqs := slices.Repeat([]int{1, 0}, 30)
	if l, ok := impl.LeastPrices(wide, []int{0}, reqs); !ok || len(l) != 60 || l[59] != 99 || l[0] != 60*99 {
		t.Error("LeastPrices from end to end", l, ok)
	}
}

// workArgs are arguments for the functions of chapter 7.
type workArgs struct {
	m       impl.Metric
	k       int
	w       []int
	r       int
	x       []int
	a       []int
	reqs    []int
	configs [][]int
	values  []int
	length  int
	before  []int
	prices  []int
}

// goodWork are valid ones. All lists are windows with room behind them.
func goodWork() workArgs {
	return workArgs{
		m: impl.Metric{Dist: [][]int{{55}, window(0, 3, 7), window(3, 0, 4), window(7, 4, 0), {66}}[1:4]},
		k: 2, w: window(3, 0, 4, 3, 7, 11), r: 2,
		x: window(0, 1), a: window(0, 0),
		reqs:    window(2, 2, 1, 0),
		configs: [][]int{{77}, window(0, 2), window(1, 1), window(0, 2), {88}}[1:4],
		values:  window(9, 8, 7),
		length:  3,
		before:  window(1, 2, 3, 0),
		prices:  window(7, 0, 4, 0),
	}
}

// workCall is a function, and which arguments it uses: m for the Metric, k, w for the work list, r for the point, x for a configuration of k servers, a for the start, q for the requests, c for the configurations and v for their values, l for the length, b for the chain list and p for the prices.
type workCall struct {
	uses string
	call func(s workArgs) (zero bool, ok bool)
}

// emptyServe says whether a list and a number are zero values.
func emptyServe(list []int, cost int, ok bool) (bool, bool) { return len(list) == 0 && cost == 0, ok }

var workCalls = map[string]workCall{
	"IsWork":        {"mk", func(s workArgs) (bool, bool) { return zeroOf(impl.IsWork(s.m, s.k, s.w)) }},
	"StartWork":     {"ma", func(s workArgs) (bool, bool) { return emptyList(impl.StartWork(s.m, s.a)) }},
	"StepWork":      {"mkwr", func(s workArgs) (bool, bool) { return emptyList(impl.StepWork(s.m, s.k, s.w, s.r)) }},
	"WorkLists":     {"maq", func(s workArgs) (bool, bool) { return emptyList(impl.WorkLists(s.m, s.a, s.reqs)) }},
	"WorkOf":        {"mkwx", func(s workArgs) (bool, bool) { return zeroOf(impl.WorkOf(s.m, s.k, s.w, s.x)) }},
	"LeastWork":     {"maq", func(s workArgs) (bool, bool) { return zeroOf(impl.LeastWork(s.m, s.a, s.reqs)) }},
	"LeastSchedule": {"maq", func(s workArgs) (bool, bool) { return emptyList(impl.LeastSchedule(s.m, s.a, s.reqs)) }},
	"SupportOf":     {"mkw", func(s workArgs) (bool, bool) { return emptyList(impl.SupportOf(s.m, s.k, s.w)) }},
	"FromSupport":   {"mcv", func(s workArgs) (bool, bool) { return emptyList(impl.FromSupport(s.m, s.configs, s.values)) }},
	"GrowthOf":      {"mkwr", func(s workArgs) (bool, bool) { return zeroOf(impl.GrowthOf(s.m, s.k, s.w, s.r)) }},
	"FarConfig":     {"mkwr", func(s workArgs) (bool, bool) { return emptyList(impl.FarConfig(s.m, s.k, s.w, s.r)) }},
	"WorkServe":     {"mkwxr", func(s workArgs) (bool, bool) { return emptyServe(impl.WorkServe(s.m, s.k, s.w, s.x, s.r)) }},
	"WorkRun":       {"maq", func(s workArgs) (bool, bool) { return emptySchedule(impl.WorkRun(s.m, s.a, s.reqs)) }},
	"CruelRequests": {"mal", func(s workArgs) (bool, bool) { return emptyList(impl.CruelRequests(s.m, s.a, s.length)) }},
	"ChainCost":     {"maqb", func(s workArgs) (bool, bool) { return zeroOf(impl.ChainCost(s.m, s.a, s.reqs, s.before)) }},
	"FlowCost":      {"maq", func(s workArgs) (bool, bool) { return zeroOf(impl.FlowCost(s.m, s.a, s.reqs)) }},
	"ChainsOf":      {"maq", func(s workArgs) (bool, bool) { return emptyList(impl.ChainsOf(s.m, s.a, s.reqs)) }},
	"PriceBound":    {"maqp", func(s workArgs) (bool, bool) { return zeroOf(impl.PriceBound(s.m, s.a, s.reqs, s.prices)) }},
	"LeastPrices":   {"maq", func(s workArgs) (bool, bool) { return emptyList(impl.LeastPrices(s.m, s.a, s.reqs)) }},
}

// callExchange calls the function that fails for the good arguments too.
func callExchange(s workArgs) (bool, bool) {
	x, y, point, ok := impl.ExchangeBreak(s.m, s.k, s.w)
	return len(x) == 0 && len(y) == 0 && point == 0, ok
}

// refuseWork checks that all functions that use an argument fail.
func refuseWork(t *testing.T, use string, s workArgs, what any) {
	t.Helper()
	for name, c := range workCalls {
		if strings.Contains(c.uses, use) {
			if zero, ok := c.call(s); ok || !zero {
				t.Errorf("%s takes %v: %v, %v", name, what, zero, ok)
			}
		}
	}
	if strings.Contains("mkw", use) {
		if zero, ok := callExchange(s); ok || !zero {
			t.Errorf("ExchangeBreak takes %v: %v, %v", what, zero, ok)
		}
	}
}

// takeWork checks that all functions that use an argument take it.
func takeWork(t *testing.T, use string, s workArgs, what any) {
	t.Helper()
	for name, c := range workCalls {
		if strings.Contains(c.uses, use) {
			if _, ok := c.call(s); !ok {
				t.Errorf("%s refuses %v", name, what)
			}
		}
	}
}

func TestChapter7RefusesWhatIsNoMetric(t *testing.T) {
	takeWork(t, "", goodWork(), "what is valid")
	bad := append(badTables(), symmetric(3, []int{-1, 7, 4}), symmetric(3, []int{3, 8, 4}), symmetric(3, []int{1, 99, 1}), symmetric(2, []int{-1}))
	for _, m := range bad {
		one := workArgs{k: 1, w: []int{0}, x: []int{0}, a: []int{0}, configs: [][]int{{0}}, values: []int{0}}
		all := one
		all.w = make([]int, len(m.Dist))
		for _, s := range []workArgs{goodWork(), one, all} {
			s.m = m
			refuseWork(t, "m", s, m)
		}
	}
}

func TestChapter7RefusesOtherNumbersOfServers(t *testing.T) {
	for _, k := range append([]int{0, -1, 4, 5, 6, 60}, farInts...) {
		for _, w := range [][]int{nil, {0}, {0, 0, 0}, goodWork().w, make([]int, 15), make([]int, 56)} {
			for _, x := range [][]int{nil, {0}, {0, 1}, {0, 0, 0, 0}} {
				s := goodWork()
				s.k, s.w, s.x = k, w, x
				refuseWork(t, "k", s, k)
			}
		}
	}
	for _, k := range []int{1, 3} {
		s := goodWork()
		s.k = k
		refuseWork(t, "w", s, k)
		if is, ok := impl.IsWork(s.m, k, s.w); !ok || is {
			t.Error("a work list for another k", k, is, ok)
		}
	}
}

func TestChapter7RefusesWhatIsNoWorkList(t *testing.T) {
	good := goodWork().w
	bad := [][]int{nil, {}, good[:5], good[1:], append(slices.Clone(good), 11), {0}, {0, 3, 7}, make([]int, 10), make([]int, 100000)}
	for at := range good {
		for _, value := range append([]int{-1, mostWork, mostWork + 1, good[at] + 100}, farInts...) {
			w := slices.Clone(good)
			w[at] = value
			bad = append(bad, w)
		}
	}
	for _, value := range []int{-1, mostWork + 1, math.MaxInt, math.MinInt} {
		bad = append(bad, slices.Repeat([]int{value}, 6))
	}
	bad = append(bad, []int{3, 0, 4, 3, 7, 12}, []int{4, 0, 4, 3, 7, 11}, []int{3, 0, 5, 3, 7, 11})
	for _, w := range bad {
		for _, x := range [][]int{{0, 1}, {0, 2}} {
			s := goodWork()
			s.w, s.x = w, x
			refuseWork(t, "w", s, w[:min(len(w), 12)])
			if is, ok := impl.IsWork(s.m, s.k, w); !ok || is {
				t.Errorf("IsWork of %v: %v, %v", w[:min(len(w), 12)], is, ok)
			}
		}
	}
}

func TestChapter7RefusesWhatIsNoPoint(t *testing.T) {
	for _, r := range append([]int{-1, 3, 4, 6}, farInts...) {
		s := goodWork()
		s.r = r
		refuseWork(t, "r", s, r)
		for at := range s.reqs {
			s := goodWork()
			s.reqs[at] = r
			refuseWork(t, "q", s, s.reqs)
		}
		s.reqs, s.before, s.prices = []int{r}, []int{0}, []int{0}
		refuseWork(t, "q", s, s.reqs)
	}
	for _, length := range []int{61, 62, 100000} {
		s := goodWork()
		s.reqs, s.before, s.prices = make([]int, length), countUp(length), make([]int, length)
		refuseWork(t, "q", s, length)
	}
	s := goodWork()
	s.reqs, s.before, s.prices = nil, nil, nil
	takeWork(t, "q", s, "no requests")
	s.reqs, s.before, s.prices = make([]int, 24), countUp(24), make([]int, 24)
	takeWork(t, "q", s, "24 requests")
	s.reqs, s.before, s.prices = make([]int, 60), countUp(60), make([]int, 60)
	for name, c := range workCalls {
		if _, ok := c.call(s); ok != (name != "ChainsOf") {
			t.Error(name, "of 60 requests", ok)
		}
	}
}

// refuseConfig checks that a list is refused among others as a configuration of two servers.
func refuseConfig(t *testing.T, config []int) {
	t.Helper()
	s := goodWork()
	s.x = config
	refuseWork(t, "x", s, config)
	for at := range s.configs {
		s := goodWork()
		s.configs[at] = config
		refuseWork(t, "c", s, s.configs)
	}
}

func TestChapter7RefusesWhatIsNoConfig(t *testing.T) {
	bad := [][]int{nil, {}, {1, 0}, {2, 1}, {0, 2, 1}, {0, 0, 0, 0}, {0, 0, 1, 2}, {-1, 0}, {0, 3}, {3}, {-1}, {3, 3}, {-1, -1}, make([]int, 100000)}
	for _, far := range farInts {
		bad = append(bad, []int{far}, []int{0, far}, []int{far, 1}, []int{far, far})
	}
	for _, config := range bad {
		refuseConfig(t, config)
		for _, length := range []int{0, 3} {
			s := goodWork()
			s.a, s.length = config, length
			refuseWork(t, "a", s, config)
			s.reqs, s.before, s.prices = nil, nil, nil
			refuseWork(t, "a", s, config)
		}
		s := goodWork()
		s.configs, s.values = [][]int{config}, []int{0}
		refuseWork(t, "c", s, s.configs)
	}
	// Valid ones, but of another number of servers.
	for _, config := range [][]int{{0}, {2}, {0, 0, 1}, {0, 1, 2}} {
		refuseConfig(t, config)
		s := goodWork()
		s.a, s.before = config, []int{0, len(config), len(config) + 1, len(config) + 2}
		for name, c := range workCalls {
			if _, ok := c.call(s); ok != (name != "CruelRequests" || len(config) < 3) {
				t.Error(name, "with the start", config, ok)
			}
		}
	}
}

func TestChapter7RefusesOtherSupports(t *testing.T) {
	for _, c := range []struct{ configs, values int }{{0, 0}, {0, 1}, {1, 0}, {1, 2}, {2, 1}, {3, 2}, {3, 4}, {56, 55}, {56, 57}, {57, 57}, {57, 56}, {100000, 100000}, {1, 100000}} {
		s := goodWork()
		s.configs, s.values = slices.Repeat([][]int{{0, 1}}, c.configs), make([]int, c.values)
		refuseWork(t, "c", s, c)
	}
	for _, count := range []int{1, 2, 55, 56} {
		s := goodWork()
		s.configs, s.values = slices.Repeat([][]int{{0, 1}}, count), make([]int, count)
		takeWork(t, "c", s, count)
	}
	for _, value := range []int{-1, mostWork + 1, math.MaxInt, math.MinInt, math.MaxInt - 50, -99, 1 << 32} {
		for at := range 3 {
			s := goodWork()
			s.values[at] = value
			refuseWork(t, "v", s, s.values)
		}
		s := goodWork()
		s.values = []int{value, value, value}
		refuseWork(t, "v", s, s.values)
	}
	s := goodWork()
	s.values = []int{mostWork, 0, mostWork}
	takeWork(t, "v", s, s.values)
}

func TestChapter7RefusesOtherChainsAndPrices(t *testing.T) {
	for _, before := range [][]int{
		nil, {1}, {1, 2, 3}, {1, 2, 3, 0, 4}, {1, 2, 3, 0, 5, 6}, make([]int, 100000),
		{1, 1, 3, 0}, {1, 2, 2, 0}, {1, 2, 3, 1}, {0, 0, 0, 0}, {0, 1, 2, 2}, // a number twice
		{2, 0, 1, 3}, {0, 3, 1, 2}, {0, 1, 4, 2}, {0, 1, 2, 5}, // the place itself
		{3, 0, 1, 2}, {5, 0, 1, 2}, {0, 4, 1, 2}, {0, 1, 5, 2}, {0, 1, 2, 6}, // a later place, or none
		{-1, 2, 3, 0}, {1, -1, 3, 0}, {1, 2, 3, -1}, {-1, -2, -3, -4},
	} {
		s := goodWork()
		s.before = before
		refuseWork(t, "b", s, before[:min(len(before), 8)])
	}
	for _, far := range farInts {
		for at := range 4 {
			s := goodWork()
			s.before[at] = far
			refuseWork(t, "b", s, s.before)
			if far == -2 || far > mostWork || far < 0 {
				s.prices[at] = far
				refuseWork(t, "p", s, s.prices)
			}
		}
	}
	for _, before := range [][]int{{0, 1, 2, 3}, {1, 0, 3, 2}, {0, 2, 3, 4}, {1, 2, 3, 4}, {0, 2, 1, 4}} {
		s := goodWork()
		s.before = before
		takeWork(t, "b", s, before)
	}
	for _, prices := range [][]int{
		nil, {7}, {7, 0, 4}, {7, 0, 4, 0, 0}, make([]int, 100000),
		{-1, 0, 0, 0}, {0, 0, 0, -1}, {mostWork + 1, 0, 0, 0}, {0, 0, mostWork + 1, 0}, {0, 0, 0, math.MinInt}, {math.MaxInt, math.MaxInt, 0, 0},
	} {
		s := goodWork()
		s.prices = prices
		refuseWork(t, "p", s, prices[:min(len(prices), 8)])
	}
	s := goodWork()
	s.prices = []int{mostWork, 0, mostWork, mostWork}
	takeWork(t, "p", s, s.prices)
	s.reqs, s.before, s.prices = nil, []int{0}, []int{0}
	refuseWork(t, "b", s, s.before)
	refuseWork(t, "p", s, s.prices)
}

// sameWork says whether arguments are those of goodWork, with what is around them.
func sameWork(s workArgs) bool {
	all := func(s workArgs) [][]int {
		lists := [][]int{around(s.w), around(s.x), around(s.a), around(s.reqs), around(s.values), around(s.before), around(s.prices), {s.k, s.r, s.length, len(s.m.Dist), len(s.configs)}}
		for _, list := range slices.Concat(s.m.Dist, s.configs) {
			lists = append(lists, around(list))
		}
		return append(lists, s.m.Dist[:4][3], s.configs[:4][3])
	}
	return sameLists(all(s), all(goodWork()))
}

// Promise 13: arguments stay as they are, with the room behind them.
func TestChapter7ModifiesNoArgument(t *testing.T) {
	s := goodWork()
	for name, c := range workCalls {
		if _, ok := c.call(s); !ok {
			t.Errorf("%s fails", name)
		}
		if !sameWork(s) {
			t.Fatalf("%s modifies %v", name, s)
		}
	}
	if _, ok := callExchange(s); ok || !sameWork(s) {
		t.Fatal("ExchangeBreak", ok, s)
	}
	for r := range 3 {
		impl.WorkServe(s.m, s.k, s.w, s.x, r)
		impl.FarConfig(s.m, s.k, s.w, r)
	}
	impl.WorkServe(s.m, s.k, s.w, s.a, s.r)
	impl.FromSupport(s.m, s.configs, s.prices[:3])
	impl.ChainCost(s.m, s.x, s.reqs, s.before)
	if !sameWork(s) {
		t.Fatal("an argument is modified", s)
	}
}

// workListCalls are the functions of chapter 7 that return a list.
var workListCalls = map[string]func(s workArgs) ([]int, bool){
	"StartWork":   func(s workArgs) ([]int, bool) { return impl.StartWork(s.m, s.a) },
	"StepWork":    func(s workArgs) ([]int, bool) { return impl.StepWork(s.m, s.k, s.w, s.r) },
	"FromSupport": func(s workArgs) ([]int, bool) { return impl.FromSupport(s.m, s.configs, s.values) },
	"FarConfig":   func(s workArgs) ([]int, bool) { return impl.FarConfig(s.m, s.k, s.w, s.r) },
	"WorkServe": func(s workArgs) ([]int, bool) {
		l, _, ok := impl.WorkServe(s.m, s.k, s.w, s.x, s.r)
		return l, ok
	},
	"WorkServe, nobody moves": func(s workArgs) ([]int, bool) {
		l, _, ok := impl.WorkServe(s.m, s.k, s.w, s.x, 1)
		return l, ok
	},
	"CruelRequests": func(s workArgs) ([]int, bool) { return impl.CruelRequests(s.m, s.a, s.length) },
	"ChainsOf":      func(s workArgs) ([]int, bool) { return impl.ChainsOf(s.m, s.a, s.reqs) },
	"LeastPrices":   func(s workArgs) ([]int, bool) { return impl.LeastPrices(s.m, s.a, s.reqs) },
}

// workListsCalls are those that return lists of lists.
var workListsCalls = map[string]func(s workArgs) ([][]int, bool){
	"WorkLists":     func(s workArgs) ([][]int, bool) { return impl.WorkLists(s.m, s.a, s.reqs) },
	"LeastSchedule": func(s workArgs) ([][]int, bool) { return impl.LeastSchedule(s.m, s.a, s.reqs) },
	"SupportOf":     func(s workArgs) ([][]int, bool) { return impl.SupportOf(s.m, s.k, make([]int, 6)) },
	"WorkRun": func(s workArgs) ([][]int, bool) {
		configs, _, ok := impl.WorkRun(s.m, s.a, s.reqs)
		return configs, ok
	},
	"WorkRun, nobody moves": func(s workArgs) ([][]int, bool) {
		configs, _, ok := impl.WorkRun(s.m, s.a, make([]int, 4))
		return configs, ok
	},
	"WorkLists, nothing grows": func(s workArgs) ([][]int, bool) {
		return impl.WorkLists(s.m, s.a, make([]int, 3))
	},
	"ExchangeBreak": func(s workArgs) ([][]int, bool) {
		x, y, _, ok := impl.ExchangeBreak(symmetric(2, []int{1}), 2, []int{0, 1, 0})
		return [][]int{x, y}, ok
	},
}

// Promise 13: results have memory of their own, each list of them too.
func TestChapter7ResultsShareNoMemory(t *testing.T) {
	s := goodWork()
	same := func() bool { return sameWork(s) }
	for name, f := range workListCalls {
		checkFresh(t, name, func() ([]int, bool) { return f(s) }, same)
	}
	for name, f := range workListsCalls {
		checkFreshLists(t, name, func() ([][]int, bool) { return f(s) }, same)
	}
}
