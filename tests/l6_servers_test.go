package tests

import (
	"math"
	"regexp"
	"slices"
	"strconv"
	"strings"
	"testing"

	"loop.example/g01087/impl"
)

// dists returns the lists of distances as a Metric.
func dists(lists ...[]int) impl.Metric { return impl.Metric{Dist: lists} }

// sameLists says whether two lists of lists are the same.
func sameLists(a [][]int, b [][]int) bool { return slices.EqualFunc(a, b, slices.Equal) }

// isLists says whether a call returned the lists want, and true.
func isLists(lists [][]int, ok bool, want ...[]int) bool { return ok && sameLists(lists, want) }

// isDists says whether a call returned the Metric want, and true.
func isDists(m impl.Metric, ok bool, want impl.Metric) bool {
	return ok && sameLists(m.Dist, want.Dist)
}

// zeroMetric says whether a Metric that was returned is the zero value.
func zeroMetric(m impl.Metric, ok bool) (bool, bool) { return len(m.Dist) == 0, ok }

// noMetric says whether a call failed as it must.
func noMetric(m impl.Metric, ok bool) bool { return !ok && len(m.Dist) == 0 }

// copyOf returns a Metric with memory of its own.
func copyOf(m impl.Metric) impl.Metric {
	lists := [][]int{}
	for _, list := range m.Dist {
		lists = append(lists, slices.Clone(list))
	}
	return impl.Metric{Dist: lists}
}

// symmetric returns the table of n points with these distances of all two, in order.
func symmetric(n int, distances []int) impl.Metric {
	m := impl.Metric{}
	for range n {
		m.Dist = append(m.Dist, make([]int, n))
	}
	next := 0
	for x := range n {
		for y := x + 1; y < n; y++ {
			m.Dist[x][y], m.Dist[y][x] = distances[next], distances[next]
			next++
		}
	}
	return m
}

// eachChoice calls visit with all lists of a length with members of from.
func eachChoice(length int, from []int, visit func(list []int)) {
	list := make([]int, length)
	var choose func(at int)
	choose = func(at int) {
		if at == length {
			visit(list)
			return
		}
		for _, number := range from {
			list[at] = number
			choose(at + 1)
		}
	}
	choose(0)
}

// seededTable returns a table of n points with mixed distances in least..most, and with -1 in about one of gaps places, or none for 0.
func seededTable(n int, least int, most int, gaps int, seed int) impl.Metric {
	distances, states := []int{}, statesOf(seed, n*n)
	for i := range n * (n - 1) / 2 {
		d := least + int(states[i]/16)%(most-least+1)
		if gaps > 0 && int(states[n*n-1-i]/16)%gaps == 0 {
			d = -1
		}
		distances = append(distances, d)
	}
	return symmetric(n, distances)
}

// plainTable says whether m is a table.
func plainTable(m impl.Metric) bool {
	n := len(m.Dist)
	if n == 0 || n > 6 {
		return false
	}
	for _, list := range m.Dist {
		if len(list) != n {
			return false
		}
	}
	for i := range n * n {
		x, y := i/n, i%n
		switch d := m.Dist[x][y]; {
		case d != m.Dist[y][x], x == y && d != 0, x != y && d != -1 && (d < 1 || d > 99):
			return false
		}
	}
	return true
}

// hasGap says whether a table has a -1.
func hasGap(m impl.Metric) bool { return slices.Contains(slices.Concat(m.Dist...), -1) }

// plainDetour returns the first detour of a table without -1, or nil.
func plainDetour(m impl.Metric) []int {
	n := len(m.Dist)
	for i := range n * n * n {
		x, y, z := i/n/n, i/n%n, i%n
		if m.Dist[x][y]+m.Dist[y][z] < m.Dist[x][z] {
			return []int{x, y, z}
		}
	}
	return nil
}

// plainMetric says whether m is a Metric.
func plainMetric(m impl.Metric) bool { return plainTable(m) && !hasGap(m) && plainDetour(m) == nil }

// plainWay returns the first way with the least sum of all ways from x to y, and this sum; nil if there is none.
func plainWay(m impl.Metric, x int, y int) ([]int, int) {
	var best []int
	least := never
	var walk func(way []int, sum int)
	walk = func(way []int, sum int) {
		at := way[len(way)-1]
		if at == y {
			if sum < least || sum == least && slices.Compare(way, best) < 0 {
				best, least = slices.Clone(way), sum
			}
			return
		}
		for next, d := range m.Dist[at] {
			if d > 0 && !slices.Contains(way, next) {
				walk(append(slices.Clone(way), next), sum+d)
			}
		}
	}
	walk([]int{x}, 0)
	return best, least
}

// plainClosed returns the table of the least sums, and whether it is one of a Metric.
func plainClosed(m impl.Metric) (impl.Metric, bool) {
	closed, fits := copyOf(m), true
	for x := range m.Dist {
		for y := range m.Dist {
			_, closed.Dist[x][y] = plainWay(m, x, y)
			fits = fits && closed.Dist[x][y] <= 99
		}
	}
	return closed, fits
}

// checkTable checks the functions with tables, and returns whether m is a Metric.
func checkTable(t *testing.T, m impl.Metric) bool {
	t.Helper()
	isMetric := plainMetric(m)
	if impl.IsMetric(m) != isMetric {
		t.Fatalf("IsMetric(%v) = %v", m, !isMetric)
	}
	isTable := plainTable(m)
	detour, detours := impl.FirstDetour(m)
	closed, closes := impl.ClosedMetric(m)
	if !isTable {
		if detours || closes || len(detour) != 0 || len(closed.Dist) != 0 {
			t.Fatalf("%v, %v for %v, which is no table", detour, closed, m)
		}
		if way, ok := impl.ShortestWay(m, 0, 0); !nothing(way, ok) {
			t.Fatalf("ShortestWay(%v, 0, 0) = %v, %v", m, way, ok)
		}
		return false
	}
	if hasGap(m) || isMetric {
		if !nothing(detour, detours) {
			t.Fatalf("FirstDetour(%v) = %v, %v", m, detour, detours)
		}
	} else if !isList(detour, detours, plainDetour(m)...) {
		t.Fatalf("FirstDetour(%v) = %v, %v", m, detour, detours)
	}
	want, fits := plainClosed(m)
	if fits != closes || fits && !isDists(closed, closes, want) || !fits && !noMetric(closed, closes) || fits && !plainMetric(closed) {
		t.Fatalf("ClosedMetric(%v) = %v, %v", m, closed, closes)
	}
	for x := range m.Dist {
		for y := range m.Dist {
			list, ok := impl.ShortestWay(m, x, y)
			if way, _ := plainWay(m, x, y); way != nil && !isList(list, ok, way...) || way == nil && !nothing(list, ok) {
				t.Fatalf("ShortestWay(%v, %d, %d) = %v, %v", m, x, y, list, ok)
			}
		}
	}
	return isMetric
}

func TestChapter6Constants(t *testing.T) {
	if impl.MaxPoints != 6 || impl.MaxDistance != 99 || impl.MaxServers != 3 || impl.MaxPlace != 99 {
		t.Error(impl.MaxPoints, impl.MaxDistance, impl.MaxServers, impl.MaxPlace)
	}
}

func TestAllTablesOfFewPoints(t *testing.T) {
	metrics := 0
	count := func(m impl.Metric) {
		if checkTable(t, copyOf(m)) {
			metrics++
		}
	}
	for n := range 3 {
		eachChoice(n*n, []int{-2, -1, 0, 1, 98, 99, 100}, func(list []int) {
			m := impl.Metric{}
			for x := range n {
				m.Dist = append(m.Dist, list[x*n:x*n+n])
			}
			count(m)
		})
	}
	if metrics != 1+3 {
		t.Error("Metrics of one and of two points", metrics)
	}
	eachChoice(3, []int{-2, -1, 0, 1, 2, 3, 49, 50, 98, 99, 100}, func(list []int) { count(symmetric(3, list)) })
	eachChoice(6, []int{-1, 1, 2, 3}, func(list []int) { count(symmetric(4, list)) })
}

func TestTablesOfManyPoints(t *testing.T) {
	metrics := 0
	for n := 4; n <= 6; n++ {
		for seed := range 40 {
			for _, c := range [][3]int{{1, 5, 3}, {1, 99, 2}, {20, 60, 2}, {1, 3, 0}, {5, 12, 0}, {1, 99, 0}, {98, 99, 0}, {1, 1, 2}, {49, 98, 0}} {
				if checkTable(t, seededTable(n, c[0], c[1], c[2], 50*n+seed)) {
					metrics++
				}
			}
		}
	}
	if metrics < 240 {
		t.Error("few Metrics", metrics)
	}
}

func TestNamedTables(t *testing.T) {
	path := func(lengths ...int) impl.Metric {
		n := len(lengths) + 1
		m := symmetric(n, slices.Repeat([]int{-1}, n*n))
		for x, d := range lengths {
			m.Dist[x][x+1], m.Dist[x+1][x] = d, d
		}
		return m
	}
	for _, c := range []struct {
		m    impl.Metric
		fits bool
		far  int
	}{
		{path(49, 50), true, 99},
		{path(50, 50), false, 0},
		{path(20, 20, 20, 20, 19), true, 99},
		{path(20, 20, 20, 20, 20), false, 0},
		{path(98, 1), true, 99},
		{path(99, 1), false, 0},
		{path(99), true, 99},
		{path(99, 99, 99, 99, 99), false, 0},
	} {
		n := len(c.m.Dist)
		closed, ok := impl.ClosedMetric(c.m)
		if ok != c.fits || ok && closed.Dist[0][n-1] != c.far {
			t.Errorf("ClosedMetric(%v) = %v, %v", c.m, closed, ok)
		}
		if way, ok := impl.ShortestWay(c.m, n-1, 0); !ok || len(way) != n || way[0] != n-1 {
			t.Errorf("ShortestWay(%v) = %v, %v", c.m, way, ok)
		}
		checkTable(t, c.m)
	}
	// From 0 to 3 there are three ways with the sum 6, and others that are longer.
	several := symmetric(4, []int{3, 2, 6, 5, 3, 4})
	for _, c := range []struct {
		x, y int
		way  []int
	}{
		{0, 3, []int{0, 1, 3}}, {3, 0, []int{3, 0}}, {2, 0, []int{2, 0}}, {1, 2, []int{1, 0, 2}}, {2, 1, []int{2, 0, 1}}, {0, 0, []int{0}}, {3, 3, []int{3}},
	} {
		if way, ok := impl.ShortestWay(several, c.x, c.y); !isList(way, ok, c.way...) {
			t.Errorf("ShortestWay(%v, %d, %d) = %v, %v", several, c.x, c.y, way, ok)
		}
	}
	for _, c := range []struct {
		m      impl.Metric
		detour []int
	}{
		{symmetric(3, []int{1, 5, 1}), []int{0, 1, 2}},
		{symmetric(3, []int{5, 1, 1}), []int{0, 2, 1}},
		{symmetric(3, []int{1, 1, 5}), []int{1, 0, 2}},
		{symmetric(4, []int{2, 2, 2, 2, 2, 5}), []int{2, 0, 3}},
		{symmetric(4, []int{9, 1, 1, 9, 9, 9}), []int{2, 0, 3}},
		{symmetric(3, []int{49, 99, 49}), []int{0, 1, 2}},
	} {
		if detour, ok := impl.FirstDetour(c.m); !isList(detour, ok, c.detour...) {
			t.Errorf("FirstDetour(%v) = %v, %v", c.m, detour, ok)
		}
	}
	for _, m := range []impl.Metric{dists([]int{0}), symmetric(2, []int{99}), symmetric(3, []int{50, 99, 49}), symmetric(6, slices.Repeat([]int{99}, 15))} {
		if !checkTable(t, m) {
			t.Errorf("%v is no Metric", m)
		}
	}
}

// checkBuilt checks what a function that builds Metrics returns against the distances that want tells.
func checkBuilt(t *testing.T, what string, m impl.Metric, ok bool, n int, want func(x int, y int) int) {
	t.Helper()
	if !ok || len(m.Dist) != n {
		t.Fatalf("%s: %v, %v", what, m, ok)
	}
	for x := range n {
		for y := range n {
			if d := m.Dist[x]; len(d) != n || x == y && d[y] != 0 || x != y && d[y] != want(x, y) {
				t.Fatalf("%s: %v", what, m)
			}
		}
	}
	if !impl.IsMetric(m) || !plainMetric(m) {
		t.Fatalf("%s: %v is no Metric", what, m)
	}
}

// mustBeLike checks that a Metric is like a line and like a tree.
func mustBeLike(t *testing.T, m impl.Metric, line bool, tree bool) {
	t.Helper()
	if is, ok := impl.IsLineLike(m); !ok || is != line {
		t.Fatalf("IsLineLike(%v) = %v, %v", m, is, ok)
	}
	if is, ok := impl.IsTreeLike(m); !ok || is != tree {
		t.Fatalf("IsTreeLike(%v) = %v, %v", m, is, ok)
	}
}

func TestLineMetric(t *testing.T) {
	lists := [][]int{{0}, {99}, {0, 99}, {99, 0}, {5, 6}, {98, 99, 0, 1, 50, 49}, {5, 4, 3, 2, 1, 0}, {10, 11, 12, 13, 14, 15}}
	for _, order := range orders(4) {
		lists = append(lists, []int{7 * order[0], 7 * order[1], 7 * order[2], 33 * order[3]}, order)
	}
	for _, places := range lists {
		m, ok := impl.LineMetric(places)
		if len(slices.Compact(slices.Sorted(slices.Values(places)))) < len(places) {
			if !noMetric(m, ok) {
				t.Errorf("LineMetric(%v) = %v, %v", places, m, ok)
			}
			continue
		}
		checkBuilt(t, "LineMetric", m, ok, len(places), func(x, y int) int {
			if places[x] < places[y] {
				return places[y] - places[x]
			}
			return places[x] - places[y]
		})
		mustBeLike(t, m, true, true)
	}
	if m, ok := impl.LineMetric([]int{0, 3, 7}); !isDists(m, ok, dists([]int{0, 3, 7}, []int{3, 0, 4}, []int{7, 4, 0})) {
		t.Error("LineMetric", m, ok)
	}
	bad := [][]int{nil, {3, 3}, {0, 5, 0}, {1, 2, 3, 4, 5, 1}, {0, 1, 2, 3, 4, 5, 6}, {0, 1, 2, 3, 4, 5, 0}, make([]int, 100000), countUp(60), {-1}, {100}, {-1, 0}, {0, 100}, {1, 100}, {-1, 98}}
	for _, far := range farInts {
		if far != 61 && far != 62 {
			bad = append(bad, []int{far}, []int{0, far}, []int{far, 99}, []int{far, far - 1})
		}
	}
	for _, places := range bad {
		if m, ok := impl.LineMetric(places); !noMetric(m, ok) {
			t.Errorf("LineMetric(%v) = %v, %v", places[:min(len(places), 8)], m, ok)
		}
	}
}

func TestStarMetric(t *testing.T) {
	for n := 1; n <= 4; n++ {
		eachChoice(n, []int{1, 2, 30, 48, 49}, func(arms []int) {
			m, ok := impl.StarMetric(slices.Clone(arms))
			checkBuilt(t, "StarMetric", m, ok, n, func(x, y int) int { return arms[x] + arms[y] })
			mustBeLike(t, m, n <= 2, true)
		})
	}
	m, ok := impl.StarMetric([]int{1, 49, 49, 1, 20, 21})
	checkBuilt(t, "StarMetric", m, ok, 6, func(x, y int) int { return []int{1, 49, 49, 1, 20, 21}[x] + []int{1, 49, 49, 1, 20, 21}[y] })
	bad := [][]int{nil, {0}, {50}, {-1}, {0, 1}, {1, 50}, {50, 1}, {1, 1, 1, 0}, {49, 49, 49, 49, 49, 50}, slices.Repeat([]int{1}, 7), slices.Repeat([]int{1}, 100000)}
	for _, far := range farInts {
		bad = append(bad, []int{far}, []int{1, far}, []int{far, 1}, []int{far, -far})
	}
	for _, arms := range bad {
		if m, ok := impl.StarMetric(arms); !noMetric(m, ok) {
			t.Errorf("StarMetric(%v) = %v, %v", arms[:min(len(arms), 8)], m, ok)
		}
	}
}

func TestUniformMetric(t *testing.T) {
	for n := 1; n <= 6; n++ {
		for d := 1; d <= 99; d++ {
			m, ok := impl.UniformMetric(n, d)
			checkBuilt(t, "UniformMetric", m, ok, n, func(x, y int) int { return d })
			mustBeLike(t, m, n <= 2, true)
		}
		for _, d := range append([]int{0, -1, 100, 101}, slices.DeleteFunc(slices.Clone(farInts), func(d int) bool { return d == 61 || d == 62 })...) {
			if m, ok := impl.UniformMetric(n, d); !noMetric(m, ok) {
				t.Errorf("UniformMetric(%d, %d) = %v, %v", n, d, m, ok)
			}
		}
	}
	for _, n := range append([]int{0, -1, 7, 8, 99}, farInts...) {
		for _, d := range []int{0, 1, 99} {
			if m, ok := impl.UniformMetric(n, d); !noMetric(m, ok) {
				t.Errorf("UniformMetric(%d, %d) = %v, %v", n, d, m, ok)
			}
		}
	}
}

// plainClimb returns the sum of the lengths from x to y in a tree, where the greater one climbs.
func plainClimb(parents []int, lengths []int, x int, y int) int {
	sum := 0
	for x != y {
		if x < y {
			x, y = y, x
		}
		sum, x = sum+lengths[x-1], parents[x-1]
	}
	return sum
}

// checkTree checks TreeMetric with valid lists, and returns whether there is a Metric.
func checkTree(t *testing.T, parents []int, lengths []int) bool {
	t.Helper()
	n, longest := len(parents)+1, 0
	for x := range n {
		for y := range n {
			longest = max(longest, plainClimb(parents, lengths, x, y))
		}
	}
	m, ok := impl.TreeMetric(parents, lengths)
	if longest > 99 {
		if !noMetric(m, ok) {
			t.Fatalf("TreeMetric(%v, %v) = %v, %v", parents, lengths, m, ok)
		}
		return false
	}
	checkBuilt(t, "TreeMetric", m, ok, n, func(x, y int) int { return plainClimb(parents, lengths, x, y) })
	if like, ok := impl.IsTreeLike(m); !ok || !like {
		t.Fatalf("IsTreeLike(%v) = %v, %v", m, like, ok)
	}
	// The edges of a tree are those that span it.
	sum := 0
	for _, length := range lengths {
		sum += length
	}
	tree, length, ok := impl.SpanningTree(m)
	if !ok || length != sum {
		t.Fatalf("SpanningTree(%v) = %v, %v, %v", m, tree, length, ok)
	}
	for _, edge := range tree {
		if parents[edge[1]-1] != edge[0] {
			t.Fatalf("SpanningTree(%v) = %v", m, tree)
		}
	}
	return true
}

func TestTreeMetric(t *testing.T) {
	for seed := range 60 {
		for n := 1; n <= 6; n++ {
			states := statesOf(10*n+seed, 2*n)
			lengths := []int{}
			for i := 1; i < n; i++ {
				lengths = append(lengths, 1+int(states[n+i]/16)%20)
			}
			parents := [][]int{make([]int, n-1), {}, {}}
			for x := 1; x < n; x++ {
				parents[1] = append(parents[1], x-1)
				parents[2] = append(parents[2], int(states[x]/16)%x)
			}
			for _, list := range parents {
				checkTree(t, list, lengths)
			}
		}
	}
	for _, c := range []struct {
		parents, lengths []int
		fits             bool
	}{
		{nil, []int{}, true},
		{[]int{0}, []int{99}, true},
		{[]int{0, 0}, []int{98, 1}, true},
		{[]int{0, 0}, []int{98, 2}, false},
		{[]int{0, 1}, []int{98, 1}, true},
		{[]int{0, 1}, []int{1, 99}, false},
		{[]int{0, 1, 2, 3, 4}, []int{20, 20, 19, 20, 20}, true},
		{[]int{0, 1, 2, 3, 4}, []int{20, 20, 20, 20, 20}, false},
		{[]int{0, 0, 0, 0, 0}, []int{49, 50, 49, 1, 2}, true},
		{[]int{0, 0, 0, 0, 0}, []int{50, 49, 50, 1, 2}, false},
		{[]int{0, 0, 1, 2, 2}, []int{20, 20, 29, 28, 30}, true},
		{[]int{0, 0, 1, 2, 2}, []int{20, 20, 30, 28, 30}, false},
		{[]int{0, 0, 0, 0, 0}, []int{99, 99, 99, 99, 99}, false},
	} {
		if checkTree(t, c.parents, c.lengths) != c.fits {
			t.Errorf("TreeMetric(%v, %v)", c.parents, c.lengths)
		}
	}
	if m, ok := impl.TreeMetric([]int{0, 0}, []int{2, 3}); !isDists(m, ok, dists([]int{0, 2, 3}, []int{2, 0, 5}, []int{3, 5, 0})) {
		t.Error("TreeMetric", m, ok)
	}
}

func TestTreeMetricFails(t *testing.T) {
	refuse := func(parents []int, lengths []int) {
		t.Helper()
		if m, ok := impl.TreeMetric(parents, lengths); !noMetric(m, ok) {
			t.Errorf("TreeMetric(%v, %v) = %v, %v", parents[:min(len(parents), 7)], lengths[:min(len(lengths), 7)], m, ok)
		}
	}
	refuse([]int{0}, nil)
	refuse(nil, []int{1})
	refuse([]int{0, 0}, []int{1})
	refuse([]int{0}, []int{1, 1})
	refuse(make([]int, 6), slices.Repeat([]int{1}, 6))
	refuse(make([]int, 5), slices.Repeat([]int{1}, 6))
	refuse(make([]int, 6), slices.Repeat([]int{1}, 5))
	refuse(make([]int, 100000), slices.Repeat([]int{1}, 100000))
	for at := range 4 {
		for _, parent := range append([]int{-1, at + 1, at + 2, 5, 6}, farInts...) {
			parents := []int{0, 1, 0, 2}
			parents[at] = parent
			refuse(parents, []int{1, 2, 3, 4})
		}
		for _, length := range append([]int{0, -1, 100, 101, 99}, slices.DeleteFunc(slices.Clone(farInts), func(d int) bool { return d == 61 || d == 62 })...) {
			lengths := []int{1, 1, 1, 1}
			lengths[at] = length
			refuse([]int{0, 1, 0, 2}, lengths)
		}
	}
	refuse([]int{1}, []int{1})
	refuse([]int{0, 0}, []int{math.MaxInt, 1})
	refuse([]int{0, 0}, []int{math.MaxInt, math.MaxInt})
	refuse([]int{0, 1}, []int{math.MinInt, math.MaxInt})
}

// onManyMetrics calls check with Metrics of 1..6 points: all with few small distances, lines, stars, trees and mixed ones.
func onManyMetrics(check func(m impl.Metric)) {
	for i, from := range [][]int{{}, {1, 2, 99}, {1, 2, 3, 4}, {1, 2}} {
		n := i + 1
		eachChoice(n*(n-1)/2, from, func(list []int) {
			if m := symmetric(n, list); plainMetric(m) {
				check(m)
			}
		})
	}
	for n := 3; n <= 6; n++ {
		for seed := range 12 {
			for _, c := range [][2]int{{1, 2}, {3, 6}, {20, 40}, {50, 99}} {
				check(seededTable(n, c[0], c[1], 0, 50*n+seed))
			}
			for _, c := range [][3]int{{1, 4, 3}, {1, 20, 2}, {1, 9, 0}} {
				if closed, fits := plainClosed(seededTable(n, c[0], c[1], c[2], 50*n+seed)); fits {
					check(closed)
				}
			}
			states := statesOf(7*n+seed, 3*n)
			places, arms, parents, lengths := []int{}, []int{}, []int{}, []int{}
			for x := range n {
				places = append(places, int(states[x]/16)%100)
				arms = append(arms, 1+int(states[n+x]/16)%49)
				if x > 0 {
					parents = append(parents, int(states[x]/16)%x)
					lengths = append(lengths, 1+int(states[2*n+x]/16)%20)
				}
			}
			line, lines := impl.LineMetric(places)
			star, stars := impl.StarMetric(arms)
			tree, trees := impl.TreeMetric(parents, lengths)
			for i, m := range []impl.Metric{line, star, tree} {
				if []bool{lines, stars, trees}[i] {
					check(m)
				}
			}
		}
	}
}

// plainTreeLike says whether no sum of four points is greater than both others.
func plainTreeLike(m impl.Metric) bool {
	like, d := true, m.Dist
	eachChoice(4, countUp(len(d)), func(p []int) {
		if sum := d[p[0]][p[1]] + d[p[2]][p[3]]; sum > d[p[0]][p[2]]+d[p[1]][p[3]] && sum > d[p[0]][p[3]]+d[p[1]][p[2]] {
			like = false
		}
	})
	return like
}

// plainLineLike says whether the points may be laid on one of both sides of the point 0.
func plainLineLike(m impl.Metric) bool {
	like := false
	eachChoice(len(m.Dist), []int{-1, 1}, func(sides []int) {
		fits := true
		for x, list := range m.Dist {
			for y, d := range list {
				apart := sides[x]*m.Dist[0][x] - sides[y]*m.Dist[0][y]
				fits = fits && (apart == d || apart == -d)
			}
		}
		like = like || fits
	})
	return like
}

func TestLikeLinesAndLikeTrees(t *testing.T) {
	seen := map[[2]bool]int{}
	onManyMetrics(func(m impl.Metric) {
		line, tree := plainLineLike(m), plainTreeLike(m)
		mustBeLike(t, m, line, tree)
		seen[[2]bool{line, tree}]++
	})
	if len(seen) != 3 || seen[[2]bool{true, false}] != 0 {
		t.Error("the Metrics are of few kinds", seen)
	}
	for _, c := range []struct {
		m          impl.Metric
		line, tree bool
	}{
		{dists([]int{0}), true, true},
		{symmetric(2, []int{99}), true, true},
		{symmetric(3, []int{1, 2, 2}), false, true},                          // with a center, a star
		{symmetric(3, []int{50, 99, 49}), true, true},                        // the longest line
		{symmetric(3, []int{50, 98, 49}), false, true},                       // nearly a line
		{symmetric(4, []int{33, 66, 99, 33, 66, 33}), true, true},            // a line in order
		{symmetric(4, []int{66, 33, 33, 33, 99, 66}), true, true},            // a line in another order
		{symmetric(4, []int{1, 2, 1, 1, 2, 1}), false, false},                // a cycle
		{symmetric(4, []int{50, 50, 99, 99, 50, 50}), false, false},          // nearly a cycle
		{symmetric(4, []int{99, 99, 99, 99, 99, 98}), false, true},           // two are nearer
		{symmetric(4, []int{98, 99, 99, 99, 99, 99}), false, true},           // two others are
		{symmetric(4, []int{98, 99, 99, 99, 99, 98}), false, true},           // two pairs are
		{symmetric(4, []int{98, 98, 99, 99, 98, 98}), false, false},          // two pairs, in two ways
		{symmetric(5, []int{1, 2, 3, 4, 1, 2, 3, 1, 2, 2}), false, true},     // a line, but for a branch
		{symmetric(5, []int{1, 2, 2, 1, 1, 2, 2, 1, 2, 1}), false, false},    // a cycle of five points
		{symmetric(5, []int{2, 2, 2, 1, 2, 2, 1, 2, 1, 1}), false, true},     // a star with its center
		{symmetric(5, []int{2, 2, 2, 1, 2, 2, 1, 2, 1, 2}), false, false},    // nearly a star
		{symmetric(6, slices.Repeat([]int{99}, 15)), false, true},            // equal distances
		{symmetric(6, append(slices.Repeat([]int{2}, 14), 3)), false, false}, // but one
	} {
		mustBeLike(t, c.m, c.line, c.tree)
	}
}

// plainSpan returns the spanning tree: from each distance on, and for it from each edge on, those that connect two groups.
func plainSpan(m impl.Metric) ([][2]int, int) {
	n := len(m.Dist)
	group, tree, sum := countUp(n), [][2]int{}, 0
	for d := 1; d <= 99; d++ {
		for x := range n {
			for y := x + 1; y < n; y++ {
				if m.Dist[x][y] != d || group[x] == group[y] {
					continue
				}
				tree, sum = append(tree, [2]int{x, y}), sum+d
				joined := group[y]
				for z := range group {
					if group[z] == joined {
						group[z] = group[x]
					}
				}
			}
		}
	}
	return tree, sum
}

// leastSpan returns the least sum of the distances of edges that connect all points, by growing all sets of points.
func leastSpan(m impl.Metric) int {
	n := len(m.Dist)
	least := slices.Repeat([]int{never}, 1<<n)
	least[1] = 0
	for set := range least {
		for x := range n {
			for y := range n {
				if set>>x&1 == 1 && set>>y&1 == 0 {
					least[set|1<<y] = min(least[set|1<<y], least[set]+m.Dist[x][y])
				}
			}
		}
	}
	return least[1<<n-1]
}

// plainSide returns the points that are reached from a point by the edges of a tree but for the one with the index out.
func plainSide(n int, tree [][2]int, out int) []int {
	side := []int{}
	var walk func(x int)
	walk = func(x int) {
		side = append(side, x)
		for i, edge := range tree {
			for j := range 2 {
				if i != out && edge[j] == x && !slices.Contains(side, edge[1-j]) {
					walk(edge[1-j])
				}
			}
		}
	}
	walk(tree[out][0])
	slices.Sort(side)
	return side
}

func TestSpanningTreesAndTheirCuts(t *testing.T) {
	equal := 0
	onManyMetrics(func(m impl.Metric) {
		want, sum := plainSpan(m)
		tree, length, ok := impl.SpanningTree(m)
		if !ok || length != sum || length != leastSpan(m) || !slices.Equal(tree, want) {
			t.Fatalf("SpanningTree(%v) = %v, %v, %v", m, tree, length, ok)
		}
		cuts, ok := impl.CutsOfTree(m)
		if !ok || len(cuts) != len(tree) {
			t.Fatalf("CutsOfTree(%v) = %v, %v", m, cuts, ok)
		}
		for i, edge := range tree {
			if !slices.Equal(cuts[i], plainSide(len(m.Dist), tree, i)) {
				t.Fatalf("CutsOfTree(%v) = %v, %v", m, cuts, ok)
			}
			for x, list := range m.Dist {
				for y, d := range list {
					if slices.Contains(cuts[i], x) && !slices.Contains(cuts[i], y) && d < m.Dist[edge[0]][edge[1]] {
						t.Fatalf("the edge between %d and %d of %v is less than %v", x, y, m, edge)
					}
				}
			}
			if i > 0 && m.Dist[edge[0]][edge[1]] == m.Dist[tree[i-1][0]][tree[i-1][1]] {
				equal++
			}
		}
	})
	if equal == 0 {
		t.Error("no tree has edges with equal distances")
	}
}

func TestNamedSpanningTrees(t *testing.T) {
	for _, c := range []struct {
		m    impl.Metric
		tree [][2]int
		sum  int
		cuts [][]int
	}{
		{dists([]int{0}), [][2]int{}, 0, [][]int{}},
		{symmetric(2, []int{99}), [][2]int{{0, 1}}, 99, [][]int{{0}}},
		{symmetric(3, []int{2, 2, 2}), [][2]int{{0, 1}, {0, 2}}, 4, [][]int{{0, 2}, {0, 1}}},
		{symmetric(3, []int{4, 3, 4}), [][2]int{{0, 2}, {0, 1}}, 7, [][]int{{0, 1}, {0, 2}}},
		{symmetric(4, []int{3, 2, 3, 1, 2, 3}), [][2]int{{1, 2}, {0, 2}, {1, 3}}, 5, [][]int{{1, 3}, {0}, {0, 1, 2}}},
		{symmetric(4, []int{1, 2, 1, 1, 2, 1}), [][2]int{{0, 1}, {0, 3}, {1, 2}}, 3, [][]int{{0, 3}, {0, 1, 2}, {0, 1, 3}}},
		{symmetric(6, slices.Repeat([]int{5}, 15)), [][2]int{{0, 1}, {0, 2}, {0, 3}, {0, 4}, {0, 5}}, 25, [][]int{{0, 2, 3, 4, 5}, {0, 1, 3, 4, 5}, {0, 1, 2, 4, 5}, {0, 1, 2, 3, 5}, {0, 1, 2, 3, 4}}},
	} {
		if tree, sum, ok := impl.SpanningTree(c.m); !ok || sum != c.sum || !slices.Equal(tree, c.tree) {
			t.Errorf("SpanningTree(%v) = %v, %v, %v", c.m, tree, sum, ok)
		}
		if cuts, ok := impl.CutsOfTree(c.m); !isLists(cuts, ok, c.cuts...) {
			t.Errorf("CutsOfTree(%v) = %v, %v", c.m, cuts, ok)
		}
	}
}

func TestDiametersAndBalls(t *testing.T) {
	onManyMetrics(func(m impl.Metric) {
		greatest := 0
		for x, list := range m.Dist {
			for r := -1; r <= 100; r++ {
				ball := []int{}
				for y := range list {
					if list[y] <= r {
						ball = append(ball, y)
					}
					greatest = max(greatest, list[y])
				}
				if l, ok := impl.BallOf(m, x, r); !isList(l, ok, ball...) {
					t.Fatalf("BallOf(%v, %d, %d) = %v, %v", m, x, r, l, ok)
				}
			}
			for _, r := range farInts {
				ball := []int{}
				if r > 0 {
					ball = countUp(len(list))
				}
				if l, ok := impl.BallOf(m, x, r); r != 61 && r != 62 && !isList(l, ok, ball...) {
					t.Fatalf("BallOf(%v, %d, %d) = %v, %v", m, x, r, l, ok)
				}
			}
			if l, ok := impl.BallOf(m, x, 0); !isList(l, ok, x) {
				t.Fatalf("BallOf(%v, %d, 0) = %v, %v", m, x, l, ok)
			}
		}
		if d, ok := impl.DiameterOf(m); !ok || d != greatest {
			t.Fatalf("DiameterOf(%v) = %v, %v", m, d, ok)
		}
	})
	if d, ok := impl.DiameterOf(dists([]int{0})); !ok || d != 0 {
		t.Error("the diameter of a single point", d, ok)
	}
}

func TestIsIsometry(t *testing.T) {
	kept := map[bool]int{}
	onManyMetrics(func(m impl.Metric) {
		n := len(m.Dist)
		if n == 6 && m.Dist[0][1]%4 > 0 {
			return
		}
		for _, to := range orders(n) {
			want := true
			for x := range n {
				for y := range n {
					want = want && m.Dist[to[x]][to[y]] == m.Dist[x][y]
				}
			}
			if is, ok := impl.IsIsometry(m, to); !ok || is != want {
				t.Fatalf("IsIsometry(%v, %v) = %v, %v", m, to, is, ok)
			}
			kept[want]++
		}
	})
	if kept[true] < 100 || kept[false] < 100 {
		t.Error("few are kept or lost", kept)
	}
	bad := append(badItems(3), nil, []int{0}, []int{0, 1}, []int{0, 1, 2, 3}, []int{0, 1, 1}, []int{0, 0, 0}, []int{2, 1, 2}, []int{0, 1, 2, 0}, []int{0, 1, 3}, []int{-1, 0, 1}, []int{1, 2, 3}, make([]int, 100000))
	for _, to := range bad {
		for n := 3; n <= 6; n++ {
			m, _ := impl.UniformMetric(n, 5)
			if is, ok := impl.IsIsometry(m, to); (n == 3 || len(to) != n) && (ok || is) {
				t.Errorf("IsIsometry(%v, %v) = %v, %v", m, to[:min(len(to), 8)], is, ok)
			}
		}
	}
}

// plainMetricText writes the distances of the points with the decimals of the tests.
func plainMetricText(m impl.Metric) string {
	text := ""
	for x, list := range m.Dist {
		for y, d := range list {
			if y > 0 {
				text += " "
			} else if x > 0 {
				text += "; "
			}
			text += decimal(d)
		}
	}
	return text
}

// metricForm is the form of the texts of up to six points with up to six distances each.
var metricForm = regexp.MustCompile(`^(0|[1-9]\d?)( (0|[1-9]\d?)){0,5}(; (0|[1-9]\d?)( (0|[1-9]\d?)){0,5}){0,5}$`)

// checkMetricParse checks ParseMetric with any text.
func checkMetricParse(t *testing.T, s string) {
	t.Helper()
	want := impl.Metric{}
	if metricForm.MatchString(s) {
		for _, point := range strings.Split(s, "; ") {
			list := []int{}
			for _, word := range strings.Split(point, " ") {
				d, _ := strconv.Atoi(word)
				list = append(list, d)
			}
			want.Dist = append(want.Dist, list)
		}
	}
	m, ok := impl.ParseMetric(s)
	if is := plainMetric(want); is && !isDists(m, ok, want) || !is && !noMetric(m, ok) {
		t.Fatalf("ParseMetric(%q) = %v, %v", s[:min(len(s), 120)], m, ok)
	}
}

func TestTextsOfMetricsRoundTrip(t *testing.T) {
	onManyMetrics(func(m impl.Metric) {
		s, ok := impl.MetricText(m)
		if !ok || s != plainMetricText(m) {
			t.Fatalf("MetricText(%v) = %q, %v", m, s, ok)
		}
		if same, ok := impl.ParseMetric(s); !isDists(same, ok, m) {
			t.Fatalf("ParseMetric(%q) = %v, %v", s, same, ok)
		}
	})
	line, _ := impl.LineMetric([]int{0, 3, 7})
	if s, ok := impl.MetricText(line); !ok || s != "0 3 7; 3 0 4; 7 4 0" {
		t.Errorf("%q, %v", s, ok)
	}
	if s, ok := impl.MetricText(dists([]int{0})); !ok || s != "0" {
		t.Errorf("%q, %v", s, ok)
	}
}

func TestParseMetricTakesJustWhatMetricTextWrites(t *testing.T) {
	six, _ := impl.LineMetric([]int{99, 0, 10, 9, 50, 51})
	for _, m := range []impl.Metric{dists([]int{0}), symmetric(2, []int{1}), symmetric(2, []int{10}), symmetric(3, []int{49, 99, 50}), symmetric(3, []int{1, 1, 2}), six} {
		s, _ := impl.MetricText(m)
		for at := range len(s) + 1 {
			for c := range 256 {
				checkMetricParse(t, s[:at]+string([]byte{byte(c)})+s[at:])
				if at < len(s) {
					checkMetricParse(t, s[:at]+string([]byte{byte(c)})+s[at+1:])
				}
			}
			checkMetricParse(t, s[:at])
			checkMetricParse(t, s[at:])
			for to := at; to <= len(s); to++ {
				checkMetricParse(t, s[:at]+s[to:])
			}
		}
		for _, other := range []string{"-0", "00", "01", "+1", "-1", "100", "0x1", "1e1", "", " ", "  ", ";", "; ", ";;", " ;", "\n", "9999999999999999999999", "９", "one", "none"} {
			for at := range s {
				checkMetricParse(t, s[:at]+other+s[at+1:])
				checkMetricParse(t, s[:at]+other+s[at:])
			}
		}
	}
	for _, s := range stringsOver("01; ", 6) {
		checkMetricParse(t, s)
	}
}

func TestParseMetricRefuses(t *testing.T) {
	for _, s := range []string{
		"", " ", "none", ";", "; ", "1", "-1", "0; 0", "0 0; 0 0", "0 1;1 0", "0 1;  1 0", "0 1; 1 0;", "0 1; 1 0; ", " 0 1; 1 0", "0  1; 1 0", "0,1; 1,0", "0 1\n1 0", "0 1 ; 1 0",
		"0 1; 2 0", "1 1; 1 0", "0 1; 1 1", "0 100; 100 0", "0 -1; -1 0", "0 01; 1 0", "0 1; 1 00", "0 1 2; 1 0 3", "0 1 2; 1 0; 2 3 0", "0 1 5; 1 0 1; 5 1 0",
		strings.Repeat("0 ", 1000000), strings.Repeat("0; ", 1000000), strings.Repeat("9", 1000000), strings.Repeat(" ", 1000000),
		"0 1 1 1 1 1 1; 1 0 1 1 1 1 1; 1 1 0 1 1 1 1; 1 1 1 0 1 1 1; 1 1 1 1 0 1 1; 1 1 1 1 1 0 1; 1 1 1 1 1 1 0",
	} {
		if m, ok := impl.ParseMetric(s); !noMetric(m, ok) {
			t.Errorf("ParseMetric(%q) = %v, %v", s[:min(len(s), 60)], m, ok)
		}
	}
}

// plainConfigs returns all lists of k points in ascending order, in lexicographic order.
func plainConfigs(n int, k int) [][]int {
	configs := [][]int{}
	eachChoice(k, countUp(n), func(list []int) {
		if slices.IsSorted(list) {
			configs = append(configs, slices.Clone(list))
		}
	})
	return configs
}

func TestConfigsOf(t *testing.T) {
	for n := 1; n <= 6; n++ {
		for k := 1; k <= 3; k++ {
			if l, ok := impl.ConfigsOf(n, k); !isLists(l, ok, plainConfigs(n, k)...) {
				t.Errorf("ConfigsOf(%d, %d) = %v, %v", n, k, l, ok)
			}
		}
	}
	if l, _ := impl.ConfigsOf(6, 3); len(l) != 56 {
		t.Error("configurations of 3 servers of 6 points", len(l))
	}
	if l, ok := impl.ConfigsOf(2, 3); !isLists(l, ok, []int{0, 0, 0}, []int{0, 0, 1}, []int{0, 1, 1}, []int{1, 1, 1}) {
		t.Error(l, ok)
	}
	for _, bad := range append([]int{0, -1, 7, 8}, farInts...) {
		for _, c := range [][2]int{{bad, 1}, {bad, 3}, {6, bad}, {1, bad}, {bad, bad}, {6, 4}, {1, 4}} {
			if l, ok := impl.ConfigsOf(c[0], c[1]); !nothing(l, ok) {
				t.Errorf("ConfigsOf(%d, %d) = %d lists, %v", c[0], c[1], len(l), ok)
			}
		}
	}
}

func TestIsConfig(t *testing.T) {
	for n := 1; n <= 6; n++ {
		m, _ := impl.UniformMetric(n, 9)
		for length := range 5 {
			eachChoice(length, []int{-1, 0, 1, n - 1, n}, func(a []int) {
				want := slices.ContainsFunc(plainConfigs(n, max(1, min(length, 3))), func(config []int) bool { return slices.Equal(config, a) })
				if is, ok := impl.IsConfig(m, slices.Clone(a)); !ok || is != want {
					t.Fatalf("IsConfig(%v, %v) = %v, %v", m, a, is, ok)
				}
			})
		}
		for _, a := range [][]int{nil, {math.MaxInt}, {math.MinInt}, {0, math.MaxInt}, {math.MinInt, 0}, {0, 0, 0, 0}, make([]int, 100000)} {
			if is, ok := impl.IsConfig(m, a); !ok || is {
				t.Errorf("IsConfig(%v, %v) = %v, %v", m, a[:min(len(a), 5)], is, ok)
			}
		}
	}
}

// plainMatch returns the first of all matchings with the least cost, and the cost.
func plainMatch(m impl.Metric, a []int, b []int) ([]int, int) {
	all := orders(len(a))
	slices.SortFunc(all, slices.Compare)
	var best []int
	least := never
	for _, to := range all {
		cost := 0
		for i := range a {
			cost += m.Dist[a[i]][b[to[i]]]
		}
		if cost < least {
			best, least = to, cost
		}
	}
	return best, least
}

// moveMetrics are the Metrics on which servers move: all of few points, and some of more.
func moveMetrics() []impl.Metric {
	metrics, seen := []impl.Metric{}, 0
	onManyMetrics(func(m impl.Metric) {
		if seen++; len(m.Dist) <= 3 || seen%7 == 0 {
			metrics = append(metrics, m)
		}
	})
	uniform, _ := impl.UniformMetric(6, 99)
	return append(metrics, symmetric(4, []int{1, 2, 1, 1, 2, 1}), symmetric(5, []int{2, 2, 2, 1, 2, 2, 1, 2, 1, 1}), uniform)
}

func TestMovesOfAllConfigs(t *testing.T) {
	crossed := 0
	for _, m := range moveMetrics() {
		n := len(m.Dist)
		for k := 1; k <= 3; k++ {
			configs := plainConfigs(n, k)
			for i, a := range configs {
				for j, b := range configs {
					if n == 6 && k == 3 && (i+j)%5 > 0 {
						continue
					}
					to, least := plainMatch(m, a, b)
					if cost, ok := impl.MoveCost(m, a, b); !ok || cost != least {
						t.Fatalf("MoveCost(%v, %v, %v) = %v, %v", m, a, b, cost, ok)
					}
					if list, ok := impl.MatchConfigs(m, a, b); !isList(list, ok, to...) {
						t.Fatalf("MatchConfigs(%v, %v, %v) = %v, %v", m, a, b, list, ok)
					}
					if !slices.IsSorted(to) {
						crossed++
					}
				}
			}
		}
	}
	if crossed == 0 {
		t.Error("the servers always move in order")
	}
}

func TestNamedMoves(t *testing.T) {
	line, _ := impl.LineMetric([]int{0, 3, 7})
	back, _ := impl.LineMetric([]int{7, 0, 3, 9})
	cycle := symmetric(4, []int{1, 2, 1, 1, 2, 1})
	for _, c := range []struct {
		m    impl.Metric
		a, b []int
		cost int
		to   []int
	}{
		{line, []int{0, 1}, []int{1, 2}, 7, []int{0, 1}},
		{line, []int{0, 0, 0}, []int{0, 0, 0}, 0, []int{0, 1, 2}},
		{line, []int{0, 0, 0}, []int{2, 2, 2}, 21, []int{0, 1, 2}},
		{line, []int{0}, []int{2}, 7, []int{0}},
		{back, []int{0, 1}, []int{1, 3}, 2, []int{1, 0}},
		{back, []int{0, 1, 2}, []int{1, 2, 3}, 2, []int{2, 0, 1}},
		{cycle, []int{0, 2}, []int{1, 3}, 2, []int{0, 1}}, // both matchings cost the same
		{cycle, []int{0, 3}, []int{1, 2}, 2, []int{0, 1}},
		{cycle, []int{1, 3}, []int{1, 3}, 0, []int{0, 1}},
		{cycle, []int{0, 1}, []int{1, 2}, 2, []int{0, 1}}, // 1 and 1, or 2 and 0
		{cycle, []int{0, 1, 2}, []int{1, 2, 3}, 1, []int{2, 0, 1}},
		{cycle, []int{0, 0, 2}, []int{0, 1, 2}, 1, []int{0, 1, 2}},
	} {
		if cost, ok := impl.MoveCost(c.m, c.a, c.b); !ok || cost != c.cost {
			t.Errorf("MoveCost(%v, %v, %v) = %v, %v", c.m, c.a, c.b, cost, ok)
		}
		if to, ok := impl.MatchConfigs(c.m, c.a, c.b); !isList(to, ok, c.to...) {
			t.Errorf("MatchConfigs(%v, %v, %v) = %v, %v", c.m, c.a, c.b, to, ok)
		}
	}
}

// plainGreedy returns the greedy schedule and its cost, with a count of servers at each point.
func plainGreedy(m impl.Metric, start []int, reqs []int) ([][]int, int) {
	counts, configs, cost := make([]int, len(m.Dist)), [][]int{}, 0
	for _, x := range start {
		counts[x]++
	}
	for _, r := range reqs {
		from := -1
		for x, count := range counts {
			if count > 0 && (from < 0 || m.Dist[x][r] < m.Dist[from][r]) {
				from = x
			}
		}
		cost += m.Dist[from][r]
		counts[from]--
		counts[r]++
		config := []int{}
		for x, count := range counts {
			config = append(config, slices.Repeat([]int{x}, count)...)
		}
		configs = append(configs, config)
	}
	return configs, cost
}

// plainMoves returns the sum of the costs of all moves.
func plainMoves(m impl.Metric, start []int, configs [][]int) int {
	sum := 0
	for _, config := range configs {
		_, cost := plainMatch(m, start, config)
		sum, start = sum+cost, config
	}
	return sum
}

// checkSchedule checks the cost of a schedule.
func checkSchedule(t *testing.T, m impl.Metric, start []int, reqs []int, configs [][]int) {
	t.Helper()
	if moves, ok := impl.ScheduleMoves(m, start, reqs, configs); !ok || moves != plainMoves(m, start, configs) {
		t.Fatalf("ScheduleMoves(%v, %v, %v, %v) = %v, %v", m, start, reqs, configs, moves, ok)
	}
}

func TestSchedulesOfServers(t *testing.T) {
	for i, m := range moveMetrics() {
		n := len(m.Dist)
		for k := 1; k <= 3; k++ {
			all := plainConfigs(n, k)
			for seed := range 8 {
				start, reqs := all[(13*i+7*seed)%len(all)], seededSequence(n, 3*seed, 10*i+seed)
				if seed == 7 {
					reqs = seededSequence(n, 60, i)
				}
				want, cost := plainGreedy(m, start, reqs)
				configs, moves, ok := impl.GreedyServers(m, start, reqs)
				if !isLists(configs, ok, want...) || moves != cost {
					t.Fatalf("GreedyServers(%v, %v, %v) = %v, %v, %v", m, start, reqs, configs, moves, ok)
				}
				if sum, ok := impl.ScheduleMoves(m, start, reqs, configs); !ok || sum != moves {
					t.Fatalf("ScheduleMoves(%v, %v, %v, %v) = %v, %v", m, start, reqs, configs, sum, ok)
				}
				// Any configurations with the points of the requests do.
				other := [][]int{}
				for place, r := range reqs {
					config := slices.Clone(all[(17*place+seed)%len(all)])
					config[place%k] = r
					slices.Sort(config)
					other = append(other, config)
				}
				checkSchedule(t, m, start, reqs, other)
			}
		}
	}
}

func TestNamedSchedules(t *testing.T) {
	line, _ := impl.LineMetric([]int{0, 3, 7})
	far, _ := impl.LineMetric([]int{6, 0, 3, 9, 12})
	uniform, _ := impl.UniformMetric(4, 5)
	for _, c := range []struct {
		m       impl.Metric
		start   []int
		reqs    []int
		configs [][]int
		cost    int
	}{
		{line, []int{0}, []int{2, 1}, [][]int{{2}, {1}}, 11},
		{line, []int{0, 0, 2}, nil, [][]int{}, 0},
		{line, []int{0, 0}, []int{1}, [][]int{{0, 1}}, 3},
		{line, []int{0, 2}, []int{0, 2, 2, 0}, [][]int{{0, 2}, {0, 2}, {0, 2}, {0, 2}}, 0},
		{far, []int{1, 3}, []int{2}, [][]int{{2, 3}}, 3},
		{far, []int{2, 3}, []int{0}, [][]int{{0, 3}}, 3}, // 2 and 3 are as far, on both sides
		{far, []int{0, 2}, []int{1, 0}, [][]int{{0, 1}, {0, 1}}, 3},
		{far, []int{1, 4}, []int{0, 4, 1}, [][]int{{0, 4}, {0, 4}, {1, 4}}, 12}, // 1 and 4 are as far
		{uniform, []int{1, 2}, []int{0}, [][]int{{0, 2}}, 5},                    // the server at the least point
		{uniform, []int{1, 1, 2}, []int{0, 3}, [][]int{{0, 1, 2}, {1, 2, 3}}, 10},
		{uniform, []int{0, 0, 0}, []int{1, 2, 3, 0}, [][]int{{0, 0, 1}, {0, 1, 2}, {1, 2, 3}, {0, 2, 3}}, 20},
	} {
		if configs, cost, ok := impl.GreedyServers(c.m, c.start, c.reqs); !isLists(configs, ok, c.configs...) || cost != c.cost {
			t.Errorf("GreedyServers(%v, %v, %v) = %v, %v, %v", c.m, c.start, c.reqs, configs, cost, ok)
		}
		checkSchedule(t, c.m, c.start, c.reqs, c.configs)
	}
	// A schedule may move more servers than serve, and its moves are matched anew each time.
	if moves, ok := impl.ScheduleMoves(line, []int{0, 2}, []int{1, 1, 0}, [][]int{{1, 1}, {1, 1}, {0, 0}}); !ok || moves != 7+0+6 {
		t.Error("a schedule that moves all servers", moves, ok)
	}
	if moves, ok := impl.ScheduleMoves(far, []int{0, 1}, []int{3, 2}, [][]int{{1, 3}, {0, 2}}); !ok || moves != 3+6 {
		t.Error("a schedule that crosses", moves, ok)
	}
}

// abs returns the absolute value of a small number.
func abs(n int) int { return max(n, -n) }

// plainRowDistance is the sum of the differences.
func plainRowDistance(a []int, b []int) int {
	sum := 0
	for i := range a {
		sum += abs(a[i] - b[i])
	}
	return sum
}

// plainSpread is the sum of the differences of all two places.
func plainSpread(row []int) int {
	sum := 0
	for i := range row {
		for j := range i {
			sum += row[i] - row[j]
		}
	}
	return sum
}

// plainCover serves a request with steps of length 1: from both sides at once, as long as nobody is there.
func plainCover(row []int, r int) ([]int, int) {
	row, moved := slices.Clone(row), 0
	for !slices.Contains(row, r) {
		before, behind := -1, -1
		for i, place := range row {
			if place < r {
				before = i
			} else if behind < 0 {
				behind = i
			}
		}
		if before >= 0 {
			row[before]++
			moved++
		}
		if behind >= 0 {
			row[behind]--
			moved++
		}
	}
	return row, moved
}

// rowsOver returns all rows of k servers with these places, which are in ascending order.
func rowsOver(k int, places []int) [][]int {
	rows := [][]int{}
	eachChoice(k, places, func(list []int) {
		if slices.IsSorted(list) {
			rows = append(rows, slices.Clone(list))
		}
	})
	return rows
}

// endPlaces are places at the ends, near to them and between.
var endPlaces = []int{0, 1, 2, 7, 49, 50, 51, 90, 98, 99}

// checkCover checks CoverStep, and returns the row.
func checkCover(t *testing.T, row []int, r int) []int {
	t.Helper()
	want, moves := plainCover(row, r)
	next, moved, ok := impl.CoverStep(row, r)
	if !isList(next, ok, want...) || moved != moves || moved != plainRowDistance(row, next) {
		t.Fatalf("CoverStep(%v, %d) = %v, %v, %v", row, r, next, moved, ok)
	}
	return next
}

func TestCoverStepOfAllRequests(t *testing.T) {
	for k := 1; k <= 3; k++ {
		for _, row := range rowsOver(k, endPlaces) {
			for r := range 100 {
				if next := checkCover(t, row, r); !slices.IsSorted(next) || !slices.Contains(next, r) {
					t.Fatalf("CoverStep(%v, %d) = %v", row, r, next)
				}
			}
		}
	}
}

func TestNamedCoverSteps(t *testing.T) {
	for _, c := range []struct {
		row   []int
		r     int
		next  []int
		moved int
	}{
		{[]int{0, 10}, 4, []int{4, 6}, 8},
		{[]int{5, 10}, 2, []int{2, 10}, 3},
		{[]int{5, 10}, 12, []int{5, 12}, 2},
		{[]int{5, 10}, 5, []int{5, 10}, 0},
		{[]int{5, 10}, 10, []int{5, 10}, 0},
		{[]int{4, 10}, 7, []int{7, 7}, 6}, // between both
		{[]int{4, 11}, 7, []int{7, 8}, 6},
		{[]int{4, 11}, 8, []int{7, 8}, 6},
		{[]int{5, 5, 5}, 3, []int{3, 5, 5}, 2}, // the first one of those at one place
		{[]int{5, 5, 5}, 8, []int{5, 5, 8}, 3}, // the last one
		{[]int{5, 5, 9}, 6, []int{5, 6, 8}, 2},
		{[]int{5, 9, 9}, 8, []int{6, 8, 9}, 2},
		{[]int{5, 9, 9}, 7, []int{7, 7, 9}, 4},
		{[]int{1, 5, 9}, 5, []int{1, 5, 9}, 0},
		{[]int{50}, 0, []int{0}, 50},
		{[]int{50}, 99, []int{99}, 49},
		{[]int{0, 99}, 0, []int{0, 99}, 0},
		{[]int{0, 99}, 49, []int{49, 50}, 98},
		{[]int{99, 99, 99}, 0, []int{0, 99, 99}, 99},
		{[]int{0, 0, 0}, 99, []int{0, 0, 99}, 99},
	} {
		if next, moved, ok := impl.CoverStep(c.row, c.r); !isList(next, ok, c.next...) || moved != c.moved {
			t.Errorf("CoverStep(%v, %d) = %v, %v, %v", c.row, c.r, next, moved, ok)
		}
	}
}

func TestDistancesAndPotentialsOfRows(t *testing.T) {
	for k := 1; k <= 3; k++ {
		rows := rowsOver(k, []int{0, 1, 7, 50, 98, 99})
		for _, a := range rows {
			for _, b := range rows {
				want := plainRowDistance(a, b)
				if distance, ok := impl.RowDistance(a, b); !ok || distance != want {
					t.Fatalf("RowDistance(%v, %v) = %v, %v", a, b, distance, ok)
				}
				if potential, ok := impl.CoverPotential(a, b); !ok || potential != k*want+plainSpread(a) {
					t.Fatalf("CoverPotential(%v, %v) = %v, %v", a, b, potential, ok)
				}
			}
		}
	}
	if potential, ok := impl.CoverPotential([]int{0, 10}, []int{4, 10}); !ok || potential != 18 {
		t.Error("CoverPotential", potential, ok)
	}
	if potential, ok := impl.CoverPotential([]int{0, 0, 99}, []int{99, 99, 99}); !ok || potential != 3*198+198 {
		t.Error("CoverPotential", potential, ok)
	}
	if potential, ok := impl.CoverPotential([]int{99, 99, 99}, []int{0, 0, 99}); !ok || potential != 3*198 {
		t.Error("CoverPotential", potential, ok)
	}
}

// The distance of rows is the cost of a move between configurations of the points of a line.
func TestRowsAreConfigsOfALine(t *testing.T) {
	places := []int{3, 5, 20, 21, 60, 99}
	m, _ := impl.LineMetric(places)
	for k := 1; k <= 3; k++ {
		for _, a := range plainConfigs(6, k) {
			for _, b := range plainConfigs(6, k) {
				rows := [2][]int{}
				for i := range k {
					rows[0], rows[1] = append(rows[0], places[a[i]]), append(rows[1], places[b[i]])
				}
				cost, _ := impl.MoveCost(m, a, b)
				if distance, ok := impl.RowDistance(rows[0], rows[1]); !ok || distance != cost {
					t.Fatalf("RowDistance(%v, %v) = %v, %v", rows[0], rows[1], distance, ok)
				}
			}
		}
	}
}

// plainLeastRows returns the least sum of distances by looking at all rows with these places.
func plainLeastRows(row []int, reqs []int, places []int) int {
	rows := rowsOver(len(row), places)
	least := make([]int, len(rows))
	for i, other := range rows {
		least[i] = never
		if slices.Equal(other, row) {
			least[i] = 0
		}
	}
	for _, r := range reqs {
		next := slices.Repeat([]int{never}, len(rows))
		for i, to := range rows {
			if !slices.Contains(to, r) {
				continue
			}
			for j, from := range rows {
				if least[j] < never {
					next[i] = min(next[i], least[j]+plainRowDistance(from, to))
				}
			}
		}
		least = next
	}
	return slices.Min(least)
}

// checkLeast checks LeastRows, and that double coverage costs little more.
func checkLeast(t *testing.T, row []int, reqs []int, want int) {
	t.Helper()
	least, ok := impl.LeastRows(row, reqs)
	if !ok || least != want {
		t.Fatalf("LeastRows(%v, %v) = %v, %v, and not %d", row, reqs, least, ok, want)
	}
	if _, moved, ok := impl.CoverRun(row, reqs); !ok || moved < least || moved > len(row)*least+plainSpread(row) {
		t.Fatalf("CoverRun(%v, %v) costs %d, the least is %d", row, reqs, moved, least)
	}
}

func TestLeastRows(t *testing.T) {
	for k := 1; k <= 3; k++ {
		for _, row := range rowsOver(k, []int{0, 2, 3}) {
			for _, reqs := range sequencesOver(5, 3) {
				checkLeast(t, row, reqs, plainLeastRows(row, reqs, countUp(5)))
			}
		}
		for i, row := range rowsOver(k, []int{0, 1, 4, 7}) {
			for seed := range 6 {
				reqs := seededSequence(8, 12-seed%3, 10*i+seed)
				checkLeast(t, row, reqs, plainLeastRows(row, reqs, countUp(8)))
			}
		}
		for seed := range 40 {
			states := statesOf(100*k+seed, 15)
			row, reqs, places := []int{}, []int{}, []int{}
			for i, state := range states {
				place := int(state/16) % 100
				if i < k {
					row = append(row, place)
				} else if i >= 3 {
					reqs = append(reqs, place)
				}
			}
			slices.Sort(row)
			places = slices.Compact(slices.Sorted(slices.Values(slices.Concat(row, reqs))))
			checkLeast(t, row, reqs, plainLeastRows(row, reqs, places))
		}
	}
}

func TestNamedLeastRows(t *testing.T) {
	for _, c := range []struct {
		row   []int
		reqs  []int
		least int
	}{
		{[]int{0, 10}, []int{4, 6}, 6},
		{[]int{0, 10}, nil, 0},
		{[]int{50}, []int{0, 99, 0}, 50 + 99 + 99},
		{[]int{0, 99}, []int{0, 99, 0, 99, 0, 99, 0, 99, 0, 99, 0, 99}, 0},
		{[]int{0}, []int{0, 99, 0, 99, 0, 99, 0, 99, 0, 99, 0, 99}, 11 * 99},
		{[]int{0, 0}, []int{99, 0, 99, 0, 99, 0, 99, 0, 99, 0, 99, 0}, 99},
		{[]int{0, 0, 0}, []int{50, 99, 50, 0, 99}, 149},
		{[]int{10, 10, 10}, []int{4, 20, 6, 10, 8}, 6 + 10 + 2 + 2}, // one server left and two right, or two left
		{[]int{0, 50}, []int{30, 20, 30, 20, 30, 20}, 20 + 20},
		{[]int{0, 50}, []int{26, 24, 26, 24, 26, 24}, 24 + 5*2},
	} {
		places := slices.Compact(slices.Sorted(slices.Values(slices.Concat(c.row, c.reqs))))
		if plain := plainLeastRows(c.row, c.reqs, places); plain < never && plain != c.least {
			t.Errorf("the least sum of %v for %v is %d", c.row, c.reqs, plain)
		}
		if least, ok := impl.LeastRows(c.row, c.reqs); !ok || least != c.least {
			t.Errorf("LeastRows(%v, %v) = %v, %v", c.row, c.reqs, least, ok)
		}
	}
}

func TestCoverRunIsAllItsSteps(t *testing.T) {
	for k := 1; k <= 3; k++ {
		for i, start := range rowsOver(k, endPlaces) {
			states := statesOf(100*k+i, 60)
			reqs := []int{}
			for place, state := range states[:[]int{0, 1, 5, 59, 60}[i%5]] {
				reqs = append(reqs, int(state/16)%[]int{100, 30, 5}[(i+place/20)%3])
			}
			want, sum, row := [][]int{}, 0, start
			for _, r := range reqs {
				next, moved := plainCover(row, r)
				want, sum, row = append(want, next), sum+moved, next
			}
			if rows, moved, ok := impl.CoverRun(start, reqs); !isLists(rows, ok, want...) || moved != sum {
				t.Fatalf("CoverRun(%v, %v) = %v, %v, %v", start, reqs, rows, moved, ok)
			}
		}
	}
	if rows, moved, ok := impl.CoverRun([]int{0, 10}, []int{4, 6}); !isLists(rows, ok, []int{4, 6}, []int{4, 6}) || moved != 8 {
		t.Error("CoverRun", rows, moved, ok)
	}
	if rows, moved, ok := impl.CoverRun([]int{5}, nil); !isLists(rows, ok) || moved != 0 {
		t.Error("CoverRun without requests", rows, moved, ok)
	}
	if rows, moved, ok := impl.CoverRun([]int{0}, slices.Repeat([]int{99, 0}, 30)); !ok || len(rows) != 60 || moved != 60*99 {
		t.Error("CoverRun from end to end", len(rows), moved, ok)
	}
}

// checkPotential checks what double coverage costs against what the potential loses, and what a move of the other row adds.
func checkPotential(t *testing.T, row []int, others [][]int, r int) {
	t.Helper()
	next, moved, served := impl.CoverStep(row, r)
	for i, other := range others {
		before, known := impl.CoverPotential(row, other)
		after, same := impl.CoverPotential(next, other)
		if !served || !known || !same || before < 0 {
			t.Fatalf("%v and %v fail: %v, %v, %v", row, other, served, known, same)
		}
		if slices.Contains(other, r) && moved > before-after {
			t.Fatalf("CoverStep(%v, %d) moves %d, and the potential to %v goes from %d to %d", row, r, moved, other, before, after)
		}
		from := others[(i*7+r)%len(others)]
		least, _ := impl.CoverPotential(row, from)
		distance, _ := impl.RowDistance(from, other)
		if before-least > len(row)*distance {
			t.Fatalf("the move from %v to %v adds %d to the potential of %v", from, other, before-least, row)
		}
	}
}

// Promise 6.
func TestDoubleCoverageNeverCostsMoreThanItsPotentialLoses(t *testing.T) {
	for k := 1; k <= 3; k++ {
		small, wide := rowsOver(k, countUp(6)), rowsOver(k, []int{0, 1, 49, 50, 98, 99})
		for _, row := range small {
			for r := range 6 {
				checkPotential(t, row, small, r)
			}
		}
		for _, row := range wide {
			for _, r := range []int{0, 1, 49, 50, 98, 99} {
				checkPotential(t, row, wide, r)
			}
		}
		for i, row := range rowsOver(k, endPlaces) {
			for r := i % 7; r < 100; r += 7 {
				checkPotential(t, row, rowsOver(k, slices.Compact(slices.Sorted(slices.Values([]int{0, 12, r, 60, 99})))), r)
			}
		}
	}
}

// serverArgs are arguments for the functions of chapter 6.
type serverArgs struct {
	m       impl.Metric
	x, y    int
	to      []int
	a, b    []int
	reqs    []int
	configs [][]int
	row     []int
	other   []int
	r       int
	places  []int
}

// window is a list with room before it and behind it.
func window(list ...int) []int {
	return append([]int{-5}, append(list, -5, -5)...)[1 : len(list)+1]
}

// around is a window with the room behind it.
func around(list []int) []int { return list[:len(list)+2] }

// goodArgs are valid ones. All lists are windows with room behind them.
func goodArgs() serverArgs {
	return serverArgs{
		m: impl.Metric{Dist: [][]int{{55}, window(0, 3, 7), window(3, 0, 4), window(7, 4, 0), {66}}[1:4]},
		x: 0, y: 2,
		to: window(2, 1, 0),
		a:  window(0, 0, 1), b: window(0, 1, 2),
		reqs:    window(2, 2, 1, 0),
		configs: [][]int{{77}, window(0, 0, 2), window(0, 1, 2), window(0, 1, 1), window(0, 0, 0), {88}}[1:5],
		row:     window(5, 40, 40), other: window(9, 30, 41),
		r:      20,
		places: window(20, 90, 5, 5, 41),
	}
}

// emptySchedule says whether lists of lists and a number are zero values.
func emptySchedule(lists [][]int, sum int, ok bool) (bool, bool) {
	return len(lists) == 0 && sum == 0, ok
}

// serverCall is a function, and which arguments it uses: m for a Metric, t for a table, x and y for the points, o for the order to, a and b for the configurations, q for the requests, c for the schedule, w and v for the rows, r for the place, l for the list of places on a line.
type serverCall struct {
	uses string
	call func(s serverArgs) (zero bool, ok bool)
}

var serverCalls = map[string]serverCall{
	"IsMetric":     {"m", func(s serverArgs) (bool, bool) { is := impl.IsMetric(s.m); return !is, is }},
	"ClosedMetric": {"t", func(s serverArgs) (bool, bool) { return zeroMetric(impl.ClosedMetric(s.m)) }},
	"ShortestWay":  {"txy", func(s serverArgs) (bool, bool) { return emptyList(impl.ShortestWay(s.m, s.x, s.y)) }},
	"IsTreeLike":   {"m", func(s serverArgs) (bool, bool) { return zeroOf(impl.IsTreeLike(s.m)) }},
	"IsLineLike":   {"m", func(s serverArgs) (bool, bool) { return zeroOf(impl.IsLineLike(s.m)) }},
	"SpanningTree": {"m", func(s serverArgs) (bool, bool) {
		tree, sum, ok := impl.SpanningTree(s.m)
		return len(tree) == 0 && sum == 0, ok
	}},
	"CutsOfTree":   {"m", func(s serverArgs) (bool, bool) { return emptyList(impl.CutsOfTree(s.m)) }},
	"DiameterOf":   {"m", func(s serverArgs) (bool, bool) { return zeroOf(impl.DiameterOf(s.m)) }},
	"BallOf":       {"mx", func(s serverArgs) (bool, bool) { return emptyList(impl.BallOf(s.m, s.x, s.r)) }},
	"IsIsometry":   {"mo", func(s serverArgs) (bool, bool) { return zeroOf(impl.IsIsometry(s.m, s.to)) }},
	"MetricText":   {"m", func(s serverArgs) (bool, bool) { return zeroOf(impl.MetricText(s.m)) }},
	"IsConfig":     {"m", func(s serverArgs) (bool, bool) { return zeroOf(impl.IsConfig(s.m, s.a)) }},
	"MoveCost":     {"mab", func(s serverArgs) (bool, bool) { return zeroOf(impl.MoveCost(s.m, s.a, s.b)) }},
	"MatchConfigs": {"mab", func(s serverArgs) (bool, bool) { return emptyList(impl.MatchConfigs(s.m, s.a, s.b)) }},
	"ScheduleMoves": {"maqc", func(s serverArgs) (bool, bool) {
		return zeroOf(impl.ScheduleMoves(s.m, s.a, s.reqs, s.configs))
	}},
	"GreedyServers": {"maq", func(s serverArgs) (bool, bool) { return emptySchedule(impl.GreedyServers(s.m, s.a, s.reqs)) }},
	"RowDistance":   {"wv", func(s serverArgs) (bool, bool) { return zeroOf(impl.RowDistance(s.row, s.other)) }},
	"CoverStep": {"wr", func(s serverArgs) (bool, bool) {
		row, moved, ok := impl.CoverStep(s.row, s.r)
		return len(row) == 0 && moved == 0, ok
	}},
	"CoverRun":       {"wl", func(s serverArgs) (bool, bool) { return emptySchedule(impl.CoverRun(s.row, s.places)) }},
	"CoverPotential": {"wv", func(s serverArgs) (bool, bool) { return zeroOf(impl.CoverPotential(s.row, s.other)) }},
	"LeastRows":      {"wl", func(s serverArgs) (bool, bool) { return zeroOf(impl.LeastRows(s.row, s.places)) }},
}

// refuseArgs checks that all functions that use an argument fail.
func refuseArgs(t *testing.T, use string, s serverArgs, what any) {
	t.Helper()
	for name, c := range serverCalls {
		if strings.Contains(c.uses, use) {
			if zero, ok := c.call(s); ok || !zero {
				t.Errorf("%s takes %v: %v, %v", name, what, zero, ok)
			}
		}
	}
}

// takeArgs checks that all functions that use an argument take it.
func takeArgs(t *testing.T, use string, s serverArgs, what any) {
	t.Helper()
	for name, c := range serverCalls {
		if strings.Contains(c.uses, use) {
			if _, ok := c.call(s); !ok {
				t.Errorf("%s refuses %v", name, what)
			}
		}
	}
}

// farDistances are numbers that are no distances.
var farDistances = slices.DeleteFunc(slices.Clone(farInts), func(d int) bool { return d == 61 || d == 62 })

// badTables are of three points, or nearly, and no tables.
func badTables() []impl.Metric {
	bad := []impl.Metric{
		{}, dists([][]int{}...), dists(nil), dists([]int{}), dists([]int{0, 1}), dists([]int{0}, []int{0}), dists([]int{1}), dists([]int{-1}),
		dists([]int{0, 3, 7}), dists([]int{0, 3, 7}, []int{3, 0, 4}), dists([]int{0, 3, 7}, []int{3, 0, 4}, nil),
		dists([]int{0, 3, 7}, []int{3, 0, 4}, []int{7, 4}), dists([]int{0, 3, 7}, []int{3, 0}, []int{7, 4, 0}), dists([]int{0, 3}, []int{3, 0, 4}, []int{7, 4, 0}),
		dists([]int{0, 3, 7}, []int{3, 0, 4}, []int{7, 4, 0, 1}), dists([]int{0, 3, 7, 7}, []int{3, 0, 4}, []int{7, 4, 0}), dists([]int{0, 3, 7}, []int{3, 0, 4}, []int{7, 4, 0}, []int{7, 7, 7}),
		dists([]int{0, 3, 7}, []int{3, 0, 4}, []int{7, 4, 0}, nil), dists([]int{0, 3}, []int{3, 0}, nil),
		symmetric(7, slices.Repeat([]int{1}, 21)), symmetric(7, slices.Repeat([]int{-1}, 21)), symmetric(40, slices.Repeat([]int{9}, 780)),
		{Dist: make([][]int, 100000)}, dists(make([]int, 100000)), {Dist: make([][]int, 6)},
	}
	for _, d := range append([]int{0, -2, 100, 101}, farDistances...) {
		for at := range 3 {
			distances := []int{3, 7, 4}
			distances[at] = d
			bad = append(bad, symmetric(3, distances))
		}
		bad = append(bad, symmetric(2, []int{d}), dists([]int{0, d}, []int{1, 0}), dists([]int{0, 1}, []int{d, 0}))
	}
	for _, d := range append([]int{-1, 1, 3, 7, 99}, farDistances...) {
		for x := range 3 {
			m := symmetric(3, []int{3, 7, 4})
			m.Dist[x][x] = d
			bad = append(bad, m)
		}
	}
	for _, d := range []int{-1, 1, 2, 4, 5, 6, 8, 99} {
		for x := range 3 {
			for y := range 3 {
				if m := symmetric(3, []int{3, 7, 4}); x != y && m.Dist[x][y] != d {
					m.Dist[x][y] = d
					bad = append(bad, m)
				}
			}
		}
	}
	return bad
}

func TestChapter6RefusesWhatIsNoMetric(t *testing.T) {
	takeArgs(t, "", goodArgs(), "what is valid")
	bad := badTables()
	for _, m := range bad {
		for _, s := range []serverArgs{goodArgs(), {m: m, a: []int{0}, b: []int{0}, to: []int{0}}} {
			s.m = m
			refuseArgs(t, "t", s, m)
			if way, ok := impl.FirstDetour(m); !nothing(way, ok) {
				t.Errorf("FirstDetour(%v) = %v, %v", m, way, ok)
			}
		}
	}
	for _, distances := range [][]int{{-1, 7, 4}, {3, -1, 4}, {3, 7, -1}, {-1, -1, -1}} {
		bad = append(bad, symmetric(3, distances))
		if way, ok := impl.FirstDetour(symmetric(3, distances)); !nothing(way, ok) {
			t.Errorf("FirstDetour(%v) = %v, %v", distances, way, ok)
		}
	}
	bad = append(bad, symmetric(2, []int{-1}), symmetric(3, []int{3, 8, 4}), symmetric(3, []int{8, 4, 3}), symmetric(3, []int{3, 4, 8}), symmetric(3, []int{1, 99, 1}))
	for _, m := range bad {
		for _, s := range []serverArgs{goodArgs(), {a: []int{0}, b: []int{0}, to: []int{0}}, {a: []int{0}, b: []int{0}, to: countUp(len(m.Dist))}} {
			s.m = m
			refuseArgs(t, "m", s, m)
		}
	}
	for _, distances := range [][]int{{-1, 7, 4}, {3, -1, 4}, {3, 8, 4}, {99, 99, 99}, {1, 1, 2}} {
		s := goodArgs()
		s.m = symmetric(3, distances)
		takeArgs(t, "t", s, distances)
	}
}

func TestChapter6RefusesWhatIsNoPoint(t *testing.T) {
	for _, x := range append([]int{-1, 3, 4, 6}, farInts...) {
		s := goodArgs()
		s.x = x
		refuseArgs(t, "x", s, x)
		s.x, s.y = 0, x
		refuseArgs(t, "y", s, x)
		s.x = x
		refuseArgs(t, "xy", s, x)
		s = goodArgs()
		for at := range s.reqs {
			s.reqs = []int{2, 2, 1, 0}
			s.reqs[at] = x
			refuseArgs(t, "q", s, s.reqs)
			s.configs[at] = []int{0, 0, x}
			refuseArgs(t, "q", s, s.reqs)
		}
		if x > 6 || x < 0 {
			s.m, s.x, s.y = dists([]int{0}), x, x
			refuseArgs(t, "x", s, x)
		}
	}
	s := goodArgs()
	s.m, s.a, s.configs, s.reqs = dists([]int{0}), []int{0}, slices.Repeat([][]int{{0}}, 60), make([]int, 60)
	takeArgs(t, "q", s, "60 requests")
	for _, length := range []int{61, 62, 100000} {
		s.configs, s.reqs = slices.Repeat([][]int{{0}}, length), make([]int, length)
		refuseArgs(t, "q", s, length)
	}
}

func TestChapter6RefusesWhatIsNoConfig(t *testing.T) {
	bad := [][]int{nil, {}, {1, 0}, {0, 2, 1}, {2, 1, 1}, {0, 0, 0, 0}, {0, 0, 1, 2}, {-1, 0, 1}, {0, 1, 3}, {3}, {-1}, {3, 3, 3}, {-1, -1, -1}, make([]int, 100000)}
	for _, far := range farInts {
		bad = append(bad, []int{far}, []int{0, 1, far}, []int{far, 1, 2}, []int{far, far, far})
	}
	for _, config := range bad {
		for _, use := range []string{"a", "b"} {
			s := goodArgs()
			if use == "a" {
				s.a = config
			} else {
				s.b = config
			}
			refuseArgs(t, use, s, config)
			s.a, s.b = config, config
			refuseArgs(t, use, s, config)
		}
		s := goodArgs()
		s.a, s.reqs, s.configs = config, nil, nil
		refuseArgs(t, "a", s, config)
		for at := range 4 {
			s := goodArgs()
			s.configs[at] = config
			refuseArgs(t, "c", s, s.configs)
		}
	}
	for _, lengths := range [][2][]int{{{0}, {0, 1}}, {{0, 1}, {0}}, {{0, 1}, {0, 1, 2}}, {{0, 0, 0}, {0, 0}}, {{0, 0, 0}, {0}}} {
		s := goodArgs()
		s.a, s.b = lengths[0], lengths[1]
		refuseArgs(t, "b", s, lengths)
	}
}

func TestChapter6RefusesWhatIsNoSchedule(t *testing.T) {
	good := [][]int{{0, 0, 2}, {0, 1, 2}, {0, 1, 1}, {0, 0, 0}}
	for _, configs := range [][][]int{
		nil, good[:3], good[1:], slices.Concat(good, good[:1]), slices.Concat(good, good), make([][]int, 4), make([][]int, 100000),
		{{0, 0, 1}, {0, 1, 2}, {0, 1, 1}, {0, 0, 0}}, // without the point of the first request
		{{0, 0, 2}, {0, 1, 1}, {0, 1, 1}, {0, 0, 0}},
		{{0, 0, 2}, {0, 1, 2}, {0, 0, 2}, {0, 0, 0}},
		{{0, 0, 2}, {0, 1, 2}, {0, 1, 1}, {1, 1, 2}}, // and of the last one
		{{0, 2}, {0, 1, 2}, {0, 1, 1}, {0, 0, 0}},    // with fewer servers
		{{0, 0, 2}, {0, 1, 2}, {1}, {0, 0, 0}},
		{{0, 0, 2}, {0, 1, 2}, {0, 1, 1}, {0, 0}},
		{{0, 2}, {0, 2}, {0, 1}, {0, 0}}, // all with fewer
		{{0, 0, 2}, {0, 1, 2}, {0, 1, 1}, {0, 0, 0, 0}},
		{{2, 0, 0}, {0, 1, 2}, {0, 1, 1}, {0, 0, 0}}, // not in order
	} {
		s := goodArgs()
		s.configs = configs
		refuseArgs(t, "c", s, configs[:min(len(configs), 6)])
	}
	s := goodArgs()
	s.reqs, s.configs = nil, [][]int{{0, 0, 1}}
	refuseArgs(t, "c", s, s.configs)
	s.configs = nil
	takeArgs(t, "c", s, "no requests")
	s = goodArgs()
	s.a, s.configs = []int{0, 1}, [][]int{{0, 2}, {0, 2}, {0, 1}, {0, 0}}
	takeArgs(t, "c", s, "two servers")
}

func TestChapter6RefusesWhatIsNoRow(t *testing.T) {
	bad := [][]int{nil, {}, {1, 0}, {5, 40, 39}, {40, 5, 40}, {0, 0, 0, 0}, {-1}, {100}, {-1, 40, 40}, {5, 40, 100}, {100, 100, 100}, make([]int, 100000)}
	for _, far := range farDistances {
		bad = append(bad, []int{far}, []int{5, 40, far}, []int{far, 40, 40}, []int{far, far, far})
	}
	for _, row := range bad {
		s := goodArgs()
		s.row = row
		refuseArgs(t, "w", s, row)
		s.places = nil
		refuseArgs(t, "w", s, row)
		s.other = row
		refuseArgs(t, "w", s, row)
		s = goodArgs()
		s.other = row
		refuseArgs(t, "v", s, row)
	}
	for _, lengths := range [][2][]int{{{0}, {0, 1}}, {{0, 1}, {0}}, {{0, 1}, {0, 1, 2}}, {{0, 0, 0}, {0, 0}}} {
		s := goodArgs()
		s.row, s.other = lengths[0], lengths[1]
		refuseArgs(t, "v", s, lengths)
	}
}

func TestChapter6RefusesOtherPlaces(t *testing.T) {
	for _, r := range append([]int{-1, 100, 101}, farDistances...) {
		s := goodArgs()
		s.r = r
		refuseArgs(t, "r", s, r)
		for at := range s.places {
			s.places = []int{20, 90, 5, 5, 41}
			s.places[at] = r
			refuseArgs(t, "l", s, s.places)
		}
	}
	for _, length := range []int{0, 12, 13, 60, 61, 100000} {
		reqs := slices.Repeat([]int{7}, length)
		rows, moved, ok := impl.CoverRun([]int{0, 7, 9}, reqs)
		if ok != (length <= 60) || ok && len(rows) != length || !ok && len(rows) != 0 || moved != 0 {
			t.Errorf("CoverRun of %d requests: %d, %v", length, len(rows), ok)
		}
		least, ok := impl.LeastRows([]int{0, 6, 9}, reqs)
		if ok != (length <= 12) || length == 12 && least != 1 || !ok && least != 0 {
			t.Errorf("LeastRows of %d requests: %v, %v", length, least, ok)
		}
	}
}

// sameArgs says whether arguments are those of goodArgs, with what is around them.
func sameArgs(s serverArgs) bool {
	good := goodArgs()
	all := func(s serverArgs) [][]int {
		lists := [][]int{around(s.to), around(s.a), around(s.b), around(s.reqs), around(s.row), around(s.other), around(s.places), {s.x, s.y, s.r, len(s.m.Dist), len(s.configs)}}
		for _, list := range slices.Concat(s.m.Dist, s.configs) {
			lists = append(lists, around(list))
		}
		return append(lists, s.m.Dist[:4][3], s.configs[:5][4])
	}
	return sameLists(all(s), all(good))
}

// Promise 13: arguments stay as they are, with the room behind them.
func TestChapter6ModifiesNoArgument(t *testing.T) {
	s := goodArgs()
	for name, c := range serverCalls {
		if _, ok := c.call(s); !ok {
			t.Errorf("%s fails", name)
		}
		if !sameArgs(s) {
			t.Fatalf("%s modifies %v", name, s)
		}
	}
	for _, f := range []func(){
		func() { impl.FirstDetour(s.m) },
		func() { impl.LineMetric(s.to) },
		func() { impl.StarMetric(s.row) },
		func() { impl.TreeMetric(s.a[:2], s.row[:2]) },
		func() { impl.CoverStep(s.row, 0) },
		func() { impl.CoverStep(s.row, 99) },
		func() { impl.CoverStep(s.row, 40) },
		func() { impl.IsMetric(impl.Metric{Dist: s.configs}) },
	} {
		if f(); !sameArgs(s) {
			t.Fatal("an argument is modified", s)
		}
	}
}

// listCalls are the functions of chapter 6 that return a list.
var listCalls = map[string]func(s serverArgs) ([]int, bool){
	"FirstDetour":  func(s serverArgs) ([]int, bool) { return impl.FirstDetour(symmetric(3, []int{3, 8, 4})) },
	"ShortestWay":  func(s serverArgs) ([]int, bool) { return impl.ShortestWay(s.m, s.x, s.y) },
	"BallOf":       func(s serverArgs) ([]int, bool) { return impl.BallOf(s.m, s.x, 3) },
	"MatchConfigs": func(s serverArgs) ([]int, bool) { return impl.MatchConfigs(s.m, s.a, s.b) },
	"CoverStep": func(s serverArgs) ([]int, bool) {
		row, _, ok := impl.CoverStep(s.row, s.r)
		return row, ok
	},
	"CoverStep, nobody moves": func(s serverArgs) ([]int, bool) {
		row, _, ok := impl.CoverStep(s.row, 40)
		return row, ok
	},
}

// listsCalls are those that return lists of lists.
var listsCalls = map[string]func(s serverArgs) ([][]int, bool){
	"ClosedMetric": func(s serverArgs) ([][]int, bool) { m, ok := impl.ClosedMetric(s.m); return m.Dist, ok },
	"LineMetric":   func(s serverArgs) ([][]int, bool) { m, ok := impl.LineMetric(s.to); return m.Dist, ok },
	"StarMetric":   func(s serverArgs) ([][]int, bool) { m, ok := impl.StarMetric(s.row); return m.Dist, ok },
	"UniformMetric": func(s serverArgs) ([][]int, bool) {
		m, ok := impl.UniformMetric(4, 9)
		return m.Dist, ok
	},
	"TreeMetric": func(s serverArgs) ([][]int, bool) {
		m, ok := impl.TreeMetric(s.a[:2], s.row[:2])
		return m.Dist, ok
	},
	"ParseMetric": func(s serverArgs) ([][]int, bool) {
		m, ok := impl.ParseMetric("0 3 7; 3 0 4; 7 4 0")
		return m.Dist, ok
	},
	"CutsOfTree": func(s serverArgs) ([][]int, bool) { return impl.CutsOfTree(s.m) },
	"ConfigsOf":  func(s serverArgs) ([][]int, bool) { return impl.ConfigsOf(3, 3) },
	"GreedyServers": func(s serverArgs) ([][]int, bool) {
		configs, _, ok := impl.GreedyServers(s.m, s.a, s.reqs)
		return configs, ok
	},
	"CoverRun": func(s serverArgs) ([][]int, bool) {
		rows, _, ok := impl.CoverRun(s.row, s.places)
		return rows, ok
	},
}

// checkFresh checks that a list that a call returns has memory of its own, and that its arguments stay the same.
func checkFresh(t *testing.T, name string, call func() ([]int, bool), same func() bool) {
	t.Helper()
	list, ok := call()
	first := slices.Clone(list)
	scribble(list)
	if again, fine := call(); !ok || len(first) == 0 || !isList(again, fine, first...) || !same() {
		t.Errorf("%s returns %v and then %v", name, first, again)
	}
}

// checkFreshLists checks that each of the lists that a call returns has memory of its own, and that its arguments stay the same.
func checkFreshLists(t *testing.T, name string, call func() ([][]int, bool), same func() bool) {
	t.Helper()
	first, ok := call()
	if !ok || len(first) < 2 {
		t.Fatalf("%s: %v, %v", name, first, ok)
	}
	for i := range first {
		lists, _ := call()
		scribble(lists[i])
		for j, list := range lists {
			if j != i && !slices.Equal(list, first[j]) {
				t.Fatalf("%s: the lists %d and %d share memory", name, i, j)
			}
		}
		clear(lists[:cap(lists)])
		if again, ok := call(); !isLists(again, ok, first...) || !same() {
			t.Fatalf("%s returns %v and then %v", name, first, again)
		}
	}
}

// Promise 13: results have memory of their own, each list of them too.
func TestChapter6ResultsShareNoMemory(t *testing.T) {
	s := goodArgs()
	same := func() bool { return sameArgs(s) }
	for name, f := range listCalls {
		checkFresh(t, name, func() ([]int, bool) { return f(s) }, same)
	}
	for name, f := range listsCalls {
		checkFreshLists(t, name, func() ([][]int, bool) { return f(s) }, same)
	}
	tree, _, _ := impl.SpanningTree(s.m)
	clear(tree[:cap(tree)])
	if again, _, ok := impl.SpanningTree(s.m); !ok || !slices.Equal(again, [][2]int{{0, 1}, {1, 2}}) || !sameArgs(s) {
		t.Error("SpanningTree", again, ok)
	}
}
