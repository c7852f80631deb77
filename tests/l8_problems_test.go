package tests

import (
	"fmt"
	"math"
	"slices"
	"strings"
	"testing"

	"loop.example/g01087/impl"
)

// problem has the distances of two different states in the order of symmetric, and these Serves.
func problem(n int, distances []int, serves ...[]int) impl.Problem {
	return impl.Problem{Move: symmetric(n, distances).Dist, Serve: serves}
}

// plainProblem says whether p is a Problem.
func plainProblem(p impl.Problem) bool {
	n, m := len(p.Move), len(p.Serve)
	if n < 1 || n > 4 || m < 1 || m > 4 || !plainMetric(impl.Metric{Dist: p.Move}) {
		return false
	}
	for _, serve := range p.Serve {
		served := 0
		for _, cost := range serve {
			if cost < -1 || cost > 20 {
				return false
			}
			if cost >= 0 {
				served++
			}
		}
		if len(serve) != n || served == 0 {
			return false
		}
	}
	return true
}

// plainCanServe says whether both are a state and a request of p, and the request can be served in the state.
func plainCanServe(p impl.Problem, request int, state int) bool {
	return request >= 0 && request < len(p.Serve) && state >= 0 && state < len(p.Move) && p.Serve[request][state] >= 0
}

// plainSchedule returns the cost of a schedule, and whether it is one.
func plainSchedule(p impl.Problem, start int, reqs []int, states []int) (int, bool) {
	if len(states) != len(reqs) {
		return 0, false
	}
	cost := 0
	for place, state := range states {
		if !plainCanServe(p, reqs[place], state) {
			return 0, false
		}
		if place == 0 {
			cost += p.Move[start][state]
		} else {
			cost += p.Move[states[place-1]][state]
		}
		cost += p.Serve[reqs[place]][state]
	}
	return cost, true
}

// plainAll returns the work function of a sequence and its first schedule with the least cost, from all schedules.
func plainAll(p impl.Problem, start int, reqs []int) (work []int, best []int, least int) {
	work, least = slices.Repeat([]int{math.MaxInt}, len(p.Move)), math.MaxInt
	eachChoice(len(reqs), countUp(len(p.Move)), func(states []int) {
		cost, ok := plainSchedule(p, start, reqs, states)
		if !ok {
			return
		}
		if cost < least {
			best, least = slices.Clone(states), cost
		}
		last := start
		if len(states) > 0 {
			last = states[len(states)-1]
		}
		for to := range work {
			work[to] = min(work[to], cost+p.Move[last][to])
		}
	})
	return work, best, least
}

// plainNext returns the work function after one more request.
func plainNext(p impl.Problem, w []int, request int) []int {
	next := []int{}
	for to := range w {
		least := math.MaxInt
		for at := range w {
			if plainCanServe(p, request, at) {
				least = min(least, w[at]+p.Serve[request][at]+p.Move[at][to])
			}
		}
		next = append(next, least)
	}
	return next
}

// plainWork returns the work function of a sequence, one request after the other.
func plainWork(p impl.Problem, start int, reqs []int) []int {
	w := slices.Clone(p.Move[start])
	for _, request := range reqs {
		w = plainNext(p, w, request)
	}
	return w
}

// plainFirst returns the first schedule with the least cost: each state is the least one from which the rest can still be served at this cost.
func plainFirst(p impl.Problem, start int, reqs []int) []int {
	states, paid, at := []int{}, 0, start
	least := slices.Min(plainWork(p, start, reqs))
	for place, request := range reqs {
		for state := range p.Move {
			if !plainCanServe(p, request, state) {
				continue
			}
			cost := paid + p.Move[at][state] + p.Serve[request][state]
			if cost+slices.Min(plainWork(p, state, reqs[place+1:])) == least {
				states, paid, at = append(states, state), cost, state
				break
			}
		}
	}
	return states
}

// plainOffset returns a work function less its least value, and this value.
func plainOffset(w []int) ([]int, int) {
	least, o := slices.Min(w), []int{}
	for _, value := range w {
		o = append(o, value-least)
	}
	return o, least
}

// plainOffsets returns the offsets in the order in which they are found, the index of the one next to each by each request, and the growths. It stops behind 1000 offsets.
func plainOffsets(p impl.Problem, start int) (list [][]int, to [][]int, grows [][]int) {
	found := map[string]int{}
	index := func(o []int) int {
		key := fmt.Sprint(o)
		if _, ok := found[key]; !ok {
			found[key] = len(list)
			list = append(list, o)
		}
		return found[key]
	}
	index(slices.Clone(p.Move[start]))
	for at := 0; at < len(list) && len(list) <= 1000; at++ {
		nexts, growths := []int{}, []int{}
		for request := range p.Serve {
			o, growth := plainOffset(plainNext(p, list[at], request))
			nexts, growths = append(nexts, index(o)), append(growths, growth)
		}
		to, grows = append(to, nexts), append(grows, growths)
	}
	return list, to, grows
}

// plainNearest returns the greedy algorithm, or the lazy one.
func plainNearest(p impl.Problem, lazy bool) [][]int {
	next := [][]int{}
	for state := range p.Move {
		row := []int{}
		for request := range p.Serve {
			best := -1
			for to := range p.Move {
				if !plainCanServe(p, request, to) {
					continue
				}
				if best < 0 || p.Move[state][to]+p.Serve[request][to] < p.Move[state][best]+p.Serve[request][best] {
					best = to
				}
			}
			if lazy && plainCanServe(p, request, state) {
				best = state
			}
			row = append(row, best)
		}
		next = append(next, row)
	}
	return next
}

// plainAlgorithm says whether next is an algorithm.
func plainAlgorithm(p impl.Problem, next [][]int) bool {
	if len(next) != len(p.Move) {
		return false
	}
	for _, row := range next {
		if len(row) != len(p.Serve) {
			return false
		}
		for request, state := range row {
			if !plainCanServe(p, request, state) {
				return false
			}
		}
	}
	return true
}

// plainStates returns the schedule of an algorithm.
func plainStates(next [][]int, start int, reqs []int) []int {
	states := []int{}
	for _, request := range reqs {
		start = next[start][request]
		states = append(states, start)
	}
	return states
}

// seededProblem is one of n states and m requests with Moves from a number up to twice this number. A request cannot be served in about one of gaps states, in none if gaps is 0, but it can in at least one.
func seededProblem(n int, m int, from int, gaps int, seed int) impl.Problem {
	p := impl.Problem{Move: seededTable(n, from, min(99, 2*from), 0, seed).Dist}
	states := statesOf(31*seed+n+5*m, 2*m*n)
	for request := range m {
		serve := []int{}
		for state := range n {
			cost, gap := int(states[request*n+state]/16)%21, int(states[(m+request)*n+state]/16)
			if gaps > 0 && gap%gaps == 0 && state != (request+seed)%n {
				cost = -1
			} else if gap%3 == 0 {
				cost = 0
			}
			serve = append(serve, cost)
		}
		p.Serve = append(p.Serve, serve)
	}
	return p
}

// seededAlgorithm is some algorithm, the same one for the same numbers.
func seededAlgorithm(p impl.Problem, seed int) [][]int {
	states, next := statesOf(seed, len(p.Move)*len(p.Serve)), [][]int{}
	for state := range p.Move {
		row := []int{}
		for request := range p.Serve {
			to := int(states[state*len(p.Serve)+request]/16) % len(p.Move)
			for !plainCanServe(p, request, to) {
				to = (to + 1) % len(p.Move)
			}
			row = append(row, to)
		}
		next = append(next, row)
	}
	return next
}

// namedProblems are those of the edges: of one state and of four, of one request and of four, with states in which nothing can be served, with requests that can be served in one state alone and in all, with Serves of 0 and of 20.
func namedProblems() []impl.Problem {
	return []impl.Problem{
		problem(1, nil, []int{0}),
		problem(1, nil, []int{20}),
		problem(1, nil, []int{0}, []int{20}, []int{7}, []int{0}),
		problem(2, []int{1}, []int{-1, 0}),
		problem(2, []int{99}, []int{0, -1}),
		problem(2, []int{1}, []int{-1, 0}, []int{0, -1}),
		problem(2, []int{1}, []int{0, 1}, []int{1, 0}),
		problem(2, []int{10}, []int{1, 0}),
		problem(2, []int{3}, []int{20, 20}, []int{0, 0}, []int{-1, 20}, []int{20, 0}),
		problem(3, []int{5, 9, 4}, []int{-1, 2, 3}, []int{-1, 0, -1}),
		problem(3, []int{5, 9, 4}, []int{-1, -1, 0}),
		problem(3, []int{1, 2, 1}, []int{0, -1, -1}, []int{0, -1, -1}, []int{0, -1, 4}),
		problem(3, []int{1, 1, 1}, []int{-1, 0, 0}, []int{0, -1, 0}, []int{0, 0, -1}),
		problem(3, []int{1, 2, 1}, []int{20, 0, 0}, []int{0, 20, 0}, []int{0, 0, 20}),
		problem(4, []int{1, 1, 1, 1, 1, 1}, []int{0, -1, -1, -1}, []int{-1, 0, -1, -1}, []int{-1, -1, 0, -1}, []int{-1, -1, -1, 0}),
		problem(4, []int{1, 1, 1, 1, 1, 1}, []int{2, 0, 0, 0}, []int{0, 2, 0, 0}, []int{0, 0, 2, 0}, []int{0, 0, 0, 2}),
		problem(4, []int{2, 4, 2, 2, 4, 2}, []int{0, 1, 2, 3}, []int{3, 2, 1, 0}),
		problem(4, []int{99, 99, 99, 99, 99, 99}, []int{-1, -1, 20, 20}, []int{-1, -1, 0, 20}, []int{-1, -1, 20, -1}, []int{-1, -1, 20, 0}),
		problem(4, []int{1, 2, 3, 1, 2, 1}, []int{-1, -1, -1, 1}),
		problem(4, []int{1, 2, 3, 1, 2, 1}, []int{0, 0, 0, 0}, []int{20, 20, 20, 20}),
	}
}

// manyProblems are the named ones and seeded ones of all numbers of states and requests.
func manyProblems() []impl.Problem {
	all := namedProblems()
	for n := 1; n <= 4; n++ {
		for m := 1; m <= 4; m++ {
			for seed := range 4 {
				all = append(all, seededProblem(n, m, []int{1, 3, 8, 50}[seed], []int{0, 2, 3, 5}[(seed+n)%4], 10*seed+n+m))
			}
		}
	}
	return all
}

// onSmallProblems calls check with all Problems of two states with few different numbers.
func onSmallProblems(check func(p impl.Problem)) {
	serves := [][]int{}
	eachChoice(2, []int{-1, 0, 1, 3}, func(serve []int) {
		if slices.Max(serve) >= 0 {
			serves = append(serves, slices.Clone(serve))
		}
	})
	for _, d := range []int{1, 2, 5} {
		for _, one := range serves {
			check(problem(2, []int{d}, one))
			for _, two := range serves {
				check(problem(2, []int{d}, one, two))
			}
		}
	}
}

// longSequences are sequences of m requests: mixed ones of up to 60, and ones with the same request several times in a row.
func longSequences(m int, seed int) [][]int {
	mixed := seededSequence(m, 60, seed)
	runs := []int{}
	for place := range 40 {
		runs = append(runs, mixed[place/(2+seed%5)])
	}
	return [][]int{{}, {seed % m}, mixed, runs, mixed[:17], slices.Repeat([]int{m - 1}, 60), slices.Repeat([]int{0, m - 1}, 15)}
}

func TestChapter8Constants(t *testing.T) {
	if impl.MaxStates != 4 || impl.MaxKinds != 4 || impl.MaxServe != 20 || impl.MaxOffsets != 400 {
		t.Error(impl.MaxStates, impl.MaxKinds, impl.MaxServe, impl.MaxOffsets)
	}
}

func TestIsProblem(t *testing.T) {
	check := func(p impl.Problem) {
		t.Helper()
		if is := impl.IsProblem(p); is != plainProblem(p) {
			t.Fatalf("IsProblem(%v) = %v", p, is)
		}
	}
	for _, p := range manyProblems() {
		if !plainProblem(p) || !impl.IsProblem(p) {
			t.Fatalf("IsProblem(%v) = %v", p, impl.IsProblem(p))
		}
		for request, serve := range p.Serve {
			for state, kept := range serve {
				for _, cost := range append([]int{-3, -1, 0, 20, 21, 99}, farInts...) {
					serve[state] = cost
					check(p)
				}
				serve[state] = kept
			}
			for _, other := range [][]int{nil, serve[1:], append(slices.Clone(serve), 0), append(slices.Clone(serve), -1), slices.Repeat([]int{-1}, len(serve)), make([]int, len(serve))} {
				p.Serve[request] = other
				check(p)
			}
			p.Serve[request] = serve
		}
		for x, moves := range p.Move {
			for y, kept := range moves {
				for _, d := range append([]int{-1, 0, 1, 20, 99, 100}, farInts...) {
					moves[y] = d
					check(p)
					p.Move[y][x], moves[y] = d, d
					check(p)
					p.Move[y][x], moves[y] = kept, kept
				}
			}
		}
	}
	for n := 1; n <= 7; n++ {
		for m := range 7 {
			check(problem(n, slices.Repeat([]int{9}, n*(n-1)/2), slices.Repeat([][]int{make([]int, n)}, m)...))
		}
	}
	eachChoice(6, []int{-1, 0, 1, 2, 3}, func(d []int) {
		check(problem(3, d[:3], d[3:]))
		check(impl.Problem{Move: [][]int{d[:2], d[2:4]}, Serve: [][]int{d[4:]}})
	})
}

// checkShort checks what is told of a start state and a sequence against all schedules.
func checkShort(t *testing.T, p impl.Problem, start int, reqs []int) {
	t.Helper()
	work, best, least := plainAll(p, start, reqs)
	if slices.Min(work) != least || !slices.Equal(work, plainWork(p, start, reqs)) || !slices.Equal(best, plainFirst(p, start, reqs)) {
		t.Fatalf("the tests differ for %v, %d, %v: %v, %v, %d", p, start, reqs, work, best, least)
	}
	checkLong(t, p, start, reqs)
	eachChoice(len(reqs), countUp(len(p.Move)), func(states []int) {
		cost, is := plainSchedule(p, start, reqs, states)
		if n, ok := impl.ScheduleCost(p, start, reqs, states); ok != is || n != cost || ok && n < least {
			t.Fatalf("ScheduleCost(%v, %d, %v, %v) = %v, %v", p, start, reqs, states, n, ok)
		}
	})
}

// checkLong checks what is told of a start state and a sequence, one request after the other.
func checkLong(t *testing.T, p impl.Problem, start int, reqs []int) {
	t.Helper()
	want := plainWork(p, start, reqs)
	work, ok := impl.WorkFunction(p, start, reqs)
	if !isList(work, ok, want...) {
		t.Fatalf("WorkFunction(%v, %d, %v) = %v, %v and not %v", p, start, reqs, work, ok, want)
	}
	least, ok := impl.LeastCost(p, start, reqs)
	if !ok || least != slices.Min(work) {
		t.Fatalf("LeastCost(%v, %d, %v) = %v, %v and not that of %v", p, start, reqs, least, ok, work)
	}
	best, ok := impl.BestSchedule(p, start, reqs)
	if !isList(best, ok, plainFirst(p, start, reqs)...) {
		t.Fatalf("BestSchedule(%v, %d, %v) = %v, %v", p, start, reqs, best, ok)
	}
	if cost, ok := impl.ScheduleCost(p, start, reqs, best); !ok || cost != least {
		t.Fatalf("BestSchedule(%v, %d, %v) = %v costs %v, %v and not %d", p, start, reqs, best, cost, ok, least)
	}
	for request := range p.Serve {
		longer := append(slices.Clone(reqs), request)
		next, ok := impl.NextWork(p, work, request)
		if !isList(next, ok, plainNext(p, work, request)...) {
			t.Fatalf("NextWork(%v, %v, %d) = %v, %v", p, work, request, next, ok)
		}
		if l, ok := impl.WorkFunction(p, start, longer); ok != (len(longer) <= 60) || ok && !slices.Equal(l, next) {
			t.Fatalf("WorkFunction(%v, %d, %v) = %v, %v and NextWork %v", p, start, longer, l, ok, next)
		}
	}
}

// Promise 8: LeastCost is the least value of WorkFunction, BestSchedule costs it, and no schedule costs less.
func TestAllSchedulesOfShortSequences(t *testing.T) {
	onSmallProblems(func(p impl.Problem) {
		for start := range p.Move {
			for _, reqs := range sequencesOver(len(p.Serve), 4) {
				checkShort(t, p, start, reqs)
			}
		}
	})
	for _, p := range manyProblems() {
		for start := range p.Move {
			for _, reqs := range sequencesOver(len(p.Serve), 3) {
				checkShort(t, p, start, reqs)
			}
			checkShort(t, p, start, seededSequence(len(p.Serve), 5, start))
		}
	}
}

func TestWorkFunctionsOfLongSequences(t *testing.T) {
	for seed, p := range manyProblems() {
		for start := range p.Move {
			for _, reqs := range longSequences(len(p.Serve), seed) {
				checkLong(t, p, start, reqs)
			}
		}
	}
}

func TestNamedSchedulesOfProblems(t *testing.T) {
	line := problem(3, []int{5, 9, 4}, []int{-1, 2, 3}, []int{-1, 0, -1}, []int{0, 20, 7})
	for _, c := range []struct {
		start  int
		reqs   []int
		states []int
		cost   int
		ok     bool
	}{
		{0, nil, nil, 0, true},
		{2, []int{}, []int{}, 0, true},
		{0, []int{0}, []int{1}, 7, true},
		{0, []int{0}, []int{2}, 12, true},
		{0, []int{0}, []int{0}, 0, false},
		{2, []int{0}, []int{2}, 3, true},
		{2, []int{0, 0, 0}, []int{2, 2, 2}, 9, true},
		{2, []int{0, 1, 2}, []int{2, 1, 0}, 12, true},
		{2, []int{0, 1, 2}, []int{1, 1, 2}, 6 + 11, true},
		{2, []int{0, 1, 2}, []int{1, 2, 2}, 0, false},
		{0, []int{2, 2}, []int{0, 2}, 16, true},
		{0, []int{2, 2}, []int{0}, 0, false},
		{0, []int{2, 2}, []int{0, 0, 0}, 0, false},
		{0, []int{2, 2}, []int{0, 3}, 0, false},
		{0, []int{2, 2}, []int{-1, 0}, 0, false},
		{0, nil, []int{0}, 0, false},
		{0, []int{2}, nil, 0, false},
	} {
		if n, ok := impl.ScheduleCost(line, c.start, c.reqs, c.states); ok != c.ok || n != c.cost {
			t.Errorf("ScheduleCost(%d, %v, %v) = %v, %v", c.start, c.reqs, c.states, n, ok)
		}
	}
	// The first of several schedules with the least cost.
	even := problem(3, []int{2, 2, 2}, []int{1, 1, 1}, []int{2, 0, 0}, []int{-1, 0, 0}, []int{0, 2, 4})
	for _, c := range []struct {
		start int
		reqs  []int
		best  []int
		least int
	}{
		{0, nil, []int{}, 0},
		{0, []int{0}, []int{0}, 1},
		{2, []int{0}, []int{2}, 1},
		{0, []int{1}, []int{0}, 2},
		{0, []int{2}, []int{1}, 2},
		{0, []int{0, 2}, []int{0, 1}, 3},
		{0, []int{1, 1}, []int{1, 1}, 2},
		{1, []int{3}, []int{0}, 2},
		{2, []int{3, 3}, []int{0, 0}, 2},
		{1, []int{3, 2}, []int{1, 1}, 2},
		{0, []int{2, 2, 2}, []int{1, 1, 1}, 2},
	} {
		best, one := impl.BestSchedule(even, c.start, c.reqs)
		least, two := impl.LeastCost(even, c.start, c.reqs)
		if !isList(best, one, c.best...) || !two || least != c.least {
			t.Errorf("from %d for %v: %v, %v, %v, %v", c.start, c.reqs, best, one, least, two)
		}
	}
	if w, ok := impl.WorkFunction(line, 2, nil); !isList(w, ok, 9, 4, 0) {
		t.Error("the work function without requests", w, ok)
	}
	if w, ok := impl.WorkFunction(line, 0, []int{0}); !isList(w, ok, 12, 7, 11) {
		t.Error("a work function", w, ok)
	}
	// The costs of the longest way that there is.
	wide := problem(2, []int{99}, []int{-1, 20}, []int{20, -1})
	if n, ok := impl.LeastCost(wide, 0, slices.Repeat([]int{0, 1}, 30)); !ok || n != 60*119 {
		t.Error("LeastCost from end to end", n, ok)
	}
}

func TestNextWorkAtItsBounds(t *testing.T) {
	p := problem(3, []int{5, 9, 4}, []int{-1, 2, 3}, []int{-1, 0, -1}, []int{0, 20, 7})
	for _, c := range []struct {
		w       []int
		request int
		next    []int
	}{
		{[]int{0, 0, 0}, 0, []int{7, 2, 3}},
		{[]int{0, 0, 0}, 1, []int{5, 0, 4}},
		{[]int{0, 0, 0}, 2, []int{0, 5, 7}},
		{[]int{0, 5, 9}, 0, []int{12, 7, 11}},
		{[]int{9, 4, 0}, 0, []int{11, 6, 3}},
		{[]int{100000, 100000, 100000}, 0, []int{100007, 100002, 100003}},
		{[]int{100000, 99995, 99991}, 1, []int{100000, 99995, 99999}},
		{[]int{99995, 100000, 99996}, 2, []int{99995, 100000, 100003}},
	} {
		if l, ok := impl.NextWork(p, c.w, c.request); !isList(l, ok, c.next...) {
			t.Errorf("NextWork(%v, %d) = %v, %v", c.w, c.request, l, ok)
		}
	}
	// The greatest values that there are.
	if l, ok := impl.NextWork(problem(2, []int{99}, []int{20, -1}), []int{100000, 100000}, 0); !isList(l, ok, 100020, 100119) {
		t.Error("the greatest values", l, ok)
	}
	// Numbers may differ by exactly the Move, in both directions, and by no more.
	for x := range 3 {
		for y := range 3 {
			for _, base := range []int{0, 50, 100000 - 9} {
				w := []int{base, base, base}
				for z := range w {
					w[z] += p.Move[y][z]
				}
				if l, ok := impl.NextWork(p, w, 0); !isList(l, ok, plainNext(p, w, 0)...) {
					t.Errorf("NextWork of %v: %v, %v", w, l, ok)
				}
				if w[x]++; x == y {
					w[x] -= 2 // the others are as far as they may be
				}
				if l, ok := impl.NextWork(p, w, 0); !nothing(l, ok) {
					t.Errorf("NextWork of %v: %v, %v", w, l, ok)
				}
			}
		}
	}
	eachChoice(3, []int{-1, 0, 1, 4, 5, 6, 9, 10}, func(w []int) {
		fits := slices.Min(w) >= 0 && abs(w[0]-w[1]) <= 5 && abs(w[0]-w[2]) <= 9 && abs(w[1]-w[2]) <= 4
		for request := range 3 {
			if l, ok := impl.NextWork(p, w, request); ok != fits || fits && !slices.Equal(l, plainNext(p, w, request)) || !fits && len(l) != 0 {
				t.Fatalf("NextWork(%v, %d) = %v, %v", w, request, l, ok)
			}
		}
	})
}

// checkOffsets checks the offsets of a start state, and where their steps lead along sequences.
func checkOffsets(t *testing.T, p impl.Problem, start int, sequences [][]int) {
	t.Helper()
	want, wantTo, wantGrows := plainOffsets(p, start)
	list, ok := impl.OffsetsOf(p, start)
	to, grows, fine := impl.OffsetSteps(p, start)
	if len(want) > 400 {
		if !nothing(list, ok) || !nothing(to, fine) || len(grows) != 0 {
			t.Fatalf("%d offsets of %v, %d: %v, %v and %v, %v, %v", len(want), p, start, len(list), ok, len(to), len(grows), fine)
		}
		return
	}
	if !isLists(list, ok, want...) {
		t.Fatalf("OffsetsOf(%v, %d) = %v, %v", p, start, list, ok)
	}
	if !isLists(to, fine, wantTo...) || !sameLists(grows, wantGrows) {
		t.Fatalf("OffsetSteps(%v, %d) = %v, %v, %v", p, start, to, grows, fine)
	}
	for _, reqs := range sequences {
		at, grown := 0, 0
		for _, request := range reqs {
			at, grown = to[at][request], grown+grows[at][request]
		}
		w, _ := impl.WorkFunction(p, start, reqs)
		least, _ := impl.LeastCost(p, start, reqs)
		if o, value := plainOffset(w); !slices.Equal(list[at], o) || grown != value || grown != least {
			t.Fatalf("the steps of %v, %d along %v lead to %v and %d, the work function is %v", p, start, reqs, list[at], grown, w)
		}
	}
}

// Promise 8: offsets and their growths lead to the work function of each sequence.
func TestOffsetsLeadToWorkFunctions(t *testing.T) {
	onSmallProblems(func(p impl.Problem) {
		for start := range p.Move {
			checkOffsets(t, p, start, sequencesOver(len(p.Serve), 5))
		}
	})
	for seed, p := range manyProblems() {
		for start := range p.Move {
			checkOffsets(t, p, start, append(sequencesOver(len(p.Serve), 3), longSequences(len(p.Serve), seed)...))
		}
	}
}

// Offsets are found as they come first in sequences, shorter ones first.
func TestOffsetsAreInTheOrderOfSequences(t *testing.T) {
	onSmallProblems(func(p impl.Problem) {
		for start := range p.Move {
			found, length := [][]int{}, 0
			for _, reqs := range sequencesOver(len(p.Serve), 7) {
				o, _ := plainOffset(plainWork(p, start, reqs))
				if !slices.ContainsFunc(found, func(known []int) bool { return slices.Equal(known, o) }) {
					found, length = append(found, o), len(reqs)
				}
			}
			// If the longest sequences have no new offsets, still longer ones have none.
			list, ok := impl.OffsetsOf(p, start)
			if !ok || len(list) < len(found) || length < 7 && len(list) > len(found) || !sameLists(list[:len(found)], found) {
				t.Fatalf("OffsetsOf(%v, %d) = %v, %v and not %v", p, start, list, ok, found)
			}
		}
	})
}

func TestNamedOffsets(t *testing.T) {
	for _, c := range []struct {
		p     impl.Problem
		start int
		list  [][]int
		to    [][]int
		grows [][]int
	}{
		{problem(1, nil, []int{7}), 0, [][]int{{0}}, [][]int{{0}}, [][]int{{7}}},
		{problem(1, nil, []int{0}, []int{20}), 0, [][]int{{0}}, [][]int{{0, 0}}, [][]int{{0, 20}}},
		{problem(2, []int{3}, []int{1, 0}), 0, [][]int{{0, 3}, {0, 2}, {0, 1}, {0, 0}, {1, 0}, {2, 0}, {3, 0}}, [][]int{{1}, {2}, {3}, {4}, {5}, {6}, {6}}, [][]int{{1}, {1}, {1}, {0}, {0}, {0}, {0}}},
		{problem(2, []int{3}, []int{1, 0}), 1, [][]int{{3, 0}}, [][]int{{0}}, [][]int{{0}}},
		{problem(2, []int{4}, []int{-1, 0}, []int{0, -1}), 0, [][]int{{0, 4}, {4, 0}}, [][]int{{1, 0}, {1, 0}}, [][]int{{4, 0}, {0, 4}}},
		{problem(2, []int{1}, []int{0, 1}, []int{1, 0}), 0, [][]int{{0, 1}, {0, 0}, {1, 0}}, [][]int{{0, 1}, {0, 2}, {1, 2}}, [][]int{{0, 1}, {0, 0}, {1, 0}}},
		{problem(2, []int{1}, []int{1, 0}, []int{0, 1}), 0, [][]int{{0, 1}, {0, 0}, {1, 0}}, [][]int{{1, 0}, {2, 0}, {2, 1}}, [][]int{{1, 0}, {0, 0}, {0, 1}}},
		{problem(3, []int{5, 9, 4}, []int{-1, 0, -1}), 0, [][]int{{0, 5, 9}, {5, 0, 4}}, [][]int{{1}, {1}}, [][]int{{5}, {0}}},
		{problem(3, []int{5, 9, 4}, []int{3, 3, 3}), 2, [][]int{{9, 4, 0}}, [][]int{{0}}, [][]int{{3}}},
	} {
		list, one := impl.OffsetsOf(c.p, c.start)
		to, grows, two := impl.OffsetSteps(c.p, c.start)
		if !isLists(list, one, c.list...) || !isLists(to, two, c.to...) || !sameLists(grows, c.grows) {
			t.Errorf("%v, %d: %v, %v and %v, %v, %v", c.p, c.start, list, one, to, grows, two)
		}
	}
}

func TestProblemsWithAboutMaxOffsets(t *testing.T) {
	for _, c := range []struct {
		p     impl.Problem
		count int
	}{
		{problem(3, []int{11, 17, 14}, []int{16, 20, 0}, []int{0, 0, 11}, []int{11, 11, 2}, []int{0, 6, 15}), 399},
		{problem(3, []int{78, 99, 76}, []int{18, 8, 8}, []int{0, 0, 2}), 400},
		{problem(4, []int{17, 13, 12, 14, 11, 19}, []int{6, 0, 0, 18}, []int{0, 20, 19, 1}), 400},
		{problem(4, []int{16, 18, 16, 20, 19, 19}, []int{0, 0, 13, 0}, []int{0, 0, 0, 0}, []int{2, 18, 0, 3}), 400},
		{problem(3, []int{11, 11, 19}, []int{-1, 16, 8}, []int{0, 18, 0}, []int{3, 9, 13}, []int{1, 0, 3}), 400},
		{problem(3, []int{94, 93, 81}, []int{0, 10, 8}, []int{8, 4, 0}), 401},
		{problem(4, []int{91, 80, 86, 95, 66, 64}, []int{7, 17, -1, -1}, []int{0, 0, 8, 0}, []int{18, 0, -1, 0}, []int{0, 0, 4, 0}), 401},
		{problem(3, []int{16, 13, 11}, []int{0, 6, 0}, []int{0, 0, 0}, []int{17, 16, 17}, []int{0, 10, 0}), 401},
		{problem(4, []int{84, 87, 55, 64, 63, 79}, []int{10, 5, 0, 0}, []int{15, 15, 0, 18}), 402},
		{problem(4, []int{83, 97, 71, 88, 62, 79}, []int{3, 0, 5, 17}, []int{0, 7, 20, 1}, []int{11, 0, 13, 2}, []int{1, 19, 0, 5}), -1},
	} {
		list, _, _ := plainOffsets(c.p, 0)
		if c.count > 0 && len(list) != c.count || c.count < 0 && len(list) <= 1000 {
			t.Errorf("%v has %d offsets", c.p, len(list))
		}
		checkOffsets(t, c.p, 0, longSequences(len(c.p.Serve), len(list)))
		// What is not about offsets does not fail.
		reqs := longSequences(len(c.p.Serve), 3)[2]
		checkLong(t, c.p, 0, reqs)
	}
}

func TestAllListsAsAlgorithms(t *testing.T) {
	for _, p := range []impl.Problem{
		problem(1, nil, []int{0}), problem(1, nil, []int{0}, []int{5}), problem(2, []int{1}, []int{-1, 0}), problem(2, []int{1}, []int{-1, 0}, []int{0, 3}),
		problem(2, []int{1}, []int{0, 0}, []int{2, -1}), problem(2, []int{7}, []int{0, 20}, []int{4, 0}), problem(3, []int{1, 1, 1}, []int{-1, 0, 0}), problem(3, []int{1, 1, 1}, []int{-1, -1, 0}),
	} {
		n, m := len(p.Move), len(p.Serve)
		count := 0
		for rows := range 5 {
			for length := range 4 {
				if rows*length > 6 {
					continue
				}
				eachChoice(rows*length, countUp(n+2), func(list []int) {
					next := [][]int{}
					for row := range rows {
						states := []int{}
						for _, number := range list[row*length : (row+1)*length] {
							states = append(states, number-1)
						}
						next = append(next, states)
					}
					is, ok := impl.IsAlgorithm(p, next)
					if !ok || is != plainAlgorithm(p, next) {
						t.Fatalf("IsAlgorithm(%v, %v) = %v, %v", p, next, is, ok)
					}
					if is {
						count++
					}
				})
			}
		}
		if told, ok := impl.CountAlgorithms(p); !ok || told != count {
			t.Errorf("CountAlgorithms(%v) = %v, %v: %d of %d states and %d requests", p, told, ok, count, n, m)
		}
	}
}

func TestCountAlgorithms(t *testing.T) {
	for _, c := range []struct {
		p     impl.Problem
		count int
	}{
		{problem(1, nil, []int{0}), 1},
		{problem(1, nil, []int{0}, []int{1}, []int{2}, []int{20}), 1},
		{problem(2, []int{1}, []int{0, 0}), 4},
		{problem(2, []int{1}, []int{0, -1}), 1},
		{problem(2, []int{1}, []int{0, 0}, []int{0, -1}), 4},
		{problem(2, []int{1}, []int{0, 0}, []int{0, 0}), 16},
		{problem(3, []int{1, 1, 1}, []int{0, 5, 0}), 27},
		{problem(3, []int{1, 1, 1}, []int{0, 5, -1}, []int{0, -1, 0}, []int{-1, -1, 20}), 64},
		{problem(4, []int{1, 1, 1, 1, 1, 1}, []int{-1, 0, 0, 0}, []int{-1, 0, -1, -1}, []int{0, 0, 0, 0}), 81 * 256},
		{problem(4, []int{9, 9, 9, 9, 9, 9}, []int{0, 0, 0, 0}, []int{1, 1, 1, 1}, []int{2, 2, 2, 2}, []int{20, 20, 20, 20}), 1 << 32},
	} {
		if n, ok := impl.CountAlgorithms(c.p); !ok || n != c.count {
			t.Errorf("CountAlgorithms(%v) = %v, %v", c.p, n, ok)
		}
	}
	for _, p := range manyProblems() {
		count := 1
		for range p.Move {
			for request := range p.Serve {
				choices := 0
				for state := range p.Move {
					if plainCanServe(p, request, state) {
						choices++
					}
				}
				count *= choices
			}
		}
		if n, ok := impl.CountAlgorithms(p); !ok || n != count {
			t.Errorf("CountAlgorithms(%v) = %v, %v", p, n, ok)
		}
	}
}

// algorithmsFor are the greedy and the lazy algorithm of a Problem, and others.
func algorithmsFor(p impl.Problem) [][][]int {
	all := [][][]int{plainNearest(p, false), plainNearest(p, true)}
	for seed := range 3 {
		all = append(all, seededAlgorithm(p, seed))
	}
	return all
}

func TestAlgorithmsOfManyProblems(t *testing.T) {
	check := func(p impl.Problem, sequences [][]int) {
		if next, ok := impl.GreedyAlgorithm(p); !isLists(next, ok, plainNearest(p, false)...) {
			t.Fatalf("GreedyAlgorithm(%v) = %v, %v", p, next, ok)
		}
		if next, ok := impl.LazyAlgorithm(p); !isLists(next, ok, plainNearest(p, true)...) {
			t.Fatalf("LazyAlgorithm(%v) = %v, %v", p, next, ok)
		}
		for _, next := range algorithmsFor(p) {
			if is, ok := impl.IsAlgorithm(p, next); !ok || !is {
				t.Fatalf("IsAlgorithm(%v, %v) = %v, %v", p, next, is, ok)
			}
			for start := range p.Move {
				for _, reqs := range sequences {
					want := plainStates(next, start, reqs)
					states, ok := impl.AlgorithmStates(p, next, start, reqs)
					if !isList(states, ok, want...) {
						t.Fatalf("AlgorithmStates(%v, %v, %d, %v) = %v, %v", p, next, start, reqs, states, ok)
					}
					cost, is := plainSchedule(p, start, reqs, want)
					least, _ := impl.LeastCost(p, start, reqs)
					if n, ok := impl.AlgorithmCost(p, next, start, reqs); !ok || !is || n != cost || n < least {
						t.Fatalf("AlgorithmCost(%v, %v, %d, %v) = %v, %v", p, next, start, reqs, n, ok)
					}
				}
			}
		}
	}
	onSmallProblems(func(p impl.Problem) { check(p, sequencesOver(len(p.Serve), 3)) })
	for seed, p := range manyProblems() {
		check(p, append(sequencesOver(len(p.Serve), 2), longSequences(len(p.Serve), seed)...))
	}
}

func TestNamedAlgorithms(t *testing.T) {
	for _, c := range []struct {
		p      impl.Problem
		greedy [][]int
		lazy   [][]int
	}{
		{problem(1, nil, []int{0}, []int{20}), [][]int{{0, 0}}, [][]int{{0, 0}}},
		// The least of several states with the same sum.
		{problem(2, []int{1}, []int{0, 1}), [][]int{{0}, {0}}, [][]int{{0}, {1}}},
		{problem(2, []int{1}, []int{1, 0}), [][]int{{0}, {1}}, [][]int{{0}, {1}}},
		{problem(2, []int{1}, []int{2, 0}), [][]int{{1}, {1}}, [][]int{{0}, {1}}},
		{problem(3, []int{2, 2, 2}, []int{-1, 3, 3}), [][]int{{1}, {1}, {2}}, [][]int{{1}, {1}, {2}}},
		{problem(3, []int{2, 2, 2}, []int{4, 2, 2}), [][]int{{0}, {1}, {2}}, [][]int{{0}, {1}, {2}}},
		{problem(3, []int{2, 3, 3}, []int{-1, 3, 2}), [][]int{{1}, {1}, {2}}, [][]int{{1}, {1}, {2}}},
		// A state in which nothing can be served, and requests that can be served in one state alone.
		{problem(3, []int{5, 9, 4}, []int{-1, 2, 3}, []int{-1, 0, -1}), [][]int{{1, 1}, {1, 1}, {2, 1}}, [][]int{{1, 1}, {1, 1}, {2, 1}}},
		{problem(3, []int{5, 9, 4}, []int{-1, 20, 3}, []int{-1, -1, 0}), [][]int{{2, 2}, {2, 2}, {2, 2}}, [][]int{{2, 2}, {1, 2}, {2, 2}}},
		{problem(4, []int{1, 2, 3, 1, 2, 1}, []int{20, 20, 20, 0}, []int{0, 20, -1, 20}), [][]int{{3, 0}, {3, 0}, {3, 0}, {3, 0}}, [][]int{{0, 0}, {1, 1}, {2, 0}, {3, 3}}},
	} {
		if next, ok := impl.GreedyAlgorithm(c.p); !isLists(next, ok, c.greedy...) {
			t.Errorf("GreedyAlgorithm(%v) = %v, %v", c.p, next, ok)
		}
		if next, ok := impl.LazyAlgorithm(c.p); !isLists(next, ok, c.lazy...) {
			t.Errorf("LazyAlgorithm(%v) = %v, %v", c.p, next, ok)
		}
	}
}

// plainWorst returns the first sequence with the greatest difference, and this.
func plainWorst(p impl.Problem, next [][]int, start int, length int) ([]int, int) {
	worst, most := []int(nil), math.MinInt
	eachChoice(length, countUp(len(p.Serve)), func(reqs []int) {
		cost, _ := plainSchedule(p, start, reqs, plainStates(next, start, reqs))
		if more := cost - slices.Min(plainWork(p, start, reqs)); more > most {
			worst, most = slices.Clone(reqs), more
		}
	})
	return worst, most
}

func TestWorstSequence(t *testing.T) {
	check := func(p impl.Problem, next [][]int, start int, length int) {
		worst, most := plainWorst(p, next, start, length)
		if l, n, ok := impl.WorstSequence(p, next, start, length); !isList(l, ok, worst...) || n != most {
			t.Fatalf("WorstSequence(%v, %v, %d, %d) = %v, %v, %v and not %v, %d", p, next, start, length, l, n, ok, worst, most)
		}
	}
	onSmallProblems(func(p impl.Problem) {
		for _, next := range algorithmsFor(p)[:3] {
			for length := range 6 {
				check(p, next, length%2, length)
			}
		}
	})
	for seed, p := range manyProblems() {
		for i, next := range algorithmsFor(p) {
			for length := range 5 {
				check(p, next, (seed+i)%len(p.Move), length)
			}
			if i == seed%5 {
				check(p, next, len(p.Move)-1, 5)
			}
		}
	}
}

func TestNamedWorstSequences(t *testing.T) {
	swap := problem(2, []int{1}, []int{-1, 0}, []int{0, -1})
	rent := problem(2, []int{10}, []int{3, 0}, []int{0, 0})
	buy, stay, rest := [][]int{{1, 1}, {1, 1}}, [][]int{{0, 0}, {1, 1}}, [][]int{{0, 1}, {1, 1}}
	for _, c := range []struct {
		p      impl.Problem
		next   [][]int
		start  int
		length int
		worst  []int
		most   int
	}{
		{swap, [][]int{{1, 0}, {1, 0}}, 0, 0, []int{}, 0},
		{swap, [][]int{{1, 0}, {1, 0}}, 1, 5, []int{0, 0, 0, 0, 0}, 0},
		{rent, buy, 0, 0, []int{}, 0},
		{rent, buy, 0, 1, []int{1}, 10},
		{rent, buy, 0, 2, []int{1, 1}, 10},
		{rent, buy, 1, 2, []int{0, 0}, 0},
		{rent, stay, 0, 3, []int{0, 0, 0}, 0},
		{rent, stay, 0, 4, []int{0, 0, 0, 0}, 2},
		{rent, stay, 0, 5, []int{0, 0, 0, 0, 0}, 5},
		{rent, rest, 0, 1, []int{1}, 10},
		{rent, rest, 0, 2, []int{0, 1}, 10},
		{rent, rest, 0, 3, []int{0, 0, 1}, 10},
		{rent, rest, 0, 4, []int{0, 0, 0, 1}, 10},
		{rent, rest, 0, 5, []int{0, 0, 0, 0, 1}, 12},
		{problem(1, nil, []int{20}, []int{0}), [][]int{{0, 0}}, 0, 5, []int{0, 0, 0, 0, 0}, 0},
	} {
		if l, n, ok := impl.WorstSequence(c.p, c.next, c.start, c.length); !isList(l, ok, c.worst...) || n != c.most {
			t.Errorf("WorstSequence(%v, %v, %d, %d) = %v, %v, %v", c.p, c.next, c.start, c.length, l, n, ok)
		}
	}
}

func TestProblemText(t *testing.T) {
	for _, c := range []struct {
		p    impl.Problem
		text string
	}{
		{problem(1, nil, []int{0}), "0 | 0"},
		{problem(1, nil, []int{20}, []int{7}), "0 | 20; 7"},
		{problem(2, []int{99}, []int{-1, 20}), "0 99; 99 0 | x 20"},
		{problem(2, []int{1}, []int{-1, 0}, []int{0, -1}), "0 1; 1 0 | x 0; 0 x"},
		{problem(2, []int{10}, []int{11, 1}, []int{10, 0}), "0 10; 10 0 | 11 1; 10 0"},
		{problem(3, []int{5, 9, 4}, []int{-1, -1, 1}, []int{1, -1, 12}), "0 5 9; 5 0 4; 9 4 0 | x x 1; 1 x 12"},
		{problem(4, []int{1, 2, 3, 1, 2, 1}, []int{0, -1, -1, 20}, []int{1, 2, 3, 4}, []int{-1, -1, -1, 0}, []int{10, 11, 12, 13}), "0 1 2 3; 1 0 1 2; 2 1 0 1; 3 2 1 0 | 0 x x 20; 1 2 3 4; x x x 0; 10 11 12 13"},
	} {
		if s, ok := impl.ProblemText(c.p); !ok || s != c.text {
			t.Errorf("ProblemText(%v) = %q, %v", c.p, s, ok)
		}
	}
	for _, p := range manyProblems() {
		kinds := []string{}
		for _, serve := range p.Serve {
			text := ""
			for state, cost := range serve {
				if state > 0 {
					text += " "
				}
				if cost < 0 {
					text += "x"
				} else {
					text += decimal(cost)
				}
			}
			kinds = append(kinds, text)
		}
		want := plainMetricText(impl.Metric{Dist: p.Move}) + " | " + strings.Join(kinds, "; ")
		if s, ok := impl.ProblemText(p); !ok || s != want {
			t.Errorf("ProblemText(%v) = %q, %v and not %q", p, s, ok, want)
		}
	}
}

// problemArgs are arguments for the functions of chapter 8.
type problemArgs struct {
	p       impl.Problem
	next    [][]int
	start   int
	reqs    []int
	states  []int
	w       []int
	request int
	length  int
}

// goodProblem are valid ones, of three states and two requests. All lists are windows with room behind them.
func goodProblem() problemArgs {
	return problemArgs{
		p: impl.Problem{
			Move:  [][]int{{55}, window(0, 3, 7), window(3, 0, 4), window(7, 4, 0), {66}}[1:4],
			Serve: [][]int{{77}, window(-1, 2, 9), window(-1, 0, -1), {88}}[1:3],
		},
		next:   [][]int{{99}, window(1, 1), window(2, 1), window(2, 1), {44}}[1:4],
		start:  0,
		reqs:   window(0, 1, 1, 0),
		states: window(2, 1, 1, 2),
		w:      window(3, 0, 4), request: 1,
		length: 3,
	}
}

// problemCall is a function, and which arguments it uses: p for the Problem, n for the algorithm, s for the start, q for the requests, t for the states, w for the numbers, r for the request and l for the length.
type problemCall struct {
	uses string
	call func(s problemArgs) (zero bool, ok bool)
}

// emptySteps says whether both lists are empty.
func emptySteps(to [][]int, grows [][]int, ok bool) (bool, bool) {
	return len(to) == 0 && len(grows) == 0, ok
}

var problemCalls = map[string]problemCall{
	"IsAlgorithm":     {"p", func(s problemArgs) (bool, bool) { return zeroOf(impl.IsAlgorithm(s.p, s.next)) }},
	"ScheduleCost":    {"psqt", func(s problemArgs) (bool, bool) { return zeroOf(impl.ScheduleCost(s.p, s.start, s.reqs, s.states)) }},
	"AlgorithmCost":   {"pnsq", func(s problemArgs) (bool, bool) { return zeroOf(impl.AlgorithmCost(s.p, s.next, s.start, s.reqs)) }},
	"AlgorithmStates": {"pnsq", func(s problemArgs) (bool, bool) { return emptyList(impl.AlgorithmStates(s.p, s.next, s.start, s.reqs)) }},
	"LeastCost":       {"psq", func(s problemArgs) (bool, bool) { return zeroOf(impl.LeastCost(s.p, s.start, s.reqs)) }},
	"BestSchedule":    {"psq", func(s problemArgs) (bool, bool) { return emptyList(impl.BestSchedule(s.p, s.start, s.reqs)) }},
	"WorkFunction":    {"psq", func(s problemArgs) (bool, bool) { return emptyList(impl.WorkFunction(s.p, s.start, s.reqs)) }},
	"NextWork":        {"pwr", func(s problemArgs) (bool, bool) { return emptyList(impl.NextWork(s.p, s.w, s.request)) }},
	"OffsetsOf":       {"ps", func(s problemArgs) (bool, bool) { return emptyList(impl.OffsetsOf(s.p, s.start)) }},
	"OffsetSteps":     {"ps", func(s problemArgs) (bool, bool) { return emptySteps(impl.OffsetSteps(s.p, s.start)) }},
	"GreedyAlgorithm": {"p", func(s problemArgs) (bool, bool) { return emptyList(impl.GreedyAlgorithm(s.p)) }},
	"LazyAlgorithm":   {"p", func(s problemArgs) (bool, bool) { return emptyList(impl.LazyAlgorithm(s.p)) }},
	"CountAlgorithms": {"p", func(s problemArgs) (bool, bool) { return zeroOf(impl.CountAlgorithms(s.p)) }},
	"WorstSequence": {"pnsl", func(s problemArgs) (bool, bool) {
		return emptyServe(impl.WorstSequence(s.p, s.next, s.start, s.length))
	}},
	"ProblemText": {"p", func(s problemArgs) (bool, bool) { return zeroOf(impl.ProblemText(s.p)) }},
}

// refuseProblem checks that all functions that use an argument fail.
func refuseProblem(t *testing.T, use string, s problemArgs, what any) {
	t.Helper()
	for name, c := range problemCalls {
		if strings.Contains(c.uses, use) {
			if zero, ok := c.call(s); ok || !zero {
				t.Errorf("%s takes %v: %v, %v", name, what, zero, ok)
			}
		}
	}
}

// takeProblem checks that all functions that use an argument take it.
func takeProblem(t *testing.T, use string, s problemArgs, what any) {
	t.Helper()
	for name, c := range problemCalls {
		if strings.Contains(c.uses, use) {
			if _, ok := c.call(s); !ok {
				t.Errorf("%s refuses %v", name, what)
			}
		}
	}
}

// refuseNoProblem checks that p is refused, with the arguments that fit nearly all, with none, and with those of one state.
func refuseNoProblem(t *testing.T, p impl.Problem, what any) {
	t.Helper()
	if impl.IsProblem(p) {
		t.Errorf("IsProblem takes %v", what)
	}
	one := problemArgs{next: [][]int{{0}}, w: []int{0}}
	all := one
	all.next, all.w = slices.Repeat([][]int{{0}}, min(9, len(p.Move))), make([]int, len(p.Move))
	for _, s := range []problemArgs{goodProblem(), one, all, {}} {
		s.p = p
		refuseProblem(t, "p", s, what)
	}
}

func TestChapter8RefusesWhatIsNoProblem(t *testing.T) {
	takeProblem(t, "", goodProblem(), "what is valid")
	// Moves that are no distances of a Metric, or of too many states.
	for _, m := range append(badTables(), symmetric(3, []int{-1, 7, 4}), symmetric(3, []int{3, 8, 4}), symmetric(3, []int{1, 99, 1}), symmetric(2, []int{-1}), symmetric(5, slices.Repeat([]int{1}, 10)), symmetric(6, slices.Repeat([]int{9}, 15))) {
		for _, n := range []int{1, 3, min(len(m.Dist), 9)} {
			refuseNoProblem(t, impl.Problem{Move: m.Dist, Serve: [][]int{make([]int, n)}}, m.Dist[:min(len(m.Dist), 6)])
			refuseNoProblem(t, impl.Problem{Move: m.Dist, Serve: [][]int{make([]int, n), make([]int, n)}}, m.Dist[:min(len(m.Dist), 6)])
		}
		refuseNoProblem(t, impl.Problem{Move: m.Dist}, m.Dist[:min(len(m.Dist), 6)])
	}
	refuseNoProblem(t, impl.Problem{}, "no states")
	refuseNoProblem(t, impl.Problem{Serve: [][]int{{}}}, "no states and a request")
	move := goodProblem().p.Move
	for _, serve := range [][][]int{
		nil, {}, {nil}, {{}}, {{0, 0, 0}, nil}, {{0}, {0, 0, 0}}, {{0, 0}}, {{0, 0, 0, 0}}, {{0, 0, 0}, {0, 0}}, {{0, 0, 0, 0}, {0, 0, 0}},
		{{-1, -1, -1}}, {{0, 0, 0}, {-1, -1, -1}}, {{-1, -1, -1}, {0, 0, 0}}, {{-1, -1, -1, 0}}, {make([]int, 100000)}, {{0, 0, 0}, make([]int, 100000)},
		slices.Repeat([][]int{{0, 0, 0}}, 5), slices.Repeat([][]int{{0, 0, 0}}, 6), slices.Repeat([][]int{{0, 0, 0}}, 100000), make([][]int, 4),
	} {
		refuseNoProblem(t, impl.Problem{Move: move, Serve: serve}, len(serve))
	}
	for _, cost := range append([]int{-3, 21, 99}, farInts...) {
		for request := range 2 {
			for state := range 3 {
				p := goodProblem().p
				p.Serve[request][state] = cost
				refuseNoProblem(t, p, p)
			}
		}
	}
	for _, cost := range []int{0, 1, 20} {
		s := goodProblem()
		s.p.Serve[0][1], s.p.Serve[1][1] = cost, cost
		takeProblem(t, "p", s, s.p)
	}
}

func TestChapter8RefusesWhatIsNoStateOrRequest(t *testing.T) {
	for _, number := range append([]int{-1, 3, 4}, farInts...) {
		s := goodProblem()
		s.start = number
		refuseProblem(t, "s", s, number)
		s.reqs, s.states, s.length = nil, nil, 0
		refuseProblem(t, "s", s, number)
		for at := range goodProblem().states {
			s := goodProblem()
			s.states[at] = number
			refuseProblem(t, "t", s, s.states)
		}
		for state := range 3 {
			for request := range 2 {
				s := goodProblem()
				s.next[state][request] = number
				refuseAlgorithm(t, s.next)
			}
		}
	}
	for _, number := range append([]int{-1, 2, 3}, farInts...) {
		s := goodProblem()
		s.request = number
		refuseProblem(t, "r", s, number)
		for at := range goodProblem().reqs {
			s := goodProblem()
			s.reqs[at] = number
			refuseProblem(t, "q", s, s.reqs)
		}
	}
	for start := range 3 {
		s := goodProblem()
		s.start = start
		takeProblem(t, "s", s, start)
	}
}

// refuseAlgorithm checks that a list is refused as an algorithm, but by IsAlgorithm, which tells that it is none.
func refuseAlgorithm(t *testing.T, next [][]int) {
	t.Helper()
	s := goodProblem()
	s.next = next
	refuseProblem(t, "n", s, next[:min(len(next), 5)])
	s.reqs, s.length = nil, 0
	refuseProblem(t, "n", s, next[:min(len(next), 5)])
	if is, ok := impl.IsAlgorithm(s.p, next); !ok || is {
		t.Errorf("IsAlgorithm of %v: %v, %v", next[:min(len(next), 5)], is, ok)
	}
}

func TestChapter8RefusesWhatIsNoAlgorithm(t *testing.T) {
	for _, next := range [][][]int{
		nil, {}, {nil, nil, nil}, {{}, {}, {}}, {{1, 1}}, {{1, 1}, {1, 1}}, {{1, 1}, {1, 1}, {1, 1}, {1, 1}}, {{1, 1}, {1, 1}, nil}, {nil, {1, 1}, {1, 1}},
		{{1}, {1, 1}, {1, 1}}, {{1, 1}, {1, 1}, {1}}, {{1, 1}, {1, 1, 1}, {1, 1}}, {{1, 1, 1}, {1, 1, 1}, {1, 1, 1}}, {{1}, {1}, {1}},
		{{0, 1}, {1, 1}, {1, 1}}, {{1, 0}, {1, 1}, {1, 1}}, {{1, 1}, {1, 2}, {1, 1}}, {{1, 1}, {1, 1}, {1, 0}}, {{1, 1}, {1, 1}, {2, 2}}, // a state in which the request cannot be served
		slices.Repeat([][]int{{1, 1}}, 100000), {make([]int, 100000), {1, 1}, {1, 1}}, {{1, 1}, {1, 1}, make([]int, 100000)},
	} {
		refuseAlgorithm(t, next)
	}
	for _, next := range [][][]int{{{1, 1}, {1, 1}, {1, 1}}, {{2, 1}, {2, 1}, {2, 1}}, {{1, 1}, {2, 1}, {1, 1}}} {
		s := goodProblem()
		s.next = next
		takeProblem(t, "n", s, next)
		if is, ok := impl.IsAlgorithm(s.p, next); !ok || !is {
			t.Errorf("IsAlgorithm of %v: %v, %v", next, is, ok)
		}
	}
}

func TestChapter8RefusesOtherSequencesAndSchedules(t *testing.T) {
	for _, length := range []int{61, 62, 100000} {
		s := goodProblem()
		s.reqs, s.states = slices.Repeat([]int{1}, length), slices.Repeat([]int{1}, length)
		refuseProblem(t, "q", s, length)
	}
	for _, length := range []int{0, 1, 59, 60} {
		s := goodProblem()
		s.reqs, s.states = slices.Repeat([]int{1}, length), slices.Repeat([]int{1}, length)
		takeProblem(t, "q", s, length)
	}
	for _, states := range [][]int{nil, {2}, {2, 1, 1}, {2, 1, 1, 2, 2}, {0, 1, 1, 2}, {2, 0, 1, 2}, {2, 2, 1, 2}, {2, 1, 2, 2}, {2, 1, 1, 0}, make([]int, 4), make([]int, 100000)} {
		s := goodProblem()
		s.states = states
		refuseProblem(t, "t", s, states[:min(len(states), 6)])
	}
	s := goodProblem()
	s.reqs = nil
	refuseProblem(t, "t", s, "states without requests")
	for _, length := range append([]int{-1, 6, 7, 60}, farInts...) {
		s := goodProblem()
		s.length = length
		refuseProblem(t, "l", s, length)
	}
	for length := range 6 {
		s := goodProblem()
		s.length = length
		takeProblem(t, "l", s, length)
	}
}

func TestChapter8RefusesOtherNumbers(t *testing.T) {
	bad := [][]int{nil, {}, {0}, {3, 0}, {3, 0, 4, 4}, {3, 0, 4, 0, 0}, make([]int, 100000), {-1, -1, -1}, {100001, 100001, 100001}, {4, 0, 4}, {3, 0, 5}, {3, 7, 3}, {0, 3, 8}, {8, 4, 0}}
	for _, number := range append([]int{-1, 100001}, farInts...) {
		for at := range 3 {
			w := []int{0, 0, 0}
			w[at] = number
			bad = append(bad, w)
		}
		if number < 0 || number > 100000 {
			bad = append(bad, []int{number, number, number})
		}
	}
	for _, w := range bad {
		s := goodProblem()
		s.w = w
		refuseProblem(t, "w", s, w[:min(len(w), 6)])
	}
	for _, w := range [][]int{{0, 0, 0}, {3, 0, 4}, {0, 3, 7}, {7, 4, 0}, {100000, 99997, 99993}, {100000, 100000, 100000}} {
		s := goodProblem()
		s.w = w
		takeProblem(t, "w", s, w)
	}
}

// sameProblem says whether arguments are those of goodProblem, with what is around them.
func sameProblem(s problemArgs) bool {
	all := func(s problemArgs) [][]int {
		lists := [][]int{around(s.reqs), around(s.states), around(s.w), {s.start, s.request, s.length, len(s.p.Move), len(s.p.Serve), len(s.next)}}
		for _, list := range slices.Concat(s.p.Move, s.p.Serve, s.next) {
			lists = append(lists, around(list))
		}
		return append(lists, s.p.Move[:4][3], s.p.Serve[:3][2], s.next[:4][3])
	}
	return sameLists(all(s), all(goodProblem()))
}

// Promise 13: arguments stay as they are, with the room behind them.
func TestChapter8ModifiesNoArgument(t *testing.T) {
	s := goodProblem()
	for name, c := range problemCalls {
		if _, ok := c.call(s); !ok {
			t.Errorf("%s fails", name)
		}
		if !sameProblem(s) {
			t.Fatalf("%s modifies %v", name, s)
		}
	}
	for start := range 3 {
		for length := range 6 {
			impl.WorstSequence(s.p, s.next, start, length)
		}
		impl.OffsetsOf(s.p, start)
		impl.WorkFunction(s.p, start, nil)
	}
	impl.NextWork(s.p, s.w, 0)
	impl.NextWork(s.p, s.p.Move[2], 0)
	impl.ScheduleCost(s.p, s.start, s.reqs[:2], s.states[:3])
	if !impl.IsProblem(s.p) || !sameProblem(s) {
		t.Fatal("an argument is modified", s)
	}
}

// problemListCalls are the functions of chapter 8 that return a list.
var problemListCalls = map[string]func(s problemArgs) ([]int, bool){
	"AlgorithmStates":            func(s problemArgs) ([]int, bool) { return impl.AlgorithmStates(s.p, s.next, s.start, s.reqs) },
	"BestSchedule":               func(s problemArgs) ([]int, bool) { return impl.BestSchedule(s.p, s.start, s.reqs) },
	"WorkFunction":               func(s problemArgs) ([]int, bool) { return impl.WorkFunction(s.p, s.start, s.reqs) },
	"WorkFunction, no requests":  func(s problemArgs) ([]int, bool) { return impl.WorkFunction(s.p, s.start, nil) },
	"NextWork":                   func(s problemArgs) ([]int, bool) { return impl.NextWork(s.p, s.w, s.request) },
	"NextWork, the same numbers": func(s problemArgs) ([]int, bool) { return impl.NextWork(s.p, s.p.Move[1], 1) },
	"WorstSequence": func(s problemArgs) ([]int, bool) {
		l, _, ok := impl.WorstSequence(s.p, s.next, s.start, s.length)
		return l, ok
	},
}

// problemListsCalls are those that return lists of lists.
var problemListsCalls = map[string]func(s problemArgs) ([][]int, bool){
	"OffsetsOf":       func(s problemArgs) ([][]int, bool) { return impl.OffsetsOf(s.p, s.start) },
	"GreedyAlgorithm": func(s problemArgs) ([][]int, bool) { return impl.GreedyAlgorithm(s.p) },
	"LazyAlgorithm":   func(s problemArgs) ([][]int, bool) { return impl.LazyAlgorithm(s.p) },
	"OffsetSteps": func(s problemArgs) ([][]int, bool) {
		to, grows, ok := impl.OffsetSteps(s.p, s.start)
		return append(to, grows...), ok
	},
	"OffsetSteps, from offset to offset": func(s problemArgs) ([][]int, bool) {
		to, grows, ok := impl.OffsetSteps(problem(2, []int{9}, []int{1, 0}, []int{0, 1}), 1)
		return slices.Concat(grows, to), ok
	},
}

// Promise 13: results have memory of their own, each list of them too.
func TestChapter8ResultsShareNoMemory(t *testing.T) {
	s := goodProblem()
	same := func() bool { return sameProblem(s) }
	for name, f := range problemListCalls {
		checkFresh(t, name, func() ([]int, bool) { return f(s) }, same)
	}
	for name, f := range problemListsCalls {
		checkFreshLists(t, name, func() ([][]int, bool) { return f(s) }, same)
	}
	one := problemArgs{p: impl.Problem{Move: [][]int{{0}}, Serve: [][]int{{0}}}}
	list, _ := impl.OffsetsOf(one.p, 0)
	to, grows, _ := impl.OffsetSteps(one.p, 0)
	scribble(list[0])
	if to[0][0] != 0 || grows[0][0] != 0 || one.p.Move[0][0] != 0 {
		t.Error("offsets share memory", to, grows, one.p)
	}
}
