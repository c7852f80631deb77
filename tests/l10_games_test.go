package tests

import (
	"fmt"
	"math"
	"slices"
	"strings"
	"testing"

	"loop.example/g01087/impl"
)

// gameCase is the game of a Problem and a start state: its positions, and the steps from each one as GameSteps tells them.
type gameCase struct {
	p         impl.Problem
	start     int
	positions [][2]int
	steps     [][][6]int
}

// plainGame returns a game with its positions in the order in which they are found. There are none if there are too many offsets.
func plainGame(p impl.Problem, start int) gameCase {
	g := gameCase{p: p, start: start}
	offsets, to, grows := plainOffsets(p, start)
	if len(offsets) > 400 {
		return g
	}
	g.positions = [][2]int{{start, 0}}
	index := map[[2]int]int{g.positions[0]: 0}
	for at := 0; at < len(g.positions); at++ {
		row := [][6]int{}
		for request := range p.Serve {
			for state := range p.Move {
				if !plainCanServe(p, request, state) {
					continue
				}
				from, o := g.positions[at][0], g.positions[at][1]
				position := [2]int{state, to[o][request]}
				if _, ok := index[position]; !ok {
					index[position] = len(g.positions)
					g.positions = append(g.positions, position)
				}
				row = append(row, [6]int{at, request, state, index[position], p.Move[from][state] + p.Serve[request][state], grows[o][request]})
			}
		}
		g.steps = append(g.steps, row)
	}
	return g
}

// text names a game in messages.
func (g gameCase) text() string { return fmt.Sprintf("%v, %d", g.p, g.start) }

// kinds is the number of requests.
func (g gameCase) kinds() int { return len(g.p.Serve) }

// choices returns the steps of a request at a position, which are next to each other.
func (g gameCase) choices(at int, request int) [][6]int {
	from, end := 0, 0
	for _, step := range g.steps[at] {
		if step[1] < request {
			from++
		}
		if step[1] <= request {
			end++
		}
	}
	return g.steps[at][from:end]
}

// gainOf returns the gain of a step for num/den.
func gainOf(step [6]int, num int, den int) int { return den*step[4] - num*step[5] }

// allowed returns, for each position and request, the least state that a list allows for num/den, or -1.
func (g gameCase) allowed(ratio impl.Frac, table []int) [][]int {
	strategy := [][]int{}
	for at := range g.steps {
		row := []int{}
		for request := range g.kinds() {
			least := -1
			for _, step := range g.choices(at, request) {
				if gainOf(step, ratio.Num, ratio.Den)+table[step[3]] <= table[at] {
					least = step[2]
					break
				}
			}
			row = append(row, least)
		}
		strategy = append(strategy, row)
	}
	return strategy
}

// isNumbers says whether a list has a number in 0..10^15 for each position.
func (g gameCase) isNumbers(table []int) bool {
	return len(table) == len(g.steps) && slices.Min(table) >= 0 && slices.Max(table) <= 1e15
}

// isCredit says whether a list is a credit.
func (g gameCase) isCredit(ratio impl.Frac, table []int) bool {
	if !g.isNumbers(table) {
		return false
	}
	return !slices.ContainsFunc(g.allowed(ratio, table), func(row []int) bool { return slices.Contains(row, -1) })
}

// leastCredit returns the least credit, and whether there is one: from zeros on, each number is as great as those of the step before require. None of a least credit is greater than the gains of as many steps as there are positions.
func (g gameCase) leastCredit(ratio impl.Frac) ([]int, bool) {
	most := len(g.steps) * ratio.Den * 119
	table := make([]int, len(g.steps))
	for {
		next := slices.Clone(table)
		for at := range table {
			for request := range g.kinds() {
				least := math.MaxInt
				for _, step := range g.choices(at, request) {
					least = min(least, gainOf(step, ratio.Num, ratio.Den)+table[step[3]])
				}
				next[at] = max(next[at], least)
			}
		}
		if slices.Equal(next, table) {
			return table, true
		}
		if slices.Max(next) > most {
			return nil, false
		}
		table = next
	}
}

// isAsks says whether a list has a request for each position.
func (g gameCase) isAsks(asks []int) bool {
	return len(asks) == len(g.steps) && slices.Min(asks) >= 0 && slices.Max(asks) < g.kinds()
}

// isHold says whether three lists are a hold.
func (g gameCase) isHold(ratio impl.Frac, asks []int, debts []int, delays []int) bool {
	if !g.isAsks(asks) || !g.isNumbers(debts) || !g.isNumbers(delays) {
		return false
	}
	for at, ask := range asks {
		for _, step := range g.choices(at, ask) {
			gain := gainOf(step, ratio.Num, ratio.Den)
			if debts[step[3]] > gain+debts[at] || delays[step[3]]+1 > len(g.steps)*(gain+step[5])+delays[at] {
				return false
			}
		}
	}
	return true
}

// leastHold returns the least debts and delays for asks, and whether there are any: none of them needs a way of more steps than there are positions.
func (g gameCase) leastHold(ratio impl.Frac, asks []int) (debts []int, delays []int, ok bool) {
	debts, delays = make([]int, len(asks)), make([]int, len(asks))
	for range len(asks) + 1 {
		nextDebts, nextDelays := slices.Clone(debts), slices.Clone(delays)
		for at, ask := range asks {
			for _, step := range g.choices(at, ask) {
				gain := gainOf(step, ratio.Num, ratio.Den)
				nextDebts[at] = max(nextDebts[at], debts[step[3]]-gain)
				nextDelays[at] = max(nextDelays[at], delays[step[3]]+1-len(asks)*(gain+step[5]))
			}
		}
		if slices.Equal(nextDebts, debts) && slices.Equal(nextDelays, delays) {
			return debts, delays, true
		}
		debts, delays = nextDebts, nextDelays
	}
	return nil, nil, false
}

// firstHold returns the first asks for which there are debts and delays, from all asks.
func (g gameCase) firstHold(ratio impl.Frac) (first []int) {
	eachChoice(len(g.steps), countUp(g.kinds()), func(asks []int) {
		if first == nil {
			if _, _, ok := g.leastHold(ratio, asks); ok {
				first = slices.Clone(asks)
			}
		}
	})
	return first
}

// playOf returns the requests that ask makes, the states in which a strategy serves them, the cost, the growth, and the last position.
func (g gameCase) playOf(ask func(place int, at int) int, strategy [][]int, length int) (reqs []int, states []int, cost int, growth int, at int) {
	for place := range length {
		request := ask(place, at)
		for _, step := range g.choices(at, request) {
			if step[2] == strategy[at][request] {
				reqs, states = append(reqs, request), append(states, step[2])
				cost, growth, at = cost+step[4], growth+step[5], step[3]
				break
			}
		}
	}
	return reqs, states, cost, growth, at
}

// strategies are some of a game: the first states, the last ones, those of the greedy algorithm, and seeded ones.
func (g gameCase) strategies() [][][]int {
	first, last, greedy := [][]int{}, [][]int{}, [][]int{}
	nearest := plainNearest(g.p, false)
	for at, position := range g.positions {
		one, two := []int{}, []int{}
		for request := range g.kinds() {
			choices := g.choices(at, request)
			one, two = append(one, choices[0][2]), append(two, choices[len(choices)-1][2])
		}
		first, last, greedy = append(first, one), append(last, two), append(greedy, slices.Clone(nearest[position[0]]))
	}
	all := [][][]int{first, last, greedy}
	for seed := range 3 {
		strategy := [][]int{}
		numbers := statesOf(7*seed+1, len(g.positions)*g.kinds())
		for at := range g.positions {
			row := []int{}
			for request := range g.kinds() {
				choices := g.choices(at, request)
				row = append(row, choices[int(numbers[at*g.kinds()+request]/16)%len(choices)][2])
			}
			strategy = append(strategy, row)
		}
		all = append(all, strategy)
	}
	return all
}

// withGames calls check with the games of at most a number of positions.
func withGames(t *testing.T, most int, check func(g gameCase)) {
	t.Helper()
	count := 0
	visit := func(p impl.Problem, start int) {
		if g := plainGame(p, start); len(g.positions) > 0 && len(g.positions) <= most {
			check(g)
			count++
		}
	}
	turn := 0
	onSmallProblems(func(p impl.Problem) {
		visit(p, turn%2)
		turn++
	})
	for _, p := range manyProblems() {
		for start := range p.Move {
			visit(p, start)
		}
	}
	for _, c := range namedGames {
		visit(c.p, c.start)
	}
	if count < 500 {
		t.Error("only", count)
	}
}

// namedGame has a Problem and a start state, the number of positions and the ratio.
type namedGame struct {
	p         impl.Problem
	start     int
	positions int
	ratio     impl.Frac
}

// Deterministic paging with k of k+1 pages has the ratio k, and two states with costs of 0 and 1 that are far from each other have one of nearly 3.
var namedGames = []namedGame{
	{problem(1, nil, []int{0}), 0, 1, over(0, 1)},
	{problem(1, nil, []int{20}), 0, 1, over(1, 1)},
	{problem(1, nil, []int{0}, []int{20}, []int{7}, []int{0}), 0, 1, over(1, 1)},
	{problem(2, []int{1}, []int{-1, 0}), 1, 1, over(0, 1)},
	{problem(2, []int{1}, []int{-1, 0}), 0, 2, over(0, 1)},
	{problem(2, []int{1}, []int{-1, 0}, []int{0, -1}), 0, 2, over(1, 1)},
	{problem(2, []int{3}, []int{1, 0}), 0, 13, over(0, 1)},
	{problem(2, []int{3}, []int{1, 0}, []int{0, -1}), 0, 13, over(11, 6)},
	{problem(2, []int{1}, []int{0, 1}, []int{1, 0}), 0, 6, over(2, 1)},
	{problem(2, []int{10}, []int{1, 0}, []int{0, 1}), 0, 42, over(29, 10)},
	{problem(3, []int{1, 1, 1}, []int{-1, 0, 0}, []int{0, -1, 0}, []int{0, 0, -1}), 0, 15, over(2, 1)},
	{problem(4, []int{1, 1, 1, 1, 1, 1}, []int{-1, 0, 0, 0}, []int{0, -1, 0, 0}, []int{0, 0, -1, 0}, []int{0, 0, 0, -1}), 0, 52, over(3, 1)},
	{problem(4, []int{1, 1, 1, 1, 1, 1}, []int{2, 0, 0, 0}, []int{0, 2, 0, 0}, []int{0, 0, 2, 0}, []int{0, 0, 0, 2}), 0, 56, over(3, 1)},
	{problem(4, []int{1, 1, 1, 1, 1, 1}, []int{0, -1, -1, -1}, []int{-1, 0, -1, -1}, []int{-1, -1, 0, -1}, []int{-1, -1, -1, 0}), 0, 4, over(1, 1)},
	{problem(3, []int{2, 2, 2}, []int{0, 1, 0}, []int{0, 0, 1}, []int{0, 0, 1}, []int{1, 0, 0}), 0, 57, over(4, 1)},
	{problem(3, []int{2, 1, 2}, []int{0, 0, 1}, []int{1, 0, 0}, []int{1, 1, 1}, []int{0, 1, 0}), 1, 39, over(7, 2)},
	// Ratios with a Den of 99, 100 and 101, and with great terms.
	{problem(2, []int{5}, []int{4, 16}, []int{19, 17}, []int{2, 2}), 0, 12, over(107, 99)},
	{problem(4, []int{6, 3, 3, 4, 3, 5}, []int{13, 7, 17, -1}, []int{13, 12, 13, -1}, []int{-1, 14, 1, -1}), 3, 42, over(107, 100)},
	{problem(3, []int{5, 8, 10}, []int{4, 10, -1}, []int{-1, 10, 8}, []int{9, -1, -1}), 2, 24, over(123, 100)},
	{problem(2, []int{67}, []int{-1, 5}, []int{-1, 6}, []int{9, 3}, []int{4, -1}), 0, 47, over(165, 101)},
	{problem(3, []int{67, 57, 96}, []int{-1, 14, -1}, []int{-1, -1, 10}, []int{-1, 0, 16}), 0, 38, over(189, 101)},
	{problem(2, []int{99}, []int{15, -1}, []int{18, 11}, []int{-1, 13}), 0, 59, over(710, 519)},
	{problem(2, []int{58}, []int{19, 15}, []int{14, -1}, []int{-1, 13}), 0, 59, over(675, 563)},
	// Exactly MaxPositions.
	{problem(3, []int{5, 8, 5}, []int{0, 2, 0}, []int{2, 0, 2}, []int{0, 2, 2}, []int{0, 0, 0}), 1, 60, over(13, 5)},
	{problem(3, []int{6, 6, 3}, []int{9, 2, 2}, []int{0, 5, 8}), 2, 60, over(16, 9)},
	{problem(4, []int{6, 3, 5, 3, 4, 6}, []int{4, 2, 0, 0}, []int{5, 0, 6, 0}), 2, 60, over(0, 1)},
	{problem(4, []int{6, 5, 4, 6, 4, 4}, []int{0, 0, 0, 1}, []int{9, 4, 0, 8}, []int{13, 0, 9, 11}), 0, 60, over(17, 9)},
	{problem(3, []int{3, 2, 2}, []int{1, 0, -1}, []int{0, 0, 1}, []int{1, 1, 1}, []int{0, 1, 0}), 2, 60, over(3, 1)},
	{problem(4, []int{5, 5, 4, 6, 3, 5}, []int{3, 11, 0, 0}, []int{15, 0, 7, 14}, []int{11, 14, 4, 18}), 2, 60, over(25, 16)},
}

// greatGames have more positions than MaxPositions, the number of which is told, or, with 0, more offsets than MaxOffsets.
var greatGames = []namedGame{
	{p: problem(3, []int{10, 7, 5}, []int{-1, -1, 2}, []int{-1, 2, 1}, []int{0, 1, -1}, []int{-1, 0, -1}), start: 0, positions: 61},
	{p: problem(2, []int{89}, []int{8, 2}), start: 0, positions: 61},
	{p: problem(4, []int{20, 18, 16, 13, 18, 18}, []int{1, 0, 9, 2}), start: 2, positions: 61},
	{p: problem(2, []int{15}, []int{5, 0}, []int{10, 16}, []int{2, -1}), start: 1, positions: 62},
	{p: problem(2, []int{15}, []int{3, 8}, []int{1, 0}, []int{0, 9}, []int{16, 5}), start: 1, positions: 62},
	{p: problem(3, []int{78, 99, 76}, []int{18, 8, 8}, []int{0, 0, 2}), start: 0, positions: 1200},
	{p: problem(3, []int{94, 93, 81}, []int{0, 10, 8}, []int{8, 4, 0}), start: 0},
	{p: problem(4, []int{84, 87, 55, 64, 63, 79}, []int{10, 5, 0, 0}, []int{15, 15, 0, 18}), start: 0},
}

func TestChapter10Constants(t *testing.T) {
	if impl.MaxPositions != 60 || impl.MaxGameNum != 1000 || impl.MaxGameDen != 100 {
		t.Error(impl.MaxPositions, impl.MaxGameNum, impl.MaxGameDen)
	}
}

// Promise 10: GameSteps leads through the positions of PositionsOf to the next offsets of OffsetsOf.
func TestPositionsAndSteps(t *testing.T) {
	withGames(t, 60, func(g gameCase) {
		positions, ok := impl.PositionsOf(g.p, g.start)
		if !ok || !slices.Equal(positions, g.positions) {
			t.Fatalf("PositionsOf(%s) = %v, %v and not %v", g.text(), positions, ok, g.positions)
		}
		steps, ok := impl.GameSteps(g.p, g.start)
		if !ok || !slices.Equal(steps, slices.Concat(g.steps...)) {
			t.Fatalf("GameSteps(%s) = %v, %v and not %v", g.text(), steps, ok, g.steps)
		}
		to, grows, ok := impl.OffsetSteps(g.p, g.start)
		for _, step := range steps {
			from, next := positions[step[0]], positions[step[3]]
			if !ok || next != [2]int{step[2], to[from[1]][step[1]]} || step[5] != grows[from[1]][step[1]] || step[4] != g.p.Move[from[0]][step[2]]+g.p.Serve[step[1]][step[2]] {
				t.Fatalf("GameSteps(%s) has %v", g.text(), step)
			}
		}
	})
}

func TestNamedPositions(t *testing.T) {
	for _, c := range []struct {
		p         impl.Problem
		start     int
		positions [][2]int
		steps     [][6]int
	}{
		{problem(1, nil, []int{0}), 0, [][2]int{{0, 0}}, [][6]int{{0, 0, 0, 0, 0, 0}}},
		{problem(1, nil, []int{20}, []int{7}), 0, [][2]int{{0, 0}}, [][6]int{{0, 0, 0, 0, 20, 20}, {0, 1, 0, 0, 7, 7}}},
		{problem(2, []int{1}, []int{-1, 0}), 1, [][2]int{{1, 0}}, [][6]int{{0, 0, 1, 0, 0, 0}}},
		{problem(2, []int{1}, []int{-1, 0}), 0, [][2]int{{0, 0}, {1, 1}}, [][6]int{{0, 0, 1, 1, 1, 1}, {1, 0, 1, 1, 0, 0}}},
		// The start position is found first, although others come to it later; both states are found for each offset.
		{
			problem(2, []int{1}, []int{0, 1}, []int{1, 0}), 1,
			[][2]int{{1, 0}, {0, 1}, {1, 1}, {0, 0}, {0, 2}, {1, 2}},
			[][6]int{
				{0, 0, 0, 1, 1, 1}, {0, 0, 1, 2, 1, 1}, {0, 1, 0, 3, 2, 0}, {0, 1, 1, 0, 0, 0},
				{1, 0, 0, 4, 0, 0}, {1, 0, 1, 5, 2, 0}, {1, 1, 0, 3, 1, 0}, {1, 1, 1, 0, 1, 0},
				{2, 0, 0, 4, 1, 0}, {2, 0, 1, 5, 1, 0}, {2, 1, 0, 3, 2, 0}, {2, 1, 1, 0, 0, 0},
				{3, 0, 0, 1, 0, 1}, {3, 0, 1, 2, 2, 1}, {3, 1, 0, 3, 1, 0}, {3, 1, 1, 0, 1, 0},
				{4, 0, 0, 4, 0, 0}, {4, 0, 1, 5, 2, 0}, {4, 1, 0, 1, 1, 1}, {4, 1, 1, 2, 1, 1},
				{5, 0, 0, 4, 1, 0}, {5, 0, 1, 5, 1, 0}, {5, 1, 0, 1, 2, 1}, {5, 1, 1, 2, 0, 1},
			},
		},
		{
			problem(3, []int{3, 7, 4}, []int{-1, 2, 9}, []int{-1, 0, -1}), 2,
			[][2]int{{2, 0}, {1, 1}, {2, 1}, {1, 2}, {2, 2}},
			[][6]int{
				{0, 0, 1, 1, 6, 6}, {0, 0, 2, 2, 9, 6}, {0, 1, 1, 3, 4, 4}, {1, 0, 1, 3, 2, 2}, {1, 0, 2, 4, 13, 2}, {1, 1, 1, 3, 0, 0},
				{2, 0, 1, 3, 6, 2}, {2, 0, 2, 4, 9, 2}, {2, 1, 1, 3, 4, 0}, {3, 0, 1, 3, 2, 2}, {3, 0, 2, 4, 13, 2}, {3, 1, 1, 3, 0, 0},
				{4, 0, 1, 3, 6, 2}, {4, 0, 2, 4, 9, 2}, {4, 1, 1, 3, 4, 0},
			},
		},
	} {
		if positions, ok := impl.PositionsOf(c.p, c.start); !ok || !slices.Equal(positions, c.positions) {
			t.Errorf("PositionsOf(%v, %d) = %v, %v", c.p, c.start, positions, ok)
		}
		if steps, ok := impl.GameSteps(c.p, c.start); !ok || !slices.Equal(steps, c.steps) {
			t.Errorf("GameSteps(%v, %d) = %v, %v", c.p, c.start, steps, ok)
		}
	}
}

func TestNamedGameRatios(t *testing.T) {
	for _, c := range namedGames {
		positions, one := impl.PositionsOf(c.p, c.start)
		ratio, two := impl.GameRatio(c.p, c.start)
		if !one || !two || len(positions) != c.positions || ratio != c.ratio {
			t.Errorf("%v, %d: %d positions and the ratio %v, %v, %v", c.p, c.start, len(positions), ratio, one, two)
		}
		asks, debts, delays, ok := impl.FindHold(c.p, c.start)
		if is := c.ratio.Num > 0; ok != is || !is && len(asks)+len(debts)+len(delays) > 0 {
			t.Errorf("FindHold(%v, %d) = %v, %v, %v, %v", c.p, c.start, asks, debts, delays, ok)
		}
		table, ok := impl.FindCredit(c.p, c.start, ratio)
		if is := c.ratio.Den <= 100; ok != is || !is && len(table) > 0 {
			t.Errorf("FindCredit(%v, %d, %v) = %v, %v", c.p, c.start, ratio, table, ok)
		}
	}
}

func TestNamedCreditsAndHolds(t *testing.T) {
	for _, c := range []struct {
		p      impl.Problem
		start  int
		ratio  impl.Frac
		credit []int
		asks   []int
		debts  []int
		delays []int
	}{
		{problem(1, nil, []int{20}), 0, over(1, 1), []int{0}, []int{0}, []int{0}, []int{0}},
		{problem(1, nil, []int{0}, []int{20}, []int{7}, []int{0}), 0, over(1, 1), []int{0}, []int{1}, []int{0}, []int{0}},
		{problem(2, []int{1}, []int{-1, 0}, []int{0, -1}), 0, over(1, 1), []int{0, 0}, []int{0, 1}, []int{0, 0}, []int{0, 0}},
		{problem(2, []int{1}, []int{-1, 0}, []int{0, -1}), 1, over(1, 1), []int{0, 0}, []int{1, 0}, []int{0, 0}, []int{0, 0}},
		{problem(2, []int{1}, []int{0, 1}, []int{1, 0}), 0, over(2, 1), []int{0, 1, 1, 1, 1, 0}, []int{1, 0, 1, 0, 1, 0}, []int{1, 0, 0, 0, 0, 1}, []int{1, 0, 0, 0, 0, 1}},
		{
			problem(2, []int{3}, []int{1, 0}, []int{0, -1}), 0, over(11, 6), []int{15, 20, 33, 25, 33, 30, 33, 24, 22, 18, 11, 18, 0},
			[]int{0, 0, 0, 0, 0, 0, 1, 0, 1, 0, 1, 0, 1}, []int{15, 10, 22, 5, 11, 0, 0, 6, 8, 12, 19, 12, 30}, []int{159, 106, 262, 53, 131, 0, 0, 6, 56, 83, 186, 83, 316},
		},
		{
			problem(3, []int{1, 1, 1}, []int{-1, 0, 0}, []int{0, -1, 0}, []int{0, 0, -1}), 0, over(2, 1), []int{0, 1, 1, 1, 1, 1, 0, 1, 0, 1, 1, 1, 1, 1, 1},
			[]int{0, 1, 2, 2, 1, 0, 2, 0, 1, 1, 0, 1, 2, 0, 2}, []int{1, 0, 0, 0, 0, 0, 1, 0, 1, 0, 0, 0, 0, 0, 0}, []int{1, 0, 0, 0, 0, 0, 1, 0, 1, 0, 0, 0, 0, 0, 0},
		},
	} {
		ratio, ok := impl.GameRatio(c.p, c.start)
		if !ok || ratio != c.ratio {
			t.Errorf("GameRatio(%v, %d) = %v, %v", c.p, c.start, ratio, ok)
		}
		if table, ok := impl.FindCredit(c.p, c.start, c.ratio); !isList(table, ok, c.credit...) {
			t.Errorf("FindCredit(%v, %d, %v) = %v, %v", c.p, c.start, c.ratio, table, ok)
		}
		asks, debts, delays, ok := impl.FindHold(c.p, c.start)
		if !isLists([][]int{asks, debts, delays}, ok, c.asks, c.debts, c.delays) {
			t.Errorf("FindHold(%v, %d) = %v, %v, %v, %v", c.p, c.start, asks, debts, delays, ok)
		}
	}
	// A ratio of 0 leaves costs for the first requests alone.
	for _, c := range []struct {
		p      impl.Problem
		credit []int
	}{
		{problem(1, nil, []int{0}), []int{0}},
		{problem(2, []int{1}, []int{-1, 0}), []int{1, 0}},
		{problem(2, []int{99}, []int{-1, 0}), []int{99, 0}},
		{problem(2, []int{3}, []int{1, 0}), []int{3, 3, 0, 3, 0, 3, 0, 3, 0, 3, 0, 3, 0}},
	} {
		if table, ok := impl.FindCredit(c.p, 0, over(0, 1)); !isList(table, ok, c.credit...) {
			t.Errorf("FindCredit(%v, 0, 0) = %v, %v", c.p, table, ok)
		}
	}
}

// compareRatios is below, equal to or above 0 as a is less than, equal to or greater than b.
func compareRatios(a impl.Frac, b impl.Frac) int { return exact(a).Cmp(exact(b)) }

// nearRatios returns the ratios next to one with terms that FindCredit takes, below it if there is one, and above it.
func nearRatios(ratio impl.Frac) []impl.Frac {
	near := []impl.Frac{}
	for _, side := range []int{-1, 1} {
		best, found := impl.Frac{}, false
		for den := 1; den <= 100; den++ {
			for num := max(0, ratio.Num*den/ratio.Den-1); num <= ratio.Num*den/ratio.Den+1; num++ {
				a := over(num, den)
				if isPlainFrac(a) && compareRatios(a, ratio) == side && (!found || compareRatios(a, best) == -side) {
					best, found = a, true
				}
			}
		}
		if found {
			near = append(near, best)
		}
	}
	return near
}

// sayCredit checks what is told of a list that may be a credit.
func sayCredit(t *testing.T, g gameCase, ratio impl.Frac, table []int) {
	t.Helper()
	want := g.isCredit(ratio, table)
	if is, ok := impl.IsCredit(g.p, g.start, ratio, table); !ok || is != want {
		t.Fatalf("IsCredit(%s, %v, %v) = %v, %v", g.text(), ratio, table, is, ok)
	}
	strategy, ok := impl.CreditStrategy(g.p, g.start, ratio, table)
	if ok != want || !ok && len(strategy) > 0 || ok && !sameLists(strategy, g.allowed(ratio, table)) {
		t.Fatalf("CreditStrategy(%s, %v, %v) = %v, %v", g.text(), ratio, table, strategy, ok)
	}
}

// checkCredit checks what is told of a ratio: whether there is a credit, the least one, and which lists are one.
func checkCredit(t *testing.T, g gameCase, least impl.Frac, ratio impl.Frac) {
	t.Helper()
	table, ok := impl.FindCredit(g.p, g.start, ratio)
	if is := compareRatios(ratio, least) >= 0 && ratio.Num <= 1000 && ratio.Den <= 100; ok != is || !ok && len(table) > 0 {
		t.Fatalf("FindCredit(%s, %v) = %v, %v with the ratio %v", g.text(), ratio, table, ok, least)
	}
	zeros := make([]int, len(g.steps))
	sayCredit(t, g, ratio, zeros)
	sayCredit(t, g, ratio, slices.Repeat([]int{1e15}, len(g.steps)))
	if compareRatios(ratio, least) < 0 {
		return
	}
	want, _ := g.leastCredit(ratio)
	if ok && !slices.Equal(table, want) {
		t.Fatalf("FindCredit(%s, %v) = %v and not %v", g.text(), ratio, table, want)
	}
	if !g.isCredit(ratio, want) {
		t.Fatalf("the tests find no credit for %s, %v but %v", g.text(), ratio, want)
	}
	sayCredit(t, g, ratio, want)
	seed := len(want) + ratio.Num
	places := []int{0, seed % len(want), len(want) - 1}
	for _, at := range places {
		for _, change := range []int{-1, 1, 7} {
			other := slices.Clone(want)
			other[at] += change
			sayCredit(t, g, ratio, other)
		}
	}
	most := 1000000000000000 - slices.Max(want)
	for _, more := range []int{1, most, most + 1, -1} {
		other := slices.Clone(want)
		for at := range other {
			other[at] += more
		}
		sayCredit(t, g, ratio, other)
	}
	for _, other := range [][]int{nil, want[1:], append(slices.Clone(want), 0), append(slices.Clone(want), want...)} {
		sayCredit(t, g, ratio, other)
	}
}

// Promise 10: there is a credit for GameRatio and each greater ratio, and for no smaller one, and FindCredit returns the least one.
func TestCreditsOfManyGames(t *testing.T) {
	withGames(t, 60, func(g gameCase) {
		least, ok := impl.GameRatio(g.p, g.start)
		if !ok {
			t.Fatalf("GameRatio(%s) = %v, %v", g.text(), least, ok)
		}
		ratios := append(nearRatios(least), ratiosAbout(least, true)...)
		if len(g.positions) > 8 {
			ratios = append(nearRatios(least), least, over(1, 2), over(1000, 99), over(1001, 100), over(300, 101))
		}
		for _, ratio := range ratios {
			checkCredit(t, g, least, ratio)
		}
	})
}

// From zeros on, numbers grow beyond what those of a least credit can be, if there is none.
func TestNoCreditsOfSmallGames(t *testing.T) {
	withGames(t, 7, func(g gameCase) {
		for _, ratio := range []impl.Frac{over(0, 1), over(1, 2), over(9, 10), over(1, 1), over(10, 9), over(3, 2), over(2, 1), over(11, 5)} {
			want, is := g.leastCredit(ratio)
			if table, ok := impl.FindCredit(g.p, g.start, ratio); ok != is || !slices.Equal(table, want) {
				t.Fatalf("FindCredit(%s, %v) = %v, %v and not %v, %v", g.text(), ratio, table, ok, want, is)
			}
		}
	})
}

// sayHold checks what is told of lists that may be a hold.
func sayHold(t *testing.T, g gameCase, ratio impl.Frac, asks []int, debts []int, delays []int) {
	t.Helper()
	want := g.isHold(ratio, asks, debts, delays)
	if is, ok := impl.IsHold(g.p, g.start, ratio, asks, debts, delays); !ok || is != want {
		t.Fatalf("IsHold(%s, %v, %v, %v, %v) = %v, %v", g.text(), ratio, asks, debts, delays, is, ok)
	}
}

// checkHold checks which lists are a hold, near some that are one.
func checkHold(t *testing.T, g gameCase, ratio impl.Frac, asks []int, debts []int, delays []int) {
	t.Helper()
	sayHold(t, g, ratio, asks, debts, delays)
	seed := len(asks) + ratio.Num
	for _, at := range []int{0, seed % len(asks), len(asks) - 1} {
		for _, change := range []int{-1, 1, 7} {
			other := slices.Clone(debts)
			other[at] += change
			sayHold(t, g, ratio, asks, other, delays)
			other = slices.Clone(delays)
			other[at] += change
			sayHold(t, g, ratio, asks, debts, other)
		}
		for request := -1; request <= g.kinds(); request++ {
			other := slices.Clone(asks)
			other[at] = request
			sayHold(t, g, ratio, other, debts, delays)
			if !g.isAsks(other) {
				continue
			}
			if least, late, ok := g.leastHold(ratio, other); ok {
				sayHold(t, g, ratio, other, least, late)
			}
		}
	}
	for _, table := range [][]int{debts, delays} {
		most := 1000000000000000 - slices.Max(table)
		for _, more := range []int{1, most, most + 1, -1} {
			other := slices.Clone(table)
			for at := range other {
				other[at] += more
			}
			sayHold(t, g, ratio, asks, other, delays)
			sayHold(t, g, ratio, asks, debts, other)
		}
	}
	for _, table := range [][]int{asks, debts, delays} {
		for _, other := range [][]int{nil, table[1:], append(slices.Clone(table), 0), append(slices.Clone(table), table...)} {
			sayHold(t, g, ratio, other, debts, delays)
			sayHold(t, g, ratio, asks, other, delays)
			sayHold(t, g, ratio, asks, debts, other)
		}
	}
}

// Promise 10: there is a hold for GameRatio, with the least debts and delays for its asks, and the same asks hold each smaller ratio.
func TestHoldsOfManyGames(t *testing.T) {
	withGames(t, 60, func(g gameCase) {
		ratio, _ := impl.GameRatio(g.p, g.start)
		asks, debts, delays, ok := impl.FindHold(g.p, g.start)
		if ok != (ratio.Num > 0) || !ok && len(asks)+len(debts)+len(delays) > 0 {
			t.Fatalf("FindHold(%s) = %v, %v, %v, %v", g.text(), asks, debts, delays, ok)
		}
		if !ok {
			zeros := make([]int, len(g.steps))
			sayHold(t, g, over(0, 1), zeros, zeros, zeros)
			sayHold(t, g, over(1, 1), zeros, zeros, zeros)
			return
		}
		least, late, is := g.leastHold(ratio, asks)
		if !is || !slices.Equal(debts, least) || !slices.Equal(delays, late) || !g.isHold(ratio, asks, debts, delays) {
			t.Fatalf("FindHold(%s) = %v, %v, %v and not %v, %v", g.text(), asks, debts, delays, least, late)
		}
		checkHold(t, g, ratio, asks, debts, delays)
		for _, other := range append(nearRatios(ratio), over(1, 2), over(0, 1), over(100000000, 99999)) {
			least, late, is := g.leastHold(other, asks)
			if smaller := compareRatios(other, ratio) < 0; is != (smaller && other.Num > 0) && other.Num > 0 || is && !smaller {
				t.Fatalf("the asks %v hold %v for %s", asks, other, g.text())
			}
			if is {
				sayHold(t, g, other, asks, least, late)
			}
			sayHold(t, g, other, asks, debts, delays)
		}
	})
}

// The asks that FindHold returns are the first ones of all, and no asks hold a greater ratio: then there is a credit for one and a hold for another one, which is not greater.
func TestFirstAsksOfSmallGames(t *testing.T) {
	withGames(t, 13, func(g gameCase) {
		if math.Pow(float64(g.kinds()), float64(len(g.steps))) > 8200 {
			return
		}
		ratio, _ := impl.GameRatio(g.p, g.start)
		if above := nearRatios(ratio); g.firstHold(above[len(above)-1]) != nil {
			t.Fatalf("there is a hold for %v for %s", above, g.text())
		}
		asks, _, _, ok := impl.FindHold(g.p, g.start)
		if ratio.Num > 0 && !isList(asks, ok, g.firstHold(ratio)...) {
			t.Fatalf("FindHold(%s) = %v, %v and not %v", g.text(), asks, ok, g.firstHold(ratio))
		}
	})
}

// No ask of a hold can be replaced by a lesser one if those before it stay, whatever is asked for in one more position behind it.
func TestFirstAsksOfGreatGames(t *testing.T) {
	for _, c := range namedGames {
		g := plainGame(c.p, c.start)
		asks, _, _, ok := impl.FindHold(c.p, c.start)
		if !ok {
			continue
		}
		for at := range asks {
			for request := range asks[at] {
				other := slices.Clone(asks)
				other[at] = request
				for behind := at; behind < min(at+4, len(asks)); behind++ {
					for last := range g.kinds() {
						if behind > at {
							other[behind] = last
						}
						if _, _, is := g.leastHold(c.ratio, other); is {
							t.Fatalf("FindHold(%s) = %v, but there is %v", g.text(), asks, other)
						}
					}
					if behind > at {
						other[behind] = asks[behind]
					}
				}
			}
		}
	}
}

// Promise 10: the strategy of a credit never costs more than it allows.
func TestStrategiesOfCredits(t *testing.T) {
	seed := 0
	withGames(t, 60, func(g gameCase) {
		least, _ := impl.GameRatio(g.p, g.start)
		for _, ratio := range append(nearRatios(least), over(7, 1), least) {
			table, ok := impl.FindCredit(g.p, g.start, ratio)
			if !ok {
				continue
			}
			strategy, ok := impl.CreditStrategy(g.p, g.start, ratio, table)
			is, fine := impl.IsStrategy(g.p, g.start, strategy)
			if !ok || !is || !fine {
				t.Fatalf("CreditStrategy(%s, %v, %v) = %v, %v: %v, %v", g.text(), ratio, table, strategy, ok, is, fine)
			}
			seed++
			for _, reqs := range append(sequencesOver(g.kinds(), 2), longSequences(g.kinds(), seed)...) {
				_, cost, ok := impl.StrategyRun(g.p, g.start, strategy, reqs)
				if work := slices.Min(plainWork(g.p, g.start, reqs)); !ok || ratio.Den*cost > ratio.Num*work+table[0] {
					t.Fatalf("the strategy %v of %v, %v for %s costs %d on %v, and %d do", strategy, ratio, table, g.text(), cost, reqs, work)
				}
			}
		}
	})
}

// checkStrategy checks the runs of a strategy, those of asks too.
func checkStrategy(t *testing.T, g gameCase, strategy [][]int, seed int) {
	t.Helper()
	is, ok := impl.IsStrategy(g.p, g.start, strategy)
	if !ok || !is {
		t.Fatalf("IsStrategy(%s, %v) = %v, %v", g.text(), strategy, is, ok)
	}
	for _, reqs := range append(sequencesOver(g.kinds(), 2), longSequences(g.kinds(), seed)...) {
		_, want, sum, growth, _ := g.playOf(func(place int, _ int) int { return reqs[place] }, strategy, len(reqs))
		states, cost, ok := impl.StrategyRun(g.p, g.start, strategy, reqs)
		if !isList(states, ok, want...) || cost != sum {
			t.Fatalf("StrategyRun(%s, %v, %v) = %v, %v, %v and not %v, %d", g.text(), strategy, reqs, states, cost, ok, want, sum)
		}
		if again, ok := impl.ScheduleCost(g.p, g.start, reqs, states); !ok || again != cost || growth != slices.Min(plainWork(g.p, g.start, reqs)) {
			t.Fatalf("StrategyRun(%s, %v, %v) = %v, %v, which costs %v, %v", g.text(), strategy, reqs, states, cost, again, ok)
		}
	}
	asks := seededSequence(g.kinds(), len(g.steps), seed)
	for _, length := range []int{0, 1, 2, 17, 59, 60} {
		want, _, sum, _, _ := g.playOf(func(_ int, at int) int { return asks[at] }, strategy, length)
		reqs, cost, ok := impl.ForcedRun(g.p, g.start, asks, strategy, length)
		if !isList(reqs, ok, want...) || cost != sum || len(reqs) != length {
			t.Fatalf("ForcedRun(%s, %v, %v, %d) = %v, %v, %v and not %v, %d", g.text(), asks, strategy, length, reqs, cost, ok, want, sum)
		}
	}
}

func TestRunsOfManyStrategies(t *testing.T) {
	withGames(t, 60, func(g gameCase) {
		for seed, strategy := range g.strategies() {
			checkStrategy(t, g, strategy, seed+len(g.steps))
		}
	})
}

// A strategy may serve a request in one state now and in another one when it comes in the same state again.
func TestRunsByPosition(t *testing.T) {
	p := problem(2, []int{3}, []int{1, 0}, []int{0, -1})
	strategy := [][]int{{0, 0}, {0, 0}, {1, 0}, {0, 0}, {1, 0}, {1, 0}, {1, 0}, {1, 0}, {1, 0}, {1, 0}, {1, 0}, {1, 0}, {1, 0}}
	for _, c := range []struct {
		reqs   []int
		states []int
		cost   int
	}{
		{nil, nil, 0},
		{[]int{0}, []int{0}, 1},
		{[]int{1, 1}, []int{0, 0}, 0},
		{[]int{0, 0, 0, 0, 0}, []int{0, 0, 0, 1, 1}, 6},
		{[]int{0, 0, 0, 0, 1, 0, 0}, []int{0, 0, 0, 1, 0, 0, 0}, 11},
	} {
		if states, cost, ok := impl.StrategyRun(p, 0, strategy, c.reqs); !isList(states, ok, c.states...) || cost != c.cost {
			t.Errorf("StrategyRun of %v = %v, %v, %v", c.reqs, states, cost, ok)
		}
	}
	asks := []int{0, 0, 0, 0, 0, 0, 1, 0, 1, 0, 1, 0, 1}
	for _, c := range []struct {
		length int
		reqs   []int
		cost   int
	}{
		{0, nil, 0},
		{3, []int{0, 0, 0}, 3},
		{5, []int{0, 0, 0, 0, 1}, 9},
		{8, []int{0, 0, 0, 0, 1, 0, 0, 0}, 12},
	} {
		if reqs, cost, ok := impl.ForcedRun(p, 0, asks, strategy, c.length); !isList(reqs, ok, c.reqs...) || cost != c.cost {
			t.Errorf("ForcedRun of %d requests = %v, %v, %v", c.length, reqs, cost, ok)
		}
	}
	// The asks that differ in the first position alone ask for another sequence.
	asks[0] = 1
	if reqs, cost, ok := impl.ForcedRun(p, 0, asks, strategy, 4); !isList(reqs, ok, 1, 1, 1, 1) || cost != 0 {
		t.Errorf("ForcedRun with another first ask = %v, %v, %v", reqs, cost, ok)
	}
}

// checkForced checks that a strategy pays with the asks of a hold as much as its debts and delays tell.
func checkForced(t *testing.T, g gameCase, ratio impl.Frac, asks []int, debts []int, delays []int, strategy [][]int) {
	t.Helper()
	for _, length := range []int{0, 1, 13, 60} {
		reqs, cost, ok := impl.ForcedRun(g.p, g.start, asks, strategy, length)
		_, _, _, _, at := g.playOf(func(_ int, at int) int { return asks[at] }, strategy, length)
		work := slices.Min(plainWork(g.p, g.start, reqs))
		gain := ratio.Den*cost - ratio.Num*work
		if !ok || len(reqs) != length || debts[at]-debts[0] > gain || delays[at]-delays[0]+length > len(g.steps)*(gain+work) {
			t.Fatalf("ForcedRun(%s, %v, %v, %d) = %v, %d, %v with the least cost %d", g.text(), asks, strategy, length, reqs, cost, ok, work)
		}
	}
}

// Promise 10: with the asks of a hold, every strategy pays.
func TestHoldsForceStrategies(t *testing.T) {
	withGames(t, 60, func(g gameCase) {
		ratio, _ := impl.GameRatio(g.p, g.start)
		asks, debts, delays, ok := impl.FindHold(g.p, g.start)
		if !ok {
			return
		}
		strategies := g.strategies()
		if table, ok := impl.FindCredit(g.p, g.start, ratio); ok {
			strategy, _ := impl.CreditStrategy(g.p, g.start, ratio, table)
			strategies = append(strategies, strategy)
		}
		for _, strategy := range strategies {
			checkForced(t, g, ratio, asks, debts, delays, strategy)
		}
	})
	// All strategies of small games.
	for _, p := range []impl.Problem{problem(2, []int{1}, []int{0, 1}, []int{1, 0}), problem(2, []int{2}, []int{-1, 1}, []int{0, 3})} {
		g := plainGame(p, 0)
		ratio, _ := impl.GameRatio(p, 0)
		asks, debts, delays, ok := impl.FindHold(p, 0)
		count := 0
		eachChoice(2*len(g.steps), []int{0, 1}, func(states []int) {
			strategy := [][]int{}
			for at := range g.steps {
				strategy = append(strategy, states[2*at:2*at+2])
			}
			if is, fine := impl.IsStrategy(p, 0, strategy); !fine || !is {
				return
			}
			checkForced(t, g, ratio, asks, debts, delays, strategy)
			count++
		})
		if !ok || count < 16 {
			t.Errorf("%v: %v and %d strategies", p, ok, count)
		}
	}
}

// A credit with greater numbers allows other states, and the least one is taken.
func TestSeveralAllowedStates(t *testing.T) {
	p := problem(3, []int{1, 1, 1}, []int{0, 0, 0}, []int{-1, 0, 0})
	positions, ok := impl.PositionsOf(p, 2)
	if want := [][2]int{{2, 0}, {0, 0}, {1, 0}}; !ok || !slices.Equal(positions, want) {
		t.Fatal(positions, ok)
	}
	for _, c := range []struct {
		table    []int
		strategy [][]int
	}{
		{[]int{0, 1, 0}, [][]int{{2, 2}, {0, 1}, {1, 1}}},
		{[]int{0, 1, 1}, [][]int{{2, 2}, {0, 2}, {1, 1}}},
		{[]int{1, 1, 0}, [][]int{{1, 1}, {0, 1}, {1, 1}}},
		{[]int{2, 1, 0}, [][]int{{0, 1}, {0, 1}, {1, 1}}},
		{[]int{2, 3, 1}, [][]int{{1, 1}, {0, 1}, {1, 1}}},
		{[]int{0, 0, 0}, nil},
		{[]int{1, 1, 1}, nil},
	} {
		is, one := impl.IsCredit(p, 2, over(0, 1), c.table)
		strategy, two := impl.CreditStrategy(p, 2, over(0, 1), c.table)
		if want := c.strategy != nil; !one || is != want || two != want || !sameLists(strategy, c.strategy) {
			t.Errorf("%v: %v, %v and %v, %v", c.table, is, one, strategy, two)
		}
	}
	// Both states cost the same in the long run.
	same := problem(2, []int{1}, []int{1, 1})
	for _, c := range []struct {
		ratio    impl.Frac
		table    []int
		strategy [][]int
	}{
		{over(1, 1), []int{0, 1}, [][]int{{0}, {0}}},
		{over(1, 1), []int{1, 0}, [][]int{{0}, {1}}},
		{over(1, 1), []int{2, 0}, [][]int{{0}, {1}}},
		{over(1, 1), []int{0, 2}, [][]int{{0}, {0}}},
		{over(1, 1), []int{0, 0}, [][]int{{0}, {1}}},
		{over(2, 1), []int{0, 0}, [][]int{{0}, {0}}},
		{over(3, 2), []int{0, 0}, [][]int{{0}, {1}}},
		{over(3, 2), []int{0, 1}, [][]int{{0}, {0}}},
		{over(3, 2), []int{2, 0}, [][]int{{0}, {1}}},
	} {
		if strategy, ok := impl.CreditStrategy(same, 0, c.ratio, c.table); !isLists(strategy, ok, c.strategy...) {
			t.Errorf("CreditStrategy of %v, %v = %v, %v", c.ratio, c.table, strategy, ok)
		}
	}
}

// FindCredit takes ratios with a Num of MaxGameNum and a Den of MaxGameDen, but no greater ones; the other functions do.
func TestRatiosWithTheGreatestTerms(t *testing.T) {
	for _, p := range []impl.Problem{problem(1, nil, []int{20}, []int{0}), problem(2, []int{1}, []int{0, 1}, []int{1, 0}), problem(2, []int{99}, []int{20, -1}, []int{20, 0})} {
		g := plainGame(p, 0)
		zeros, great := make([]int, len(g.steps)), slices.Repeat([]int{1e15}, len(g.steps))
		for _, c := range []struct {
			ratio impl.Frac
			ok    bool
		}{
			{over(1000, 1), true}, {over(1000, 99), true}, {over(999, 100), true}, {over(301, 100), true}, {over(7, 1), true},
			{over(1001, 1), false}, {over(1001, 100), false}, {over(1000, 101), false}, {over(1001, 101), false}, {over(500, 101), false},
			{over(100000000, 1), false}, {over(100000000, 99999), false}, {over(99999, 10000), false}, {over(1000003, 100000), false},
		} {
			table, ok := impl.FindCredit(p, 0, c.ratio)
			if ok != c.ok || ok && !g.isCredit(c.ratio, table) || !ok && len(table) > 0 {
				t.Errorf("FindCredit(%v, 0, %v) = %v, %v", p, c.ratio, table, ok)
			}
			if want, _ := g.leastCredit(c.ratio); want != nil {
				sayCredit(t, g, c.ratio, want)
			} else {
				t.Errorf("no credit for %v, %v", p, c.ratio)
			}
			for _, table := range [][]int{zeros, great} {
				sayCredit(t, g, c.ratio, table)
				sayHold(t, g, c.ratio, zeros, table, table)
			}
		}
		for _, ratio := range []impl.Frac{over(1, 100), over(1, 101), over(99, 100), over(1, 100000), over(99999, 100000)} {
			if table, ok := impl.FindCredit(p, 0, ratio); !nothing(table, ok) {
				t.Errorf("FindCredit(%v, 0, %v) = %v, %v", p, ratio, table, ok)
			}
			asks, debts, delays, _ := impl.FindHold(p, 0)
			least, late, is := g.leastHold(ratio, asks)
			if !is {
				t.Errorf("the asks %v do not hold %v for %v", asks, ratio, p)
			}
			sayHold(t, g, ratio, asks, least, late)
			sayHold(t, g, ratio, asks, debts, delays)
		}
	}
}

// Numbers may be 10^15, but no greater.
func TestGreatestNumbersOfCreditsAndHolds(t *testing.T) {
	p := problem(2, []int{1}, []int{0, 1}, []int{1, 0})
	credit, asks, debts, delays := []int{0, 1, 1, 1, 1, 0}, []int{1, 0, 1, 0, 1, 0}, []int{1, 0, 0, 0, 0, 1}, []int{1, 0, 0, 0, 0, 1}
	for _, more := range []int{0, 1, 1e15 - 2, 1e15 - 1, 1e15, math.MaxInt - 1, -1, math.MinInt} {
		shift := func(list []int) []int {
			other := slices.Clone(list)
			for at := range other {
				other[at] += more
			}
			return other
		}
		want := more >= 0 && more <= 1e15-1
		if is, ok := impl.IsCredit(p, 0, over(2, 1), shift(credit)); !ok || is != want {
			t.Errorf("IsCredit with %d more: %v, %v", more, is, ok)
		}
		if strategy, ok := impl.CreditStrategy(p, 0, over(2, 1), shift(credit)); ok != want || !ok && len(strategy) > 0 {
			t.Errorf("CreditStrategy with %d more: %v, %v", more, strategy, ok)
		}
		for _, lists := range [][][]int{{shift(debts), delays}, {debts, shift(delays)}, {shift(debts), shift(delays)}} {
			if is, ok := impl.IsHold(p, 0, over(2, 1), asks, lists[0], lists[1]); !ok || is != want {
				t.Errorf("IsHold with %d more: %v, %v", more, is, ok)
			}
		}
	}
}

// A hold for a ratio of 0 needs debts for no gain below 0, and delays only.
func TestHoldsForTheRatioZero(t *testing.T) {
	for _, c := range []struct {
		p      impl.Problem
		asks   []int
		debts  []int
		delays []int
		is     bool
	}{
		{problem(1, nil, []int{1}), []int{0}, []int{0}, []int{0}, true},
		{problem(1, nil, []int{1}), []int{0}, []int{7}, []int{1e15}, true},
		{problem(1, nil, []int{1}, []int{0}), []int{1}, []int{0}, []int{0}, false},
		{problem(1, nil, []int{0}), []int{0}, []int{0}, []int{0}, false},
		{problem(2, []int{1}, []int{-1, 0}), []int{0, 0}, []int{0, 0}, []int{0, 0}, false},
		{problem(2, []int{1}, []int{-1, 1}), []int{0, 0}, []int{0, 0}, []int{0, 0}, true},
		{problem(2, []int{1}, []int{-1, 0}, []int{0, -1}), []int{0, 1}, []int{0, 0}, []int{0, 0}, true},
		{problem(2, []int{1}, []int{-1, 0}, []int{0, -1}), []int{0, 1}, []int{0, 1}, []int{0, 3}, true},
		{problem(2, []int{1}, []int{-1, 0}, []int{0, -1}), []int{0, 1}, []int{0, 2}, []int{0, 3}, false},
		{problem(2, []int{1}, []int{-1, 0}, []int{0, -1}), []int{0, 1}, []int{0, 1}, []int{0, 4}, false},
		{problem(2, []int{1}, []int{-1, 0}, []int{0, -1}), []int{1, 1}, []int{0, 0}, []int{0, 0}, false},
	} {
		if is, ok := impl.IsHold(c.p, 0, over(0, 1), c.asks, c.debts, c.delays); !ok || is != c.is {
			t.Errorf("IsHold(%v, 0, 0, %v, %v, %v) = %v, %v", c.p, c.asks, c.debts, c.delays, is, ok)
		}
	}
}

// gameArgs are arguments for the functions of chapter 10.
type gameArgs struct {
	p        impl.Problem
	start    int
	strategy [][]int
	reqs     []int
	ratio    impl.Frac
	table    []int
	asks     []int
	debts    []int
	delays   []int
	length   int
}

// goodGame are valid ones, of three states, two requests and three positions. All lists are windows with room behind them.
func goodGame() gameArgs {
	return gameArgs{
		p:        goodProblem().p,
		strategy: [][]int{{99}, window(2, 1), window(1, 1), window(2, 1), {44}}[1:4],
		reqs:     window(0, 1, 1), ratio: over(1, 1),
		table: window(0, 0, 4),
		asks:  window(1, 0, 1), debts: window(0, 0, 1), delays: window(2, 0, 3),
		length: 3,
	}
}

// gameCall is a function, and which arguments it uses: p for the Problem, s for the start, y for the strategy, q for the requests, r for the ratio, t for the table, k for the asks and l for the length.
type gameCall struct {
	uses string
	call func(s gameArgs) (zero bool, ok bool)
}

var gameCalls = map[string]gameCall{
	"PositionsOf": {"ps", func(s gameArgs) (bool, bool) { return emptyList(impl.PositionsOf(s.p, s.start)) }},
	"GameSteps":   {"ps", func(s gameArgs) (bool, bool) { return emptyList(impl.GameSteps(s.p, s.start)) }},
	"IsStrategy":  {"ps", func(s gameArgs) (bool, bool) { return zeroOf(impl.IsStrategy(s.p, s.start, s.strategy)) }},
	"StrategyRun": {"psyq", func(s gameArgs) (bool, bool) {
		return emptyServe(impl.StrategyRun(s.p, s.start, s.strategy, s.reqs))
	}},
	"IsCredit":   {"psr", func(s gameArgs) (bool, bool) { return zeroOf(impl.IsCredit(s.p, s.start, s.ratio, s.table)) }},
	"FindCredit": {"psr", func(s gameArgs) (bool, bool) { return emptyList(impl.FindCredit(s.p, s.start, s.ratio)) }},
	"CreditStrategy": {"psrt", func(s gameArgs) (bool, bool) {
		return emptyList(impl.CreditStrategy(s.p, s.start, s.ratio, s.table))
	}},
	"IsHold": {"psr", func(s gameArgs) (bool, bool) {
		return zeroOf(impl.IsHold(s.p, s.start, s.ratio, s.asks, s.debts, s.delays))
	}},
	"GameRatio": {"ps", func(s gameArgs) (bool, bool) { return zeroOf(impl.GameRatio(s.p, s.start)) }},
	"FindHold": {"ps", func(s gameArgs) (bool, bool) {
		asks, debts, delays, ok := impl.FindHold(s.p, s.start)
		return len(asks)+len(debts)+len(delays) == 0, ok
	}},
	"ForcedRun": {"pskyl", func(s gameArgs) (bool, bool) {
		return emptyServe(impl.ForcedRun(s.p, s.start, s.asks, s.strategy, s.length))
	}},
}

// refuseGame checks that all functions that use an argument fail.
func refuseGame(t *testing.T, use string, s gameArgs, what any) {
	t.Helper()
	for name, c := range gameCalls {
		if strings.Contains(c.uses, use) {
			if zero, ok := c.call(s); ok || !zero {
				t.Errorf("%s takes %v: %v, %v", name, what, zero, ok)
			}
		}
	}
}

// takeGame checks that all functions that use an argument take it.
func takeGame(t *testing.T, use string, s gameArgs, what any) {
	t.Helper()
	for name, c := range gameCalls {
		if strings.Contains(c.uses, use) {
			if _, ok := c.call(s); !ok {
				t.Errorf("%s refuses %v", name, what)
			}
		}
	}
}

func TestChapter10TakesWhatIsValid(t *testing.T) {
	s := goodGame()
	takeGame(t, "", s, "what is valid")
	yes, one := impl.IsStrategy(s.p, s.start, s.strategy)
	credit, two := impl.IsCredit(s.p, s.start, s.ratio, s.table)
	hold, three := impl.IsHold(s.p, s.start, s.ratio, s.asks, s.debts, s.delays)
	if !yes || !one || !credit || !two || !hold || !three {
		t.Error(yes, one, credit, two, hold, three)
	}
}

func TestChapter10RefusesWhatIsNoProblem(t *testing.T) {
	eachNoProblem(func(p impl.Problem, what any) {
		t.Helper()
		one := gameArgs{p: p, strategy: [][]int{{0}}, ratio: over(1, 1), table: []int{0}, asks: []int{0}, debts: []int{0}, delays: []int{0}}
		good := goodGame()
		good.p = p
		for _, s := range []gameArgs{good, one, {p: p}, {p: p, ratio: over(1, 1)}} {
			refuseGame(t, "p", s, what)
		}
	})
}

// Problems with more than MaxPositions or MaxOffsets, with lists that would fit otherwise.
func TestChapter10RefusesGreatGames(t *testing.T) {
	for _, c := range greatGames {
		g := plainGame(c.p, c.start)
		if g.positions == nil != (c.positions == 0) || c.positions < 1000 && len(g.positions) != c.positions || c.positions >= 1000 && len(g.positions) < 400 {
			t.Errorf("the tests find %d positions for %v, %d", len(g.positions), c.p, c.start)
		}
		for _, count := range []int{0, 1, 60, 61, len(g.positions)} {
			s := gameArgs{p: c.p, start: c.start, ratio: over(1000, 1), table: make([]int, count), asks: make([]int, count), debts: make([]int, count), delays: make([]int, count), length: 1}
			if c.positions > 0 {
				first := g.strategies()[0]
				s.strategy = first[:min(count, len(first))]
			}
			refuseGame(t, "", s, c.p)
			s.ratio = over(0, 1)
			s.table, s.debts, s.delays = slices.Repeat([]int{1e15}, count), slices.Repeat([]int{1e15}, count), slices.Repeat([]int{1e15}, count)
			refuseGame(t, "", s, c.p)
		}
	}
}

func TestChapter10RefusesWhatIsNoStateOrRequest(t *testing.T) {
	for _, number := range append([]int{-1, 3, 4}, farInts...) {
		s := goodGame()
		s.start = number
		refuseGame(t, "s", s, number)
		s.reqs, s.length = nil, 0
		refuseGame(t, "s", s, number)
		for at := range 3 {
			for request := range 2 {
				s := goodGame()
				s.strategy[at][request] = number
				refuseStrategy(t, s.strategy)
			}
		}
	}
	for _, number := range append([]int{-1, 2, 3}, farInts...) {
		for at := range 3 {
			s := goodGame()
			s.reqs[at] = number
			refuseGame(t, "q", s, s.reqs)
			s = goodGame()
			s.asks[at] = number
			refuseAsks(t, s.asks)
		}
	}
	for _, length := range []int{61, 62, 100000} {
		s := goodGame()
		s.reqs = slices.Repeat([]int{1}, length)
		refuseGame(t, "q", s, length)
	}
	for _, length := range []int{0, 1, 59, 60} {
		s := goodGame()
		s.reqs = slices.Repeat([]int{1}, length)
		takeGame(t, "q", s, length)
		s = goodGame()
		s.length = length
		takeGame(t, "l", s, length)
	}
	for _, length := range append([]int{-1, 61, 62, 100000}, farInts...) {
		s := goodGame()
		s.length = length
		refuseGame(t, "l", s, length)
	}
}

// refuseStrategy checks that a list is refused as a strategy, but by IsStrategy, which tells that it is none.
func refuseStrategy(t *testing.T, strategy [][]int) {
	t.Helper()
	s := goodGame()
	s.strategy = strategy
	refuseGame(t, "y", s, strategy[:min(len(strategy), 5)])
	s.reqs, s.length = nil, 0
	refuseGame(t, "y", s, strategy[:min(len(strategy), 5)])
	if is, ok := impl.IsStrategy(s.p, s.start, strategy); !ok || is {
		t.Errorf("IsStrategy of %v: %v, %v", strategy[:min(len(strategy), 5)], is, ok)
	}
}

// refuseAsks checks that a list is refused as asks, but by IsHold, which tells that it is no hold.
func refuseAsks(t *testing.T, asks []int) {
	t.Helper()
	s := goodGame()
	s.asks = asks
	refuseGame(t, "k", s, asks[:min(len(asks), 5)])
	s.length = 0
	refuseGame(t, "k", s, asks[:min(len(asks), 5)])
	if is, ok := impl.IsHold(s.p, s.start, s.ratio, asks, s.debts, s.delays); !ok || is {
		t.Errorf("IsHold of %v: %v, %v", asks[:min(len(asks), 5)], is, ok)
	}
}

func TestChapter10RefusesOtherStrategiesAndAsks(t *testing.T) {
	for _, strategy := range [][][]int{
		nil, {}, {nil, nil, nil}, {{}, {}, {}}, {{1, 1}}, {{1, 1}, {1, 1}}, {{1, 1}, {1, 1}, {1, 1}, {1, 1}}, {{1, 1}, {1, 1}, nil}, {nil, {1, 1}, {1, 1}},
		{{1}, {1, 1}, {1, 1}}, {{1, 1}, {1, 1}, {1}}, {{1, 1}, {1, 1, 1}, {1, 1}}, {{1, 1, 1}, {1, 1, 1}, {1, 1, 1}}, {{1}, {1}, {1}},
		{{0, 1}, {1, 1}, {1, 1}}, {{1, 0}, {1, 1}, {1, 1}}, {{1, 1}, {1, 2}, {1, 1}}, {{1, 1}, {1, 1}, {1, 0}}, {{1, 1}, {1, 1}, {2, 2}}, // a state in which the request cannot be served
		slices.Repeat([][]int{{1, 1}}, 100000), {make([]int, 100000), {1, 1}, {1, 1}}, {{1, 1}, {1, 1}, make([]int, 100000)},
	} {
		refuseStrategy(t, strategy)
	}
	for _, strategy := range [][][]int{{{1, 1}, {1, 1}, {1, 1}}, {{2, 1}, {2, 1}, {2, 1}}, {{1, 1}, {2, 1}, {1, 1}}} {
		s := goodGame()
		s.strategy = strategy
		takeGame(t, "y", s, strategy)
		if is, ok := impl.IsStrategy(s.p, s.start, strategy); !ok || !is {
			t.Errorf("IsStrategy of %v: %v, %v", strategy, is, ok)
		}
	}
	for _, asks := range [][]int{nil, {}, {0}, {0, 0}, {0, 0, 0, 0}, make([]int, 60), make([]int, 100000)} {
		refuseAsks(t, asks)
	}
	eachChoice(3, []int{0, 1}, func(asks []int) {
		s := goodGame()
		s.asks = asks
		takeGame(t, "k", s, asks)
	})
}

func TestChapter10RefusesWhatIsNoRatio(t *testing.T) {
	bad := []impl.Frac{{}, {Num: 0, Den: 2}, {Num: 2, Den: 2}, {Num: 14, Den: 4}, {Num: -1, Den: 1}, {Num: -7, Den: 2}, {Num: -1, Den: 2}, {Num: 7, Den: -2}, {Num: -7, Den: -2}, {Num: 7, Den: 0}, {Num: 100000001, Den: 1}, {Num: 100000001, Den: 2}, {Num: 1, Den: 100001}, {Num: 700000, Den: 200001}, {Num: -100000000, Den: 1}, {Num: -1, Den: 100000}}
	for _, ratio := range invalidFracs {
		bad = append(bad, ratio)
	}
	for _, number := range farInts {
		if number < 0 || number > 100000000 {
			bad = append(bad, impl.Frac{Num: number, Den: 1}, impl.Frac{Num: number, Den: number}, impl.Frac{Num: 1, Den: number}, impl.Frac{Num: 0, Den: number})
		}
	}
	for _, ratio := range bad {
		for _, table := range [][]int{{0, 0, 4}, make([]int, 3), slices.Repeat([]int{1e15}, 3), nil} {
			s := goodGame()
			s.ratio, s.table, s.debts, s.delays = ratio, table, table, table
			refuseGame(t, "r", s, ratio)
		}
	}
}

func TestChapter10RefusesOtherTables(t *testing.T) {
	for _, ratio := range []impl.Frac{over(1, 1), over(1, 2), over(2, 1)} {
		for _, table := range [][]int{nil, {}, {0}, {0, 4}, {0, 0, 4, 4}, make([]int, 100000), {-1, 0, 4}, {0, -1, 4}, {0, 0, -1}, {0, 0, 1e15 + 1}, {1e15 + 1, 0, 4}, {math.MaxInt, 0, 4}, {0, 0, math.MinInt}, slices.Repeat([]int{math.MinInt}, 3), slices.Repeat([]int{math.MaxInt}, 3)} {
			s := goodGame()
			s.ratio, s.table = ratio, table
			refuseGame(t, "t", s, table[:min(len(table), 7)])
			credit, one := impl.IsCredit(s.p, s.start, s.ratio, table)
			debts, two := impl.IsHold(s.p, s.start, s.ratio, s.asks, table, s.delays)
			delays, three := impl.IsHold(s.p, s.start, s.ratio, s.asks, s.debts, table)
			if !one || !two || !three || credit || debts || delays {
				t.Errorf("%v: %v, %v and %v, %v and %v, %v", table[:min(len(table), 7)], credit, one, debts, two, delays, three)
			}
		}
	}
	// Lists of numbers in their bounds that are no credit.
	for _, table := range [][]int{{0, 0, 0}, {0, 0, 3}, {0, 1e15, 1e15 - 1}, {5, 5, 8}} {
		s := goodGame()
		s.table = table
		refuseGame(t, "t", s, table)
	}
	for _, table := range [][]int{{0, 0, 4}, {0, 0, 1e15}, {1, 1, 5}, {1e15, 1e15 - 4, 1e15}} {
		s := goodGame()
		s.table = table
		takeGame(t, "t", s, table)
	}
}

// sameGame says whether arguments are those of goodGame, with what is around them.
func sameGame(s gameArgs) bool {
	all := func(s gameArgs) [][]int {
		lists := [][]int{around(s.reqs), around(s.table), around(s.asks), around(s.debts), around(s.delays), {s.start, s.length, len(s.p.Move), len(s.p.Serve), len(s.strategy)}}
		for _, list := range slices.Concat(s.p.Move, s.p.Serve, s.strategy) {
			lists = append(lists, around(list))
		}
		return append(lists, s.p.Move[:4][3], s.p.Serve[:3][2], s.strategy[:4][3])
	}
	return sameLists(all(s), all(goodGame()))
}

// Promise 13: arguments stay as they are, with the room behind them.
func TestChapter10ModifiesNoArgument(t *testing.T) {
	s := goodGame()
	for name, c := range gameCalls {
		for _, ratio := range []impl.Frac{over(1, 1), over(1, 2), over(0, 1), over(100000000, 1)} {
			for start := range 3 {
				s.ratio, s.start = ratio, start
				c.call(s)
				s.start = 0
				if !sameGame(s) {
					t.Fatalf("%s modifies %v", name, s)
				}
			}
		}
	}
}

// Promise 13: results have memory of their own, each list of them too.
func TestChapter10ResultsShareNoMemory(t *testing.T) {
	s := goodGame()
	same := func() bool { return sameGame(s) }
	checkFreshTriples(t, "PositionsOf", func() ([][2]int, bool) { return impl.PositionsOf(s.p, s.start) }, same)
	checkFreshTriples(t, "GameSteps", func() ([][6]int, bool) { return impl.GameSteps(s.p, s.start) }, same)
	checkFresh(t, "StrategyRun", func() ([]int, bool) {
		states, _, ok := impl.StrategyRun(s.p, s.start, s.strategy, s.reqs)
		return states, ok
	}, same)
	checkFresh(t, "ForcedRun", func() ([]int, bool) {
		reqs, _, ok := impl.ForcedRun(s.p, s.start, s.asks, s.strategy, s.length)
		return reqs, ok
	}, same)
	checkFresh(t, "FindCredit", func() ([]int, bool) { return impl.FindCredit(s.p, s.start, s.ratio) }, same)
	checkFreshLists(t, "CreditStrategy", func() ([][]int, bool) { return impl.CreditStrategy(s.p, s.start, s.ratio, s.table) }, same)
	checkFreshLists(t, "FindHold", func() ([][]int, bool) {
		asks, debts, delays, ok := impl.FindHold(s.p, s.start)
		return [][]int{asks, debts, delays}, ok
	}, same)
	// Lists that are the same in a game of one position.
	one := problem(1, nil, []int{0}, []int{20})
	checkFreshLists(t, "FindHold, one position", func() ([][]int, bool) {
		asks, debts, delays, ok := impl.FindHold(one, 0)
		return [][]int{asks, debts, delays}, ok
	}, func() bool { return one.Serve[1][0] == 20 && one.Serve[0][0] == 0 })
}
