package tests

import (
	"fmt"
	"math"
	"math/big"
	"slices"
	"strings"
	"testing"

	"loop.example/g01087/impl"
)

// plainProducts returns the sum of the products of the same members of two lists.
func plainProducts(weights []int, numbers []int) int {
	sum := 0
	for i, weight := range weights {
		sum += weight * numbers[i]
	}
	return sum
}

// plainTotal returns the sum of weights.
func plainTotal(weights []int) int {
	return plainProducts(weights, slices.Repeat([]int{1}, len(weights)))
}

// plainMean returns the mean of numbers with weights.
func plainMean(weights []int, numbers []int) *big.Rat {
	return big.NewRat(int64(plainProducts(weights, numbers)), int64(plainTotal(weights)))
}

// isExactly says whether a call returned the Frac of a number, and true.
func isExactly(a impl.Frac, ok bool, want *big.Rat) bool {
	frac, is := fracOf(want)
	return ok && is && a == frac
}

// areExactly says whether a call returned the Fracs of numbers, and true.
func areExactly(list []impl.Frac, ok bool, want []*big.Rat) bool {
	return ok && slices.EqualFunc(list, want, func(a impl.Frac, x *big.Rat) bool { return isExactly(a, true, x) })
}

// areOdds says whether Fracs are probabilities with the sum 1.
func areOdds(list []impl.Frac) bool {
	sum := new(big.Rat)
	for _, a := range list {
		if a.Num < 0 {
			return false
		}
		sum.Add(sum, exact(a))
	}
	return sum.Cmp(big.NewRat(1, 1)) == 0
}

// plainCost returns the cost of an algorithm.
func plainCost(p impl.Problem, next [][]int, start int, reqs []int) int {
	cost, _ := plainSchedule(p, start, reqs, plainStates(next, start, reqs))
	return cost
}

// plainCosts returns the costs of algorithms.
func plainCosts(p impl.Problem, nexts [][][]int, start int, reqs []int) []int {
	costs := []int{}
	for _, next := range nexts {
		costs = append(costs, plainCost(p, next, start, reqs))
	}
	return costs
}

// mixturesFor are some of a Problem: of one algorithm with a weight of 1 and of 9, of MaxMixed ones, and of the same one several times.
func mixturesFor(p impl.Problem) []impl.Mixture {
	a := algorithmsFor(p)
	return []impl.Mixture{
		{Weights: []int{1}, Nexts: a[:1]},
		{Weights: []int{9}, Nexts: a[4:]},
		{Weights: []int{1, 9}, Nexts: [][][]int{a[1], a[2]}},
		{Weights: []int{9, 9, 9, 9}, Nexts: a[1:]},
		{Weights: []int{3, 1, 4}, Nexts: [][][]int{a[2], a[3], a[2]}},
		{Weights: []int{2, 7, 1, 8}, Nexts: [][][]int{a[3], a[3], a[3], a[3]}},
	}
}

// weightsOf are weights in 1..9, the same ones for the same numbers.
func weightsOf(count int, seed int) []int {
	weights := []int{}
	for _, state := range statesOf(seed, count) {
		weights = append(weights, 1+int(state/16)%9)
	}
	return weights
}

// chancesOf are some of m requests with sequences of a length: one of them, MaxDrawn ones, some of which begin in the same way, and the same one several times.
func chancesOf(m int, length int, seed int) []impl.Chances {
	seqs := [][]int{}
	for i := range 12 {
		reqs := seededSequence(m, length, 17*seed+i)
		if i%3 > 0 && length > 1 {
			copy(reqs, seqs[i-1][:length-1])
		}
		seqs = append(seqs, reqs)
	}
	return []impl.Chances{
		{Weights: []int{1}, Seqs: seqs[:1]},
		{Weights: []int{9}, Seqs: seqs[5:6]},
		{Weights: []int{9, 1}, Seqs: seqs[2:4]},
		{Weights: weightsOf(12, seed), Seqs: seqs},
		{Weights: slices.Repeat([]int{9}, 12), Seqs: seqs},
		{Weights: []int{1, 9, 2, 5}, Seqs: [][]int{seqs[3], seqs[7], seqs[3], seqs[3]}},
		{Weights: weightsOf(12, seed+1), Seqs: slices.Repeat(seqs[8:9], 12)},
	}
}

// onMixedProblems calls check with Problems of all numbers of states and requests, and their start states.
func onMixedProblems(check func(p impl.Problem, start int, seed int)) {
	for seed, p := range manyProblems() {
		for start := range p.Move {
			check(p, start, seed)
		}
	}
	seed := 0
	onSmallProblems(func(p impl.Problem) {
		if seed++; seed%5 == 0 {
			check(p, seed%2, seed)
		}
	})
}

func TestChapter11Constants(t *testing.T) {
	if impl.MaxMixed != 4 || impl.MaxDrawn != 12 || impl.MaxLength != 6 || impl.MaxPayoff != 40 {
		t.Error(impl.MaxMixed, impl.MaxDrawn, impl.MaxLength, impl.MaxPayoff)
	}
}

// checkMixture checks what a Mixture does with a sequence.
func checkMixture(t *testing.T, p impl.Problem, x impl.Mixture, start int, reqs []int) {
	t.Helper()
	costs := plainCosts(p, x.Nexts, start, reqs)
	cost, ok := impl.MixtureCost(p, x, start, reqs)
	if !isExactly(cost, ok, plainMean(x.Weights, costs)) {
		t.Fatalf("MixtureCost(%v, %v, %d, %v) = %v, %v", p, x, start, reqs, cost, ok)
	}
	told := []int{}
	for _, next := range x.Nexts {
		one, _ := impl.AlgorithmCost(p, next, start, reqs)
		told = append(told, one)
	}
	least, _ := impl.LeastCost(p, start, reqs)
	if !slices.Equal(told, costs) || compareRatios(cost, over(least, 1)) < 0 {
		t.Fatalf("MixtureCost(%v, %v, %d, %v) = %v with the costs %v and the least one %d", p, x, start, reqs, cost, told, least)
	}
	odds := []*big.Rat{}
	for state := range p.Move {
		ends := []int{}
		for _, next := range x.Nexts {
			if states := append([]int{start}, plainStates(next, start, reqs)...); states[len(reqs)] == state {
				ends = append(ends, 1)
			} else {
				ends = append(ends, 0)
			}
		}
		odds = append(odds, plainMean(x.Weights, ends))
	}
	if list, ok := impl.MixtureStates(p, x, start, reqs); !areExactly(list, ok, odds) || !areOdds(list) {
		t.Fatalf("MixtureStates(%v, %v, %d, %v) = %v, %v and not %v", p, x, start, reqs, list, ok, odds)
	}
}

// Promise 11: MixtureCost is the mean of the AlgorithmCosts, at least LeastCost, and the probabilities of MixtureStates have the sum 1.
func TestMixturesOfManyProblems(t *testing.T) {
	onMixedProblems(func(p impl.Problem, start int, seed int) {
		m := len(p.Serve)
		sequences := append(sequencesOver(m, 1), longSequences(m, seed)...)
		sequences = append(sequences, seededSequence(m, 3, seed), seededSequence(m, 9, seed))
		for _, x := range mixturesFor(p) {
			if is, ok := impl.IsMixture(p, x); !ok || !is {
				t.Fatalf("IsMixture(%v, %v) = %v, %v", p, x, is, ok)
			}
			for _, reqs := range sequences {
				checkMixture(t, p, x, start, reqs)
			}
		}
	})
}

// A single algorithm costs what it costs, and is in its last state, whatever its weight is; so does the same one several times.
func TestWeightsOfASingleAlgorithm(t *testing.T) {
	for seed, p := range manyProblems() {
		next := seededAlgorithm(p, seed)
		for _, reqs := range append(longSequences(len(p.Serve), seed), nil) {
			start := seed % len(p.Move)
			want, _ := impl.AlgorithmCost(p, next, start, reqs)
			last := append([]int{start}, plainStates(next, start, reqs)...)[len(reqs)]
			for weight := 1; weight <= 9; weight++ {
				for count := 1; count <= 4; count++ {
					x := impl.Mixture{Weights: slices.Repeat([]int{weight}, count), Nexts: slices.Repeat([][][]int{next}, count)}
					x.Weights[count-1] = 10 - weight
					cost, one := impl.MixtureCost(p, x, start, reqs)
					odds, two := impl.MixtureStates(p, x, start, reqs)
					if !one || !two || cost != over(want, 1) || len(odds) != len(p.Move) || odds[last] != over(1, 1) || !areOdds(odds) {
						t.Fatalf("%v of %v, %d, %v: %v and %v", x, p, start, reqs, cost, odds)
					}
				}
			}
		}
	}
}

// Promise 11: no sequence of the length costs more than that of WorstOfMixture, and those before it cost less.
func TestWorstOfManyMixtures(t *testing.T) {
	onMixedProblems(func(p impl.Problem, start int, seed int) {
		for i, x := range mixturesFor(p) {
			for length := range 5 {
				if length == 4 && (seed+i)%3 > 0 {
					continue
				}
				worst, greatest := []int{}, new(big.Rat)
				eachChoice(length, countUp(len(p.Serve)), func(reqs []int) {
					if cost := plainMean(x.Weights, plainCosts(p, x.Nexts, start, reqs)); len(worst) < length || cost.Cmp(greatest) > 0 {
						worst, greatest = slices.Clone(reqs), cost
					}
				})
				reqs, cost, ok := impl.WorstOfMixture(p, x, start, length)
				if !isList(reqs, ok, worst...) || !isExactly(cost, ok, greatest) {
					t.Fatalf("WorstOfMixture(%v, %v, %d, %d) = %v, %v, %v and not %v, %v", p, x, start, length, reqs, cost, ok, worst, greatest)
				}
				if told, ok := impl.MixtureCost(p, x, start, reqs); !ok || told != cost {
					t.Fatalf("WorstOfMixture(%v, %v, %d, %d) = %v, %v, which costs %v", p, x, start, length, reqs, cost, told)
				}
			}
		}
	})
}

// swap has two states next to each other, each of which serves one of two requests for nothing.
func swap() impl.Problem { return problem(2, []int{1}, []int{0, 2}, []int{2, 0}) }

func TestNamedMixtures(t *testing.T) {
	p := swap()
	stay, leave, follow := [][]int{{0, 0}, {0, 0}}, [][]int{{1, 1}, {1, 1}}, [][]int{{0, 1}, {0, 1}}
	for _, c := range []struct {
		x      impl.Mixture
		start  int
		reqs   []int
		cost   impl.Frac
		states []impl.Frac
	}{
		{impl.Mixture{Weights: []int{7}, Nexts: [][][]int{stay}}, 0, nil, over(0, 1), []impl.Frac{over(1, 1), over(0, 1)}},
		{impl.Mixture{Weights: []int{7}, Nexts: [][][]int{stay}}, 1, nil, over(0, 1), []impl.Frac{over(0, 1), over(1, 1)}},
		{impl.Mixture{Weights: []int{7}, Nexts: [][][]int{stay}}, 0, []int{1, 1}, over(4, 1), []impl.Frac{over(1, 1), over(0, 1)}},
		{impl.Mixture{Weights: []int{7}, Nexts: [][][]int{stay}}, 1, []int{1, 1}, over(5, 1), []impl.Frac{over(1, 1), over(0, 1)}},
		{impl.Mixture{Weights: []int{1, 9}, Nexts: [][][]int{stay, leave}}, 1, nil, over(0, 1), []impl.Frac{over(0, 1), over(1, 1)}},
		{impl.Mixture{Weights: []int{1, 9}, Nexts: [][][]int{stay, leave}}, 0, []int{0}, over(27, 10), []impl.Frac{over(1, 10), over(9, 10)}},
		{impl.Mixture{Weights: []int{9, 1}, Nexts: [][][]int{stay, leave}}, 0, []int{0}, over(3, 10), []impl.Frac{over(9, 10), over(1, 10)}},
		{impl.Mixture{Weights: []int{1, 1, 1}, Nexts: [][][]int{stay, leave, follow}}, 0, []int{1, 1, 0}, over(3, 1), []impl.Frac{over(2, 3), over(1, 3)}},
		{impl.Mixture{Weights: []int{2, 3, 2, 2}, Nexts: [][][]int{stay, leave, stay, stay}}, 0, []int{1}, over(5, 3), []impl.Frac{over(2, 3), over(1, 3)}},
	} {
		if cost, ok := impl.MixtureCost(p, c.x, c.start, c.reqs); !ok || cost != c.cost {
			t.Errorf("MixtureCost of %v, %d, %v = %v, %v", c.x, c.start, c.reqs, cost, ok)
		}
		if states, ok := impl.MixtureStates(p, c.x, c.start, c.reqs); !ok || !slices.Equal(states, c.states) {
			t.Errorf("MixtureStates of %v, %d, %v = %v, %v", c.x, c.start, c.reqs, states, ok)
		}
	}
	for _, c := range []struct {
		x      impl.Mixture
		length int
		reqs   []int
		cost   impl.Frac
	}{
		{impl.Mixture{Weights: []int{1}, Nexts: [][][]int{stay}}, 0, []int{}, over(0, 1)},
		{impl.Mixture{Weights: []int{9}, Nexts: [][][]int{stay}}, 4, []int{1, 1, 1, 1}, over(8, 1)},
		{impl.Mixture{Weights: []int{1}, Nexts: [][][]int{follow}}, 4, []int{1, 0, 1, 0}, over(4, 1)},
		// Both requests cost the same, so the first ones are taken.
		{impl.Mixture{Weights: []int{1, 1}, Nexts: [][][]int{stay, leave}}, 3, []int{0, 0, 0}, over(7, 2)},
		{impl.Mixture{Weights: []int{1, 2}, Nexts: [][][]int{stay, leave}}, 2, []int{0, 0}, over(10, 3)},
		{impl.Mixture{Weights: []int{2, 1}, Nexts: [][][]int{stay, leave}}, 2, []int{1, 1}, over(3, 1)},
	} {
		if reqs, cost, ok := impl.WorstOfMixture(p, c.x, 0, c.length); !isList(reqs, ok, c.reqs...) || cost != c.cost {
			t.Errorf("WorstOfMixture of %v, %d = %v, %v, %v", c.x, c.length, reqs, cost, ok)
		}
	}
	far := problem(4, slices.Repeat([]int{99}, 6), []int{20, 20, 20, 20}, []int{20, 20, 20, 20}, []int{20, 20, 20, 20}, []int{20, 20, 20, 20})
	turn := [][]int{{1, 1, 1, 1}, {0, 0, 0, 0}, {0, 0, 0, 0}, {0, 0, 0, 0}}
	x := impl.Mixture{Weights: []int{9, 9, 9, 8}, Nexts: [][][]int{turn, turn, turn, turn}}
	if cost, ok := impl.MixtureCost(far, x, 0, slices.Repeat([]int{3}, 60)); !ok || cost != over(7140, 1) {
		t.Error("the greatest cost", cost, ok)
	}
}

// group is some sequences that are drawn.
type group struct {
	weights []int
	seqs    [][]int
}

// beginning returns those that begin with a list.
func (g group) beginning(seen []int) group {
	part := group{}
	for i, reqs := range g.seqs {
		if len(reqs) >= len(seen) && slices.Equal(reqs[:len(seen)], seen) {
			part.weights, part.seqs = append(part.weights, g.weights[i]), append(part.seqs, reqs)
		}
	}
	return part
}

// ahead returns, for each state, the least sum of the weights times the costs of the requests behind a list with which all sequences begin.
func (g group) ahead(p impl.Problem, seen []int) []int {
	costs := make([]int, len(p.Move))
	for request := range p.Serve {
		longer := append(slices.Clone(seen), request)
		if part := g.beginning(longer); len(part.seqs) > 0 {
			for state, cost := range part.replies(p, longer) {
				costs[state] += cost[1]
			}
		}
	}
	return costs
}

// replies returns, for each state, the least one in which the last request of a list is served best, and the least sum of the weights times the costs from this request on. All sequences begin with the list.
func (g group) replies(p impl.Problem, seen []int) [][2]int {
	behind, list := g.ahead(p, seen), [][2]int{}
	request := seen[len(seen)-1]
	for state := range p.Move {
		best := [2]int{-1, math.MaxInt}
		for to := range p.Move {
			if !plainCanServe(p, request, to) {
				continue
			}
			if cost := plainTotal(g.weights)*(p.Move[state][to]+p.Serve[request][to]) + behind[to]; cost < best[1] {
				best = [2]int{to, cost}
			}
		}
		list = append(list, best)
	}
	return list
}

// checkReplies checks all replies to Chances, and that the strategy that plays them has the least expected cost.
func checkReplies(t *testing.T, p impl.Problem, start int, c impl.Chances, best *big.Rat) {
	t.Helper()
	costs := []int{}
	for _, reqs := range c.Seqs {
		states, at := []int{}, start
		for place := range reqs {
			wants := group{c.Weights, c.Seqs}.beginning(reqs[:place+1]).replies(p, reqs[:place+1])
			for state := range p.Move {
				if reply, ok := impl.BestReply(p, state, c, reqs[:place+1]); !ok || reply != wants[state][0] {
					t.Fatalf("BestReply(%v, %d, %v, %v) = %v, %v and not %v", p, state, c, reqs[:place+1], reply, ok, wants[state])
				}
			}
			at, _ = impl.BestReply(p, at, c, reqs[:place+1])
			states = append(states, at)
		}
		cost, ok := plainSchedule(p, start, reqs, states)
		if !ok {
			t.Fatalf("the replies of %v, %d, %v to %v are %v", p, start, c, reqs, states)
		}
		costs = append(costs, cost)
	}
	if mean := plainMean(c.Weights, costs); mean.Cmp(best) != 0 {
		t.Fatalf("the replies of %v, %d, %v cost %v and not %v", p, start, c, mean, best)
	}
}

// checkChances checks the expected costs of Chances.
func checkChances(t *testing.T, p impl.Problem, start int, c impl.Chances) {
	t.Helper()
	leasts := []int{}
	for _, reqs := range c.Seqs {
		leasts = append(leasts, slices.Min(plainWork(p, start, reqs)))
	}
	least, ok := impl.ExpectedLeast(p, start, c)
	if !isExactly(least, ok, plainMean(c.Weights, leasts)) {
		t.Fatalf("ExpectedLeast(%v, %d, %v) = %v, %v", p, start, c, least, ok)
	}
	want := big.NewRat(int64(group{c.Weights, c.Seqs}.ahead(p, nil)[start]), int64(plainTotal(c.Weights)))
	best, ok := impl.BestExpected(p, start, c)
	if !isExactly(best, ok, want) || compareRatios(least, best) > 0 {
		t.Fatalf("BestExpected(%v, %d, %v) = %v, %v and not %v; the least is %v", p, start, c, best, ok, want, least)
	}
	for _, next := range algorithmsFor(p) {
		costs := []int{}
		for _, reqs := range c.Seqs {
			costs = append(costs, plainCost(p, next, start, reqs))
		}
		cost, ok := impl.ExpectedCost(p, next, start, c)
		if !isExactly(cost, ok, plainMean(c.Weights, costs)) || compareRatios(cost, best) < 0 {
			t.Fatalf("ExpectedCost(%v, %v, %d, %v) = %v, %v with the best %v", p, next, start, c, cost, ok, best)
		}
	}
	checkReplies(t, p, start, c, want)
}

// Promise 11: ExpectedLeast is at most BestExpected, BestExpected at most ExpectedCost, and the strategy that plays BestReply has it.
func TestChancesOfManyProblems(t *testing.T) {
	onMixedProblems(func(p impl.Problem, start int, seed int) {
		for length := range 7 {
			if length > 2 && (length+seed+start)%4 > 0 {
				continue
			}
			for _, c := range chancesOf(len(p.Serve), length, seed) {
				if is, ok := impl.IsChances(p, c); !ok || !is {
					t.Fatalf("IsChances(%v, %v) = %v, %v", p, c, is, ok)
				}
				checkChances(t, p, start, c)
			}
		}
	})
}

// Promise 11: the worst sequence of any Mixture costs at least BestExpected of any Chances with sequences of its length, and so does one of these sequences.
func TestNoMixtureIsBetterThanChances(t *testing.T) {
	onMixedProblems(func(p impl.Problem, start int, seed int) {
		for length := range 7 {
			for i, c := range chancesOf(len(p.Serve), length, seed+1) {
				best, _ := impl.BestExpected(p, start, c)
				for _, x := range mixturesFor(p) {
					if (i+length+seed)%3 > 0 {
						continue
					}
					greatest := over(-1, 1)
					for _, reqs := range c.Seqs {
						if cost, _ := impl.MixtureCost(p, x, start, reqs); compareRatios(cost, greatest) > 0 {
							greatest = cost
						}
					}
					_, worst, ok := impl.WorstOfMixture(p, x, start, length)
					if compareRatios(greatest, best) < 0 || ok != (length <= 4) || ok && compareRatios(worst, greatest) < 0 {
						t.Fatalf("%v costs at most %v on %v of %v, %d, where the best is %v, and at worst %v, %v", x, greatest, c, p, start, best, worst, ok)
					}
				}
			}
		}
	})
}

// beginnings are all lists of at least one request with which sequences begin, each once.
func beginnings(seqs [][]int) [][]int {
	all := [][]int{}
	for _, reqs := range seqs {
		for end := range reqs {
			if !slices.ContainsFunc(all, func(seen []int) bool { return slices.Equal(seen, reqs[:end+1]) }) {
				all = append(all, reqs[:end+1])
			}
		}
	}
	return all
}

// plainStrategies returns the least mean of the costs of all strategies: each one is a state for each list with which sequences begin, as the state before follows from the list.
func plainStrategies(p impl.Problem, start int, c impl.Chances) *big.Rat {
	seen, least := beginnings(c.Seqs), math.MaxInt
	eachChoice(len(seen), countUp(len(p.Move)), func(choices []int) {
		replies := map[string]int{}
		for i, list := range seen {
			if !plainCanServe(p, list[len(list)-1], choices[i]) {
				return
			}
			replies[fmt.Sprint(list)] = choices[i]
		}
		sum := 0
		for i, reqs := range c.Seqs {
			states := []int{}
			for end := range reqs {
				states = append(states, replies[fmt.Sprint(reqs[:end+1])])
			}
			cost, _ := plainSchedule(p, start, reqs, states)
			sum += c.Weights[i] * cost
		}
		least = min(least, sum)
	})
	return big.NewRat(int64(least), int64(plainTotal(c.Weights)))
}

func TestBestExpectedOfAllStrategies(t *testing.T) {
	count := 0
	check := func(p impl.Problem, start int, c impl.Chances) {
		if math.Pow(float64(len(p.Move)), float64(len(beginnings(c.Seqs)))) > 260 {
			return
		}
		count++
		if best, ok := impl.BestExpected(p, start, c); !isExactly(best, ok, plainStrategies(p, start, c)) {
			t.Fatalf("BestExpected(%v, %d, %v) = %v, %v and not %v", p, start, c, best, ok, plainStrategies(p, start, c))
		}
	}
	onMixedProblems(func(p impl.Problem, start int, seed int) {
		if seed%3 > 0 {
			return
		}
		one, two := []int{0, 0}, []int{0, len(p.Serve) - 1}
		check(p, start, impl.Chances{Weights: []int{1, 9}, Seqs: [][]int{one, two}})
		check(p, start, impl.Chances{Weights: []int{5, 4, 2}, Seqs: [][]int{two, one, {len(p.Serve) - 1, 0}}})
		for length := range 4 {
			for _, c := range chancesOf(len(p.Serve), length, seed) {
				check(p, start, c)
			}
		}
	})
	if count < 1000 {
		t.Error("only", count)
	}
}

func TestNamedChances(t *testing.T) {
	p := swap()
	stay := [][]int{{0, 0}, {0, 0}}
	for _, c := range []struct {
		c                 impl.Chances
		start             int
		cost, least, best impl.Frac
	}{
		// Sequences of no requests.
		{impl.Chances{Weights: []int{1}, Seqs: [][]int{nil}}, 0, over(0, 1), over(0, 1), over(0, 1)},
		{impl.Chances{Weights: []int{9, 1, 4}, Seqs: [][]int{nil, {}, nil}}, 1, over(0, 1), over(0, 1), over(0, 1)},
		// One sequence is known from the first request on, and before.
		{impl.Chances{Weights: []int{9}, Seqs: [][]int{{1, 1, 1, 0}}}, 0, over(6, 1), over(2, 1), over(2, 1)},
		{impl.Chances{Weights: []int{1, 1}, Seqs: [][]int{{0, 0}, {1, 1}}}, 0, over(2, 1), over(1, 2), over(1, 2)},
		{impl.Chances{Weights: []int{9, 1}, Seqs: [][]int{{0, 0}, {1, 1}}}, 0, over(4, 10), over(1, 10), over(1, 10)},
		// What follows the first request is not known when it is served.
		{impl.Chances{Weights: []int{1, 1}, Seqs: [][]int{{1, 0}, {1, 1}}}, 0, over(3, 1), over(3, 2), over(3, 2)},
		{impl.Chances{Weights: []int{1, 2, 3}, Seqs: [][]int{{1, 0}, {1, 1}, {1, 0}}}, 0, over(16, 6), over(10, 6), over(10, 6)},
		// The same sequence several times.
		{impl.Chances{Weights: []int{1, 9, 2}, Seqs: [][]int{{1}, {0}, {1}}}, 0, over(6, 12), over(3, 12), over(3, 12)},
	} {
		cost, one := impl.ExpectedCost(p, stay, c.start, c.c)
		least, two := impl.ExpectedLeast(p, c.start, c.c)
		best, three := impl.BestExpected(p, c.start, c.c)
		if !one || !two || !three || compareRatios(cost, c.cost)|compareRatios(least, c.least)|compareRatios(best, c.best) != 0 {
			t.Errorf("%v, %d: %v, %v, %v", c.c, c.start, cost, least, best)
		}
	}
	// A page that is far away pays off if it is asked for again: whoever knows the sequence costs less.
	rent := problem(2, []int{3}, []int{1, 0}, []int{0, 20})
	c := impl.Chances{Weights: []int{1, 1}, Seqs: [][]int{{0, 0, 0, 0, 0, 0}, {0, 0, 1, 1, 1, 1}}}
	least, _ := impl.ExpectedLeast(rent, 0, c)
	best, ok := impl.BestExpected(rent, 0, c)
	if !ok || least != over(5, 2) || best != over(7, 2) {
		t.Error("what is not known", least, best)
	}
}

func TestNamedReplies(t *testing.T) {
	even := problem(2, []int{1}, []int{1, 0}, []int{0, 1})
	three := problem(3, []int{2, 2, 2}, []int{-1, 3, 3}, []int{0, 0, 2})
	for _, c := range []struct {
		p     impl.Problem
		c     impl.Chances
		seen  []int
		wants []int
	}{
		// Staying costs what moving costs: the least state is taken, with nothing ahead.
		{even, impl.Chances{Weights: []int{1}, Seqs: [][]int{{0}}}, []int{0}, []int{0, 1}},
		{even, impl.Chances{Weights: []int{1}, Seqs: [][]int{{1}}}, []int{1}, []int{0, 0}},
		// What is ahead is in favor of a state, for the sequences that begin with the list alone.
		{even, impl.Chances{Weights: []int{1, 1}, Seqs: [][]int{{0, 0}, {1, 0}}}, []int{0}, []int{1, 1}},
		{even, impl.Chances{Weights: []int{1, 9}, Seqs: [][]int{{0, 0}, {1, 1}}}, []int{0}, []int{1, 1}},
		{even, impl.Chances{Weights: []int{1, 9}, Seqs: [][]int{{0, 0}, {0, 1}}}, []int{0}, []int{0, 1}},
		{even, impl.Chances{Weights: []int{1, 1}, Seqs: [][]int{{0, 0}, {0, 1}}}, []int{0}, []int{0, 1}},
		{even, impl.Chances{Weights: []int{2, 1}, Seqs: [][]int{{0, 0}, {0, 1}}}, []int{0}, []int{1, 1}},
		{even, impl.Chances{Weights: []int{1, 2, 2}, Seqs: [][]int{{0, 0}, {0, 1}, {0, 0}}}, []int{0}, []int{1, 1}},
		{even, impl.Chances{Weights: []int{9, 1}, Seqs: [][]int{{0, 0, 1}, {0, 1, 1}}}, []int{0, 1}, []int{0, 0}},
		{even, impl.Chances{Weights: []int{9, 1}, Seqs: [][]int{{0, 0, 1}, {0, 1, 1}}}, []int{0, 1, 1}, []int{0, 0}},
		{even, impl.Chances{Weights: []int{9, 1}, Seqs: [][]int{{0, 0, 1}, {0, 1, 1}}}, []int{0, 0, 1}, []int{0, 0}},
		// The first state does not serve the request, and the others are as good.
		{three, impl.Chances{Weights: []int{1}, Seqs: [][]int{{0}}}, []int{0}, []int{1, 1, 2}},
		{three, impl.Chances{Weights: []int{1}, Seqs: [][]int{{0, 1}}}, []int{0}, []int{1, 1, 1}},
		{three, impl.Chances{Weights: []int{5}, Seqs: [][]int{{0, 1}}}, []int{0, 1}, []int{0, 1, 0}},
	} {
		for state, want := range c.wants {
			if reply, ok := impl.BestReply(c.p, state, c.c, c.seen); !ok || reply != want {
				t.Errorf("BestReply(%v, %d, %v, %v) = %v, %v and not %d", c.p, state, c.c, c.seen, reply, ok, want)
			}
		}
	}
}

// allDrawn returns all sequences of a length, with the products of the weights of their requests.
func allDrawn(weights []int, length int) group {
	g := group{}
	eachChoice(length, countUp(len(weights)), func(reqs []int) {
		product := 1
		for _, request := range reqs {
			product *= weights[request]
		}
		if product > 0 {
			g.weights, g.seqs = append(g.weights, product), append(g.seqs, slices.Clone(reqs))
		}
	})
	return g
}

// Promise 11: IndependentBest is BestExpected of all sequences of the length, each as often as its weights say.
func TestIndependentRequests(t *testing.T) {
	asChances, great := 0, 0
	onMixedProblems(func(p impl.Problem, start int, seed int) {
		m := len(p.Serve)
		lists := [][]int{slices.Repeat([]int{1}, m), slices.Repeat([]int{9}, m), weightsOf(m, seed), weightsOf(m, seed+9), countUp(m)}
		lists[4][0] = seed % 3 // 0 beside others, for several requests
		for _, weights := range lists {
			if plainTotal(weights) == 0 {
				weights[0] = 5
			}
			for length := range 4 {
				g := allDrawn(weights, length)
				best, ok := impl.IndependentBest(p, start, weights, length)
				if want := big.NewRat(int64(g.ahead(p, nil)[start]), int64(plainTotal(g.weights))); !isExactly(best, ok, want) {
					t.Fatalf("IndependentBest(%v, %d, %v, %d) = %v, %v and not %v", p, start, weights, length, best, ok, want)
				}
				if best.Den > 10000 {
					great++
				}
				if len(g.seqs) > 12 || slices.Max(g.weights) > 9 {
					continue
				}
				asChances++
				if told, ok := impl.BestExpected(p, start, impl.Chances{Weights: g.weights, Seqs: g.seqs}); !ok || told != best {
					t.Fatalf("IndependentBest(%v, %d, %v, %d) = %v and not %v", p, start, weights, length, best, told)
				}
			}
		}
	})
	if asChances < 1000 || great < 5 {
		t.Error("only", asChances, great)
	}
}

func TestNamedIndependentRequests(t *testing.T) {
	for _, c := range []struct {
		p       impl.Problem
		start   int
		weights []int
		length  int
		best    impl.Frac
	}{
		{swap(), 0, []int{1, 1}, 0, over(0, 1)},
		{swap(), 0, []int{0, 9}, 0, over(0, 1)},
		{swap(), 0, []int{1, 1}, 1, over(1, 2)},
		{swap(), 0, []int{9, 9}, 1, over(1, 2)},
		{swap(), 0, []int{9, 1}, 1, over(1, 10)},
		{swap(), 0, []int{9, 0}, 3, over(0, 1)},
		{swap(), 0, []int{0, 9}, 3, over(1, 1)},
		{swap(), 0, []int{0, 1}, 3, over(1, 1)},
		{swap(), 0, []int{1, 1}, 2, over(1, 1)},
		{swap(), 1, []int{1, 1}, 3, over(3, 2)},
		{problem(1, nil, []int{20}, []int{0}, []int{3}, []int{19}), 0, []int{9, 0, 0, 9}, 3, over(117, 2)},
		{problem(1, nil, []int{20}, []int{0}, []int{3}, []int{19}), 0, []int{9, 9, 9, 9}, 3, over(63, 2)},
	} {
		if best, ok := impl.IndependentBest(c.p, c.start, c.weights, c.length); !ok || best != c.best {
			t.Errorf("IndependentBest(%v, %d, %v, %d) = %v, %v", c.p, c.start, c.weights, c.length, best, ok)
		}
	}
}

// marked is what random marking holds, as sets with a bit for each item, with their probabilities.
type marked map[int]*big.Rat

// add adds a probability to one of a set.
func (m marked) add(set int, odd *big.Rat) {
	if m[set] == nil {
		m[set] = new(big.Rat)
	}
	m[set].Add(m[set], odd)
}

// itemsIn returns the items of a set.
func itemsIn(set int) []int {
	items := []int{}
	for item := range 8 {
		if set>>item&1 == 1 {
			items = append(items, item)
		}
	}
	return items
}

// plainMarking follows random marking request by request, and returns what it can hold and the mean of the number of faults.
func plainMarking(size int, reqs []int) (marked, *big.Rat) {
	held, faults := marked{0: big.NewRat(1, 1)}, new(big.Rat)
	begins := plainPhases(size, reqs)
	for place, item := range reqs {
		after := marked{}
		for set, odd := range held {
			items := itemsIn(set)
			if slices.Contains(items, item) {
				after.add(set, odd)
				continue
			}
			faults.Add(faults, odd)
			if len(items) < size {
				after.add(set|1<<item, odd)
				continue
			}
			out := slices.DeleteFunc(items, func(old int) bool { return slices.Contains(reqs[begins[place]:place], old) })
			for _, old := range out {
				after.add(set&^(1<<old)|1<<item, new(big.Rat).Mul(odd, big.NewRat(1, int64(len(out)))))
			}
		}
		held = after
	}
	return held, faults
}

// plainClean returns the CleanCounts.
func plainClean(size int, reqs []int) []int {
	phases := [][]int{}
	for place, begin := range plainPhases(size, reqs) {
		if begin == place {
			phases = append(phases, nil)
		}
		last := len(phases) - 1
		if !slices.Contains(phases[last], reqs[place]) {
			phases[last] = append(phases[last], reqs[place])
		}
	}
	counts := []int{}
	for i, items := range phases {
		count := 0
		for _, item := range items {
			if i == 0 || !slices.Contains(phases[i-1], item) {
				count++
			}
		}
		counts = append(counts, count)
	}
	return counts
}

// plainHarmonic returns the sum of 1, 1/2, .. up to 1/n.
func plainHarmonic(n int) *big.Rat {
	sum := new(big.Rat)
	for i := range n {
		sum.Add(sum, big.NewRat(1, int64(i+1)))
	}
	return sum
}

// checkContents checks what random marking can hold after a sequence.
func checkContents(t *testing.T, n int, size int, reqs []int, held marked) {
	t.Helper()
	lists, odds, ok := impl.MarkContents(n, size, reqs)
	if !ok || len(lists) != len(held) || len(odds) != len(held) || !areOdds(odds) || !slices.IsSortedFunc(lists, slices.Compare) {
		t.Fatalf("MarkContents(%d, %d, %v) = %v, %v, %v", n, size, reqs, lists, odds, ok)
	}
	phase := []int{}
	if len(reqs) > 0 {
		phase = reqs[plainPhases(size, reqs)[len(reqs)-1]:]
	}
	for i, list := range lists {
		set := 0
		for _, item := range list {
			set |= 1 << item
		}
		if !slices.Equal(list, itemsIn(set)) || held[set] == nil || !isExactly(odds[i], true, held[set]) {
			t.Fatalf("MarkContents(%d, %d, %v) = %v, %v and not %v", n, size, reqs, lists, odds, held)
		}
		for _, item := range phase {
			if !slices.Contains(list, item) {
				t.Fatalf("MarkContents(%d, %d, %v) = %v", n, size, reqs, lists)
			}
		}
	}
}

// checkMarking checks what is told of random marking on a sequence.
func checkMarking(t *testing.T, n int, size int, reqs []int) {
	t.Helper()
	held, mean := plainMarking(size, reqs)
	checkContents(t, n, size, reqs, held)
	faults, ok := impl.MarkFaults(n, size, reqs)
	if !isExactly(faults, ok, mean) {
		t.Fatalf("MarkFaults(%d, %d, %v) = %v, %v and not %v", n, size, reqs, faults, ok, mean)
	}
	clean := plainClean(size, reqs)
	if counts, ok := impl.CleanCounts(n, size, reqs); !isList(counts, ok, clean...) {
		t.Fatalf("CleanCounts(%d, %d, %v) = %v, %v and not %v", n, size, reqs, counts, ok, clean)
	}
	want := new(big.Rat)
	for _, c := range clean {
		factor := new(big.Rat).Sub(plainHarmonic(size), plainHarmonic(c))
		factor.Add(factor, big.NewRat(1, 1))
		want.Add(want, factor.Mul(factor, big.NewRat(int64(c), 1)))
	}
	bound, ok := impl.MarkBound(n, size, reqs)
	if !isExactly(bound, ok, want) {
		t.Fatalf("MarkBound(%d, %d, %v) = %v, %v and not %v", n, size, reqs, bound, ok, want)
	}
	fewest, _ := impl.FewestFaults(size, n, reqs)
	most := new(big.Rat).Mul(plainHarmonic(size), big.NewRat(int64(2*fewest), 1))
	if compareRatios(faults, bound) > 0 || exact(bound).Cmp(most) > 0 {
		t.Fatalf("%d, %d, %v: %v faults, the bound %v, %d faults at least", n, size, reqs, faults, bound, fewest)
	}
}

// Promise 11: the probabilities of MarkContents have the sum 1, its lists hold all items of the phase, MarkFaults is at most MarkBound, and this at most two times Harmonic of the Size times the fewest faults.
func TestRandomMarking(t *testing.T) {
	check := func(n int, reqs []int) {
		for size := 1; size <= 6; size++ {
			checkMarking(t, n, size, reqs)
		}
	}
	onManySequences(check)
	onLongSequences(check)
}

func TestNamedMarking(t *testing.T) {
	for _, c := range []struct {
		n, size int
		reqs    []int
		lists   [][]int
		odds    []impl.Frac
		clean   []int
		faults  impl.Frac
		bound   impl.Frac
	}{
		{3, 2, []int{0, 1, 2, 1}, [][]int{{1, 2}}, []impl.Frac{over(1, 1)}, []int{2, 1}, over(7, 2), over(7, 2)},
		{3, 2, []int{0, 1, 2}, [][]int{{0, 2}, {1, 2}}, []impl.Frac{over(1, 2), over(1, 2)}, []int{2, 1}, over(3, 1), over(7, 2)},
		// Nothing is held at first.
		{3, 2, nil, [][]int{{}}, []impl.Frac{over(1, 1)}, nil, over(0, 1), over(0, 1)},
		{1, 6, nil, [][]int{{}}, []impl.Frac{over(1, 1)}, nil, over(0, 1), over(0, 1)},
		// One phase, with items that leave room or not.
		{3, 2, []int{1, 1, 1}, [][]int{{1}}, []impl.Frac{over(1, 1)}, []int{1}, over(1, 1), over(3, 2)},
		{3, 3, []int{2, 0, 2, 1, 0}, [][]int{{0, 1, 2}}, []impl.Frac{over(1, 1)}, []int{3}, over(3, 1), over(3, 1)},
		{8, 6, []int{7, 0, 3}, [][]int{{0, 3, 7}}, []impl.Frac{over(1, 1)}, []int{3}, over(3, 1), over(97, 20)},
		{3, 6, []int{2, 0, 2, 1, 0}, [][]int{{0, 1, 2}}, []impl.Frac{over(1, 1)}, []int{3}, over(3, 1), over(97, 20)},
		// A Size of 1 holds the last item.
		{3, 1, []int{0, 0, 2, 1, 1, 0}, [][]int{{0}}, []impl.Frac{over(1, 1)}, []int{1, 1, 1, 1}, over(4, 1), over(4, 1)},
		// Items that are held for sure stand between those that may have been taken out.
		{4, 3, []int{0, 1, 3, 2}, [][]int{{0, 1, 2}, {0, 2, 3}, {1, 2, 3}}, []impl.Frac{over(1, 3), over(1, 3), over(1, 3)}, []int{3, 1}, over(4, 1), over(29, 6)},
		{4, 3, []int{0, 1, 3, 2, 0}, [][]int{{0, 1, 2}, {0, 2, 3}}, []impl.Frac{over(1, 2), over(1, 2)}, []int{3, 1}, over(13, 3), over(29, 6)},
		{4, 3, []int{0, 1, 3, 2, 0, 3}, [][]int{{0, 2, 3}}, []impl.Frac{over(1, 1)}, []int{3, 1}, over(29, 6), over(29, 6)},
		{5, 3, []int{0, 1, 2, 3, 4}, [][]int{{0, 3, 4}, {1, 3, 4}, {2, 3, 4}}, []impl.Frac{over(1, 3), over(1, 3), over(1, 3)}, []int{3, 2}, over(5, 1), over(17, 3)},
		{5, 3, []int{0, 1, 2, 3, 4, 1}, [][]int{{1, 3, 4}}, []impl.Frac{over(1, 1)}, []int{3, 2}, over(17, 3), over(17, 3)},
	} {
		lists, odds, one := impl.MarkContents(c.n, c.size, c.reqs)
		if !isLists(lists, one, c.lists...) || !slices.Equal(odds, c.odds) {
			t.Errorf("MarkContents(%d, %d, %v) = %v, %v, %v", c.n, c.size, c.reqs, lists, odds, one)
		}
		clean, two := impl.CleanCounts(c.n, c.size, c.reqs)
		faults, three := impl.MarkFaults(c.n, c.size, c.reqs)
		bound, four := impl.MarkBound(c.n, c.size, c.reqs)
		if !isList(clean, two, c.clean...) || !three || !four || faults != c.faults || bound != c.bound {
			t.Errorf("%d, %d, %v: %v, %v, %v", c.n, c.size, c.reqs, clean, faults, bound)
		}
	}
	for size := 1; size <= 6; size++ {
		checkMarking(t, 8, size, nil)
		checkMarking(t, 1, size, make([]int, 60))
	}
}

// plainFaults returns the mean of the number of faults of all sequences of a length.
func plainFaults(policy int, size int, weights []int, length int) *big.Rat {
	g := allDrawn(weights, length)
	counts := []int{}
	for _, reqs := range g.seqs {
		c := &plainCache{policy: policy, size: size}
		count := 0
		for _, item := range reqs {
			if _, fault := c.request(item); fault {
				count++
			}
		}
		counts = append(counts, count)
	}
	return plainMean(g.weights, counts)
}

// Promise 11: ExpectedFaults is the mean over all sequences.
func TestExpectedFaults(t *testing.T) {
	for _, weights := range [][]int{
		{1}, {9}, {1, 1}, {9, 1}, {1, 9}, {0, 1}, {9, 0}, {0, 9}, {5, 5}, {3, 4}, {1, 1, 1}, {0, 0, 1}, {0, 7, 0}, {4, 0, 5}, {8, 1, 1}, {2, 3, 5}, {1, 1, 1, 1},
		{0, 3, 4, 3}, {3, 0, 3, 4}, {1, 2, 3, 4}, {2, 2, 2, 2, 2}, {1, 1, 1, 1, 1, 1, 1, 1}, {1, 1, 1, 1, 1, 1, 2, 2}, {0, 0, 0, 0, 0, 0, 0, 1}, {3, 1, 1, 1, 1, 1, 1, 1}, {0, 1, 0, 2, 0, 3, 0, 4},
	} {
		for policy := 1; policy <= 7; policy++ {
			for size := 1; size <= 6; size++ {
				for length := range 5 {
					if length == 4 && len(weights) > 4 && (policy+size)%6 > 0 {
						continue
					}
					want := plainFaults(policy, size, weights, length)
					if mean, ok := impl.ExpectedFaults(len(weights), policy, size, weights, length); !isExactly(mean, ok, want) {
						t.Fatalf("ExpectedFaults(%d, %d, %d, %v, %d) = %v, %v and not %v", len(weights), policy, size, weights, length, mean, ok, want)
					}
				}
			}
		}
	}
}

func TestNamedExpectedFaults(t *testing.T) {
	for _, c := range []struct {
		policy, size int
		weights      []int
		length       int
		mean         impl.Frac
	}{
		{impl.CacheLRU, 1, []int{1}, 0, over(0, 1)},
		{impl.CacheLRU, 1, []int{9}, 4, over(1, 1)},
		{impl.CacheLRU, 1, []int{1, 1}, 2, over(3, 2)},
		{impl.CacheLRU, 1, []int{5, 5}, 4, over(5, 2)},
		{impl.CacheLRU, 1, []int{9, 1}, 2, over(59, 50)},
		{impl.CacheFIFO, 6, []int{0, 1, 0}, 4, over(1, 1)},
		{impl.CacheFIFO, 6, []int{1, 1, 1, 1, 1, 1, 1, 1}, 2, over(15, 8)},
		{impl.CacheLIFO, 2, []int{1, 1, 1}, 3, over(19, 9)},
		{impl.CacheMRU, 1, []int{1, 2, 7}, 4, over(119, 50)},
	} {
		if mean, ok := impl.ExpectedFaults(len(c.weights), c.policy, c.size, c.weights, c.length); !ok || mean != c.mean {
			t.Errorf("ExpectedFaults of %d, %d, %v, %d = %v, %v", c.policy, c.size, c.weights, c.length, mean, ok)
		}
	}
}

// Promise 11: PayoffsOf are the AlgorithmCosts.
func TestPayoffs(t *testing.T) {
	onMixedProblems(func(p impl.Problem, start int, seed int) {
		nexts, seqs := algorithmsFor(p)[1:], append(longSequences(len(p.Serve), seed), sequencesOver(len(p.Serve), 1)...)[:min(8, 12)]
		for count := 1; count <= 4; count++ {
			for _, part := range [][][]int{seqs[:1], seqs[2:3], seqs, append(slices.Clone(seqs), seqs[1:5]...)} {
				want := [][]int{}
				for _, next := range nexts[:count] {
					row := []int{}
					for _, reqs := range part {
						cost, _ := impl.AlgorithmCost(p, next, start, reqs)
						if cost != plainCost(p, next, start, reqs) {
							t.Fatalf("AlgorithmCost(%v, %v, %d, %v) = %v", p, next, start, reqs, cost)
						}
						row = append(row, cost)
					}
					want = append(want, row)
				}
				if payoffs, ok := impl.PayoffsOf(p, nexts[:count], start, part); !isLists(payoffs, ok, want...) {
					t.Fatalf("PayoffsOf(%v, %v, %d, %v) = %v, %v and not %v", p, nexts[:count], start, part, payoffs, ok, want)
				}
			}
		}
	})
}

// columnsOf returns the columns of a matrix.
func columnsOf(matrix [][]int) [][]int {
	columns := [][]int{}
	for j := range matrix[0] {
		column := []int{}
		for _, row := range matrix {
			column = append(column, row[j])
		}
		columns = append(columns, column)
	}
	return columns
}

// worstMean returns the greatest mean of some lists with weights, or with -1 as the sign the least one.
func worstMean(lists [][]int, weights []int, sign int) *big.Rat {
	var worst *big.Rat
	for _, list := range lists {
		if mean := plainMean(weights, list); worst == nil || mean.Cmp(worst)*sign > 0 {
			worst = mean
		}
	}
	return worst
}

// product returns the sum of the products of exact numbers and integers.
func product(numbers []*big.Rat, list []int) *big.Rat {
	sum := new(big.Rat)
	for i, x := range numbers {
		sum.Add(sum, new(big.Rat).Mul(x, big.NewRat(int64(list[i]), 1)))
	}
	return sum
}

// solveEquations returns the numbers for which all sums of products of them and a row are the last number of the row, and whether there is exactly one such list. There are as many rows as numbers.
func solveEquations(rows [][]*big.Rat) ([]*big.Rat, bool) {
	n := len(rows)
	for at := range n {
		pivot := slices.IndexFunc(rows[at:], func(row []*big.Rat) bool { return row[at].Sign() != 0 })
		if pivot < 0 {
			return nil, false
		}
		rows[at], rows[at+pivot] = rows[at+pivot], rows[at]
		for i := range rows {
			if i == at {
				continue
			}
			factor := new(big.Rat).Quo(rows[i][at], rows[at][at])
			for j := range rows[i] {
				rows[i][j] = new(big.Rat).Sub(rows[i][j], new(big.Rat).Mul(factor, rows[at][j]))
			}
		}
	}
	numbers := []*big.Rat{}
	for at := range n {
		numbers = append(numbers, new(big.Rat).Quo(rows[at][n], rows[at][at]))
	}
	return numbers, true
}

// plainEven returns the numbers with the sum 1 with which all lists lead to the same sum, this sum behind them, and whether there is exactly one such list.
func plainEven(lists [][]int) ([]*big.Rat, bool) {
	n := len(lists)
	equations := [][]*big.Rat{}
	for _, list := range lists {
		row := []*big.Rat{}
		for _, number := range list {
			row = append(row, big.NewRat(int64(number), 1))
		}
		equations = append(equations, append(row, big.NewRat(-1, 1), new(big.Rat)))
	}
	last := []*big.Rat{}
	for range n {
		last = append(last, big.NewRat(1, 1))
	}
	return solveEquations(append(equations, append(last, new(big.Rat), big.NewRat(1, 1))))
}

// plainChoices are the lists of k numbers below n in ascending order.
func plainChoices(n int, k int) [][]int {
	choices := [][]int{}
	eachChoice(k, countUp(n), func(list []int) {
		if slices.IsSorted(list) && len(slices.Compact(slices.Clone(list))) == k {
			choices = append(choices, slices.Clone(list))
		}
	})
	return choices
}

// spread returns numbers at their places, and 0 at all others.
func spread(numbers []*big.Rat, places []int, count int) []*big.Rat {
	all := []*big.Rat{}
	for range count {
		all = append(all, new(big.Rat))
	}
	for i, place := range places {
		all[place] = numbers[i]
	}
	return all
}

// isSolution says whether probabilities and a value are a solution of a matrix.
func isSolution(matrix [][]int, rows []*big.Rat, columns []*big.Rat, value *big.Rat) bool {
	ones := slices.Repeat([]int{1}, 3)
	for _, list := range [][]*big.Rat{rows, columns} {
		if product(list, ones).Cmp(big.NewRat(1, 1)) != 0 || slices.ContainsFunc(list, func(x *big.Rat) bool { return x.Sign() < 0 }) {
			return false
		}
	}
	return !slices.ContainsFunc(columnsOf(matrix), func(column []int) bool { return product(rows, column).Cmp(value) > 0 }) &&
		!slices.ContainsFunc(matrix, func(row []int) bool { return product(columns, row).Cmp(value) < 0 })
}

// plainSolve returns the solution of a matrix that is found first.
func plainSolve(matrix [][]int) (rows []*big.Rat, columns []*big.Rat, value *big.Rat) {
	for k := 1; k <= 3; k++ {
		for _, r := range plainChoices(len(matrix), k) {
			for _, c := range plainChoices(len(matrix[0]), k) {
				part := [][]int{}
				for _, i := range r {
					row := []int{}
					for _, j := range c {
						row = append(row, matrix[i][j])
					}
					part = append(part, row)
				}
				x, one := plainEven(columnsOf(part))
				y, two := plainEven(part)
				if !one || !two || x[k].Cmp(y[k]) != 0 {
					continue
				}
				rows, columns = spread(x[:k], r, len(matrix)), spread(y[:k], c, len(matrix[0]))
				if isSolution(matrix, rows, columns, x[k]) {
					return rows, columns, x[k]
				}
			}
		}
	}
	return nil, nil, nil
}

// checkMatrix checks the solution of a matrix, and the worst of all weights of some numbers.
func checkMatrix(t *testing.T, matrix [][]int, from []int) {
	t.Helper()
	rows, columns, value, ok := impl.SolveMatrix(matrix)
	wantRows, wantColumns, want := plainSolve(matrix)
	if want == nil || !areExactly(rows, ok, wantRows) || !areExactly(columns, ok, wantColumns) || !isExactly(value, ok, want) {
		t.Fatalf("SolveMatrix(%v) = %v, %v, %v, %v and not %v, %v, %v", matrix, rows, columns, value, ok, wantRows, wantColumns, want)
	}
	eachChoice(len(matrix), from, func(weights []int) {
		worst, ok := impl.RowsWorst(matrix, weights)
		if plainTotal(weights) == 0 {
			if ok || worst != (impl.Frac{}) {
				t.Fatalf("RowsWorst(%v, %v) = %v, %v", matrix, weights, worst, ok)
			}
		} else if !isExactly(worst, ok, worstMean(columnsOf(matrix), weights, 1)) || compareRatios(worst, value) < 0 {
			t.Fatalf("RowsWorst(%v, %v) = %v, %v with the value %v", matrix, weights, worst, ok, value)
		}
	})
	eachChoice(len(matrix[0]), from, func(weights []int) {
		worst, ok := impl.ColumnsWorst(matrix, weights)
		if plainTotal(weights) == 0 {
			if ok || worst != (impl.Frac{}) {
				t.Fatalf("ColumnsWorst(%v, %v) = %v, %v", matrix, weights, worst, ok)
			}
		} else if !isExactly(worst, ok, worstMean(matrix, weights, -1)) || compareRatios(worst, value) > 0 {
			t.Fatalf("ColumnsWorst(%v, %v) = %v, %v with the value %v", matrix, weights, worst, ok, value)
		}
	})
}

// eachMatrix calls visit with all matrices of some rows and columns with numbers of from.
func eachMatrix(rows int, columns int, from []int, visit func(matrix [][]int)) {
	eachChoice(rows*columns, from, func(list []int) {
		visit(slices.Collect(slices.Chunk(slices.Clone(list), columns)))
	})
}

// Promise 11: the numbers of SolveMatrix are a solution, the first one of all choices, no weights of rows have a RowsWorst below its value and no weights of columns a ColumnsWorst above it.
func TestMatrices(t *testing.T) {
	few := []int{0, 1, 5}
	check := func(matrix [][]int) { checkMatrix(t, matrix, few) }
	for rows := 1; rows <= 3; rows++ {
		for columns := 1; columns <= 3; columns++ {
			switch rows * columns {
			case 9:
				eachMatrix(rows, columns, []int{0, 1}, check)
			case 6:
				eachMatrix(rows, columns, []int{0, 2, 3}, check)
			default:
				eachMatrix(rows, columns, []int{0, 1, 3, 40}, check)
			}
		}
	}
	for seed := range 600 {
		numbers, most := statesOf(seed, 9), []int{41, 4, 7}[seed%3]
		list := []int{}
		for _, state := range numbers {
			list = append(list, int(state/16)%most)
		}
		check(slices.Collect(slices.Chunk(list, 3)))
	}
}

func TestNamedMatrices(t *testing.T) {
	zero, half, one := over(0, 1), over(1, 2), over(1, 1)
	for _, c := range []struct {
		matrix  [][]int
		rows    []impl.Frac
		columns []impl.Frac
		value   impl.Frac
	}{
		{[][]int{{0}}, []impl.Frac{one}, []impl.Frac{one}, zero},
		{[][]int{{40}}, []impl.Frac{one}, []impl.Frac{one}, over(40, 1)},
		// One row, and one column.
		{[][]int{{3, 7, 5}}, []impl.Frac{one}, []impl.Frac{zero, one, zero}, over(7, 1)},
		{[][]int{{3}, {7}, {5}}, []impl.Frac{one, zero, zero}, []impl.Frac{one}, over(3, 1)},
		{[][]int{{5, 7, 7}}, []impl.Frac{one}, []impl.Frac{zero, one, zero}, over(7, 1)},
		{[][]int{{9}, {4}, {4}}, []impl.Frac{zero, one, zero}, []impl.Frac{one}, over(4, 1)},
		// Equal numbers have many solutions.
		{[][]int{{5, 5}, {5, 5}}, []impl.Frac{one, zero}, []impl.Frac{one, zero}, over(5, 1)},
		{[][]int{{0, 0, 0}, {0, 0, 0}, {0, 0, 0}}, []impl.Frac{one, zero, zero}, []impl.Frac{one, zero, zero}, zero},
		{[][]int{{40, 40, 40}, {40, 40, 40}}, []impl.Frac{one, zero}, []impl.Frac{one, zero, zero}, over(40, 1)},
		{[][]int{{0, 2}, {1, 0}}, []impl.Frac{over(1, 3), over(2, 3)}, []impl.Frac{over(2, 3), over(1, 3)}, over(2, 3)},
		{[][]int{{0, 1}, {1, 0}}, []impl.Frac{half, half}, []impl.Frac{half, half}, half},
		{[][]int{{40, 0}, {0, 40}}, []impl.Frac{half, half}, []impl.Frac{half, half}, over(20, 1)},
		{[][]int{{39, 0}, {0, 40}}, []impl.Frac{over(40, 79), over(39, 79)}, []impl.Frac{over(40, 79), over(39, 79)}, over(1560, 79)},
		// Rows and columns that are not needed.
		{[][]int{{0, 2}, {3, 3}, {1, 0}}, []impl.Frac{over(1, 3), zero, over(2, 3)}, []impl.Frac{over(2, 3), over(1, 3)}, over(2, 3)},
		{[][]int{{0, 2}, {1, 0}, {1, 0}}, []impl.Frac{over(1, 3), over(2, 3), zero}, []impl.Frac{over(2, 3), over(1, 3)}, over(2, 3)},
		{[][]int{{0, 0, 2}, {0, 1, 0}}, []impl.Frac{over(1, 3), over(2, 3)}, []impl.Frac{zero, over(2, 3), over(1, 3)}, over(2, 3)},
		{[][]int{{0, 4, 4}, {4, 0, 4}}, []impl.Frac{one, zero}, []impl.Frac{zero, zero, one}, over(4, 1)},
		// All three of both.
		{[][]int{{20, 40, 0}, {0, 20, 40}, {40, 0, 20}}, []impl.Frac{over(1, 3), over(1, 3), over(1, 3)}, []impl.Frac{over(1, 3), over(1, 3), over(1, 3)}, over(20, 1)},
		{[][]int{{40, 0, 0}, {0, 20, 0}, {0, 0, 10}}, []impl.Frac{over(1, 7), over(2, 7), over(4, 7)}, []impl.Frac{over(1, 7), over(2, 7), over(4, 7)}, over(40, 7)},
		{[][]int{{0, 0, 10}, {0, 20, 0}, {40, 0, 0}}, []impl.Frac{over(4, 7), over(2, 7), over(1, 7)}, []impl.Frac{over(1, 7), over(2, 7), over(4, 7)}, over(40, 7)},
	} {
		rows, columns, value, ok := impl.SolveMatrix(c.matrix)
		if !ok || !slices.Equal(rows, c.rows) || !slices.Equal(columns, c.columns) || value != c.value {
			t.Errorf("SolveMatrix(%v) = %v, %v, %v, %v", c.matrix, rows, columns, value, ok)
		}
		checkMatrix(t, c.matrix, countUp(10))
	}
	for _, c := range []struct {
		weights       []int
		rows, columns impl.Frac
	}{
		{[]int{1, 0}, over(2, 1), zero},
		{[]int{0, 9}, over(1, 1), zero},
		{[]int{1, 1}, over(1, 1), half},
		{[]int{1, 9}, over(9, 10), over(1, 10)},
		{[]int{9, 1}, over(9, 5), over(1, 5)},
	} {
		high, one := impl.RowsWorst([][]int{{0, 2}, {1, 0}}, c.weights)
		low, two := impl.ColumnsWorst([][]int{{0, 2}, {1, 0}}, c.weights)
		if !one || !two || high != c.rows || low != c.columns {
			t.Errorf("the weights %v have %v and %v", c.weights, high, low)
		}
	}
}

// wholeWeights returns the weights that stand for probabilities, and the indices of those that are not 0.
func wholeWeights(odds []impl.Frac) (weights []int, at []int) {
	whole := 1
	for _, a := range odds {
		whole *= a.Den / int(new(big.Int).GCD(nil, nil, big.NewInt(int64(a.Den)), big.NewInt(int64(whole))).Int64())
	}
	for i, a := range odds {
		if a.Num > 0 {
			weights, at = append(weights, a.Num*whole/a.Den), append(at, i)
		}
	}
	return weights, at
}

// A matrix of payoffs bounds what can be done: a Mixture with the probabilities of rows costs at most the value on its sequences, and each of its algorithms at least the value on Chances with those of columns.
func TestSolutionsOfPayoffs(t *testing.T) {
	p := swap()
	stay, leave, follow, turn := [][]int{{0, 0}, {0, 0}}, [][]int{{1, 1}, {1, 1}}, [][]int{{0, 1}, {0, 1}}, [][]int{{1, 1}, {0, 0}}
	for _, s := range []struct {
		nexts [][][]int
		seqs  [][]int
		value impl.Frac
	}{
		{[][][]int{stay, leave, follow}, [][]int{{}}, over(0, 1)},
		{[][][]int{stay, leave, follow}, [][]int{{0, 0}, {1, 1}, {1, 0}}, over(2, 1)},
		{[][][]int{stay, leave}, [][]int{{0}, {1}}, over(3, 2)},
		{[][][]int{stay, leave}, [][]int{{0, 0}, {1, 1}, {1, 0}}, over(5, 2)},
		{[][][]int{stay, leave, turn}, [][]int{{0, 0}, {1, 1}, {1, 0}}, over(5, 2)},
		{[][][]int{stay, turn, leave}, [][]int{{1, 0, 1}, {0, 1, 1}, {1, 1, 0}}, over(3, 1)},
	} {
		matrix, one := impl.PayoffsOf(p, s.nexts, 0, s.seqs)
		rows, columns, value, two := impl.SolveMatrix(matrix)
		if !one || !two || value != s.value {
			t.Errorf("SolveMatrix(%v) = %v, %v, %v, %v", matrix, rows, columns, value, two)
		}
		x, c := impl.Mixture{}, impl.Chances{}
		var chosen, drawn []int
		x.Weights, chosen = wholeWeights(rows)
		c.Weights, drawn = wholeWeights(columns)
		for _, i := range chosen {
			x.Nexts = append(x.Nexts, s.nexts[i])
		}
		for _, i := range drawn {
			c.Seqs = append(c.Seqs, s.seqs[i])
		}
		for _, reqs := range s.seqs {
			if cost, ok := impl.MixtureCost(p, x, 0, reqs); !ok || compareRatios(cost, value) > 0 {
				t.Errorf("%v costs %v, %v on %v, with the value %v", x, cost, ok, reqs, value)
			}
		}
		for _, next := range s.nexts {
			if cost, ok := impl.ExpectedCost(p, next, 0, c); !ok || compareRatios(cost, value) < 0 {
				t.Errorf("%v costs %v, %v on %v, with the value %v", next, cost, ok, c, value)
			}
		}
	}
}

// randomArgs are arguments for the functions of chapter 11.
type randomArgs struct {
	p       impl.Problem
	x       impl.Mixture
	next    [][]int
	start   int
	reqs    []int
	worst   int
	c       impl.Chances
	seen    []int
	kinds   []int
	drawn   int
	n       int
	size    int
	policy  int
	items   []int
	odds    []int
	length  int
	nexts   [][][]int
	seqs    [][]int
	matrix  [][]int
	rows    []int
	columns []int
}

// roomy is a list of lists with room before it and behind it.
func roomy(lists ...[]int) [][]int {
	return append([][]int{{99}}, append(lists, []int{44}, []int{33})...)[1 : len(lists)+1]
}

// goodRandom are valid ones, of the Problem of goodProblem with three states and two requests. All lists are windows with room behind them.
func goodRandom() randomArgs {
	one := func() [][]int { return roomy(window(1, 1), window(2, 1), window(2, 1)) }
	two := func() [][]int { return roomy(window(1, 1), window(1, 1), window(1, 1)) }
	return randomArgs{
		p:    goodProblem().p,
		x:    impl.Mixture{Weights: window(2, 9), Nexts: [][][]int{{{88}}, one(), two(), {{77}}}[1:3]},
		next: one(), start: 0,
		reqs:  window(0, 1, 0, 0),
		worst: 3,
		c:     impl.Chances{Weights: window(1, 9, 3), Seqs: roomy(window(0, 1, 0), window(0, 0, 0), window(1, 0, 0))},
		seen:  window(0, 0),
		kinds: window(3, 0), drawn: 2,
		n: 4, size: 3, policy: impl.CacheLRU,
		items: window(0, 1, 2, 3, 1), odds: window(1, 0, 4, 5), length: 3,
		nexts:  [][][]int{{{88}}, two(), one(), {{77}}}[1:3],
		seqs:   roomy(window(1, 1), window(0), window()),
		matrix: roomy(window(3, 0, 5), window(1, 4, 2)),
		rows:   window(2, 3), columns: window(0, 9, 1),
	}
}

// randomCall is a function, and which arguments it uses: p for the Problem, x for the Mixture, a for the algorithm, s for the start, q for the requests, w for the length of the worst sequence, c for the Chances, e for the requests that are seen, k for the weights of requests, d for the length of drawn requests, n for the number of items, z for the Size, o for the Policy, u for the sequence of items, v for the weights of items, l for their length, y for the algorithms, t for the sequences, m for the matrix, r for the weights of rows and j for those of columns.
type randomCall struct {
	uses string
	call func(s randomArgs) (zero bool, ok bool)
}

// emptyAnd says whether a list and a value are zero values.
func emptyAnd[E any, V comparable](list []E, value V, ok bool) (bool, bool) {
	return len(list) == 0 && value == *new(V), ok
}

// emptyBoth says whether two lists are empty.
func emptyBoth[E any, F any](list []E, other []F, ok bool) (bool, bool) {
	return len(list)+len(other) == 0, ok
}

var randomCalls = map[string]randomCall{
	"IsMixture":      {"p", func(s randomArgs) (bool, bool) { return zeroOf(impl.IsMixture(s.p, s.x)) }},
	"MixtureCost":    {"pxsq", func(s randomArgs) (bool, bool) { return zeroOf(impl.MixtureCost(s.p, s.x, s.start, s.reqs)) }},
	"MixtureStates":  {"pxsq", func(s randomArgs) (bool, bool) { return emptyList(impl.MixtureStates(s.p, s.x, s.start, s.reqs)) }},
	"WorstOfMixture": {"pxsw", func(s randomArgs) (bool, bool) { return emptyAnd(impl.WorstOfMixture(s.p, s.x, s.start, s.worst)) }},
	"IsChances":      {"p", func(s randomArgs) (bool, bool) { return zeroOf(impl.IsChances(s.p, s.c)) }},
	"ExpectedCost":   {"pasc", func(s randomArgs) (bool, bool) { return zeroOf(impl.ExpectedCost(s.p, s.next, s.start, s.c)) }},
	"ExpectedLeast":  {"psc", func(s randomArgs) (bool, bool) { return zeroOf(impl.ExpectedLeast(s.p, s.start, s.c)) }},
	"BestExpected":   {"psc", func(s randomArgs) (bool, bool) { return zeroOf(impl.BestExpected(s.p, s.start, s.c)) }},
	"BestReply":      {"psce", func(s randomArgs) (bool, bool) { return zeroOf(impl.BestReply(s.p, s.start, s.c, s.seen)) }},
	"IndependentBest": {"pskd", func(s randomArgs) (bool, bool) {
		return zeroOf(impl.IndependentBest(s.p, s.start, s.kinds, s.drawn))
	}},
	"MarkContents": {"nzu", func(s randomArgs) (bool, bool) { return emptyBoth(impl.MarkContents(s.n, s.size, s.items)) }},
	"MarkFaults":   {"nzu", func(s randomArgs) (bool, bool) { return zeroOf(impl.MarkFaults(s.n, s.size, s.items)) }},
	"CleanCounts":  {"nzu", func(s randomArgs) (bool, bool) { return emptyList(impl.CleanCounts(s.n, s.size, s.items)) }},
	"MarkBound":    {"nzu", func(s randomArgs) (bool, bool) { return zeroOf(impl.MarkBound(s.n, s.size, s.items)) }},
	"ExpectedFaults": {"nzovl", func(s randomArgs) (bool, bool) {
		return zeroOf(impl.ExpectedFaults(s.n, s.policy, s.size, s.odds, s.length))
	}},
	"PayoffsOf":    {"psyt", func(s randomArgs) (bool, bool) { return emptyList(impl.PayoffsOf(s.p, s.nexts, s.start, s.seqs)) }},
	"RowsWorst":    {"mr", func(s randomArgs) (bool, bool) { return zeroOf(impl.RowsWorst(s.matrix, s.rows)) }},
	"ColumnsWorst": {"mj", func(s randomArgs) (bool, bool) { return zeroOf(impl.ColumnsWorst(s.matrix, s.columns)) }},
	"SolveMatrix": {"m", func(s randomArgs) (bool, bool) {
		rows, columns, value, ok := impl.SolveMatrix(s.matrix)
		return len(rows)+len(columns) == 0 && value == (impl.Frac{}), ok
	}},
}

// refuseRandom checks that all functions that use an argument fail.
func refuseRandom(t *testing.T, use string, s randomArgs, what any) {
	t.Helper()
	for name, c := range randomCalls {
		if strings.Contains(c.uses, use) {
			if zero, ok := c.call(s); ok || !zero {
				t.Errorf("%s takes %v: %v, %v", name, what, zero, ok)
			}
		}
	}
}

// takeRandom checks that all functions that use an argument take it.
func takeRandom(t *testing.T, use string, s randomArgs, what any) {
	t.Helper()
	for name, c := range randomCalls {
		if strings.Contains(c.uses, use) {
			if _, ok := c.call(s); !ok {
				t.Errorf("%s refuses %v", name, what)
			}
		}
	}
}

func TestChapter11TakesWhatIsValid(t *testing.T) {
	s := goodRandom()
	takeRandom(t, "", s, "what is valid")
	mixed, one := impl.IsMixture(s.p, s.x)
	drawn, two := impl.IsChances(s.p, s.c)
	if !mixed || !one || !drawn || !two {
		t.Error(mixed, one, drawn, two)
	}
}

func TestChapter11RefusesWhatIsNoProblem(t *testing.T) {
	eachNoProblem(func(p impl.Problem, what any) {
		t.Helper()
		next := [][][]int{{{0}}}
		one := randomArgs{
			p: p, x: impl.Mixture{Weights: []int{1}, Nexts: next}, next: next[0], c: impl.Chances{Weights: []int{1}, Seqs: [][]int{{0}}},
			reqs: []int{0}, seen: []int{0}, kinds: []int{1}, nexts: next, seqs: [][]int{{0}},
		}
		good, none := goodRandom(), one
		good.p = p
		none.reqs, none.c.Seqs, none.seqs = nil, [][]int{{}}, [][]int{{}}
		for _, s := range []randomArgs{good, one, none, {p: p}} {
			refuseRandom(t, "p", s, what)
		}
	})
}

func TestChapter11RefusesOtherStatesAndRequests(t *testing.T) {
	for _, number := range append([]int{-1, 3, 4}, farInts...) {
		s := goodRandom()
		s.start = number
		refuseRandom(t, "s", s, number)
		s.reqs, s.worst, s.drawn, s.seqs, s.c = nil, 0, 0, [][]int{{}}, impl.Chances{Weights: []int{1}, Seqs: [][]int{{}}}
		refuseRandom(t, "s", s, number)
	}
	for start := range 3 {
		s := goodRandom()
		s.start = start
		takeRandom(t, "s", s, start)
	}
	for _, number := range append([]int{-1, 2, 3}, farInts...) {
		for at := range 4 {
			s := goodRandom()
			s.reqs[at] = number
			refuseRandom(t, "q", s, s.reqs)
		}
	}
	for _, length := range []int{61, 62, 100000} {
		s := goodRandom()
		s.reqs = slices.Repeat([]int{1}, length)
		refuseRandom(t, "q", s, length)
	}
	for _, length := range []int{0, 1, 59, 60} {
		s := goodRandom()
		s.reqs = slices.Repeat([]int{1}, length)
		takeRandom(t, "q", s, length)
	}
}

func TestChapter11RefusesOtherLengths(t *testing.T) {
	for _, c := range []struct {
		use  string
		most int
		set  func(s *randomArgs, length int)
	}{
		{"w", 4, func(s *randomArgs, length int) { s.worst = length }},
		{"d", 3, func(s *randomArgs, length int) { s.drawn = length }},
		{"l", 4, func(s *randomArgs, length int) { s.length = length }},
	} {
		for _, length := range append([]int{-1, c.most + 1, c.most + 2, 60}, farInts...) {
			s := goodRandom()
			c.set(&s, length)
			refuseRandom(t, c.use, s, length)
		}
		for length := range c.most + 1 {
			s := goodRandom()
			c.set(&s, length)
			takeRandom(t, c.use, s, length)
		}
	}
}

// badAlgorithms are lists that are no algorithm of the Problem of goodRandom.
func badAlgorithms() [][][]int {
	bad := [][][]int{
		nil, {}, {nil, nil, nil}, {{}, {}, {}}, {{1, 1}}, {{1, 1}, {1, 1}}, {{1, 1}, {1, 1}, {1, 1}, {1, 1}}, {{1, 1}, {1, 1}, nil}, {nil, {1, 1}, {1, 1}},
		{{1}, {1, 1}, {1, 1}}, {{1, 1}, {1, 1}, {1}}, {{1, 1}, {1, 1, 1}, {1, 1}}, {{1, 1, 1}, {1, 1, 1}, {1, 1, 1}}, {{1}, {1}, {1}},
		{{0, 1}, {1, 1}, {1, 1}}, {{1, 0}, {1, 1}, {1, 1}}, {{1, 1}, {1, 2}, {1, 1}}, {{1, 1}, {1, 1}, {1, 0}}, {{1, 1}, {1, 1}, {2, 2}}, // a state in which the request cannot be served
		slices.Repeat([][]int{{1, 1}}, 100000), {make([]int, 100000), {1, 1}, {1, 1}}, {{1, 1}, {1, 1}, make([]int, 100000)},
	}
	for _, number := range append([]int{-1, 3, 4}, farInts...) {
		for at := range 6 {
			next := [][]int{{1, 1}, {1, 1}, {1, 1}}
			next[at/2][at%2] = number
			bad = append(bad, next)
		}
	}
	return bad
}

// refuseMixture checks that a Mixture is refused, but by IsMixture, which tells that it is none.
func refuseMixture(t *testing.T, x impl.Mixture, what any) {
	t.Helper()
	s := goodRandom()
	s.x = x
	refuseRandom(t, "x", s, what)
	s.reqs, s.worst = nil, 0
	refuseRandom(t, "x", s, what)
	if is, ok := impl.IsMixture(s.p, x); !ok || is {
		t.Errorf("IsMixture of %v: %v, %v", what, is, ok)
	}
}

// takeMixture checks that a Mixture is taken.
func takeMixture(t *testing.T, x impl.Mixture) {
	t.Helper()
	s := goodRandom()
	s.x = x
	takeRandom(t, "x", s, x)
	if is, ok := impl.IsMixture(s.p, x); !ok || !is {
		t.Errorf("IsMixture of %v: %v, %v", x, is, ok)
	}
}

// badWeights are lists of other numbers of weights than count, or with one weight that is less than least or greater than 9.
func badWeights(count int, least int) [][]int {
	bad := [][]int{nil, slices.Repeat([]int{1}, count-1), slices.Repeat([]int{1}, count+1), make([]int, 100000), slices.Repeat([]int{1}, 100000)}
	for _, number := range append([]int{least - 1, 10, -1, -9, 11}, farInts...) {
		for at := range count {
			weights := slices.Repeat([]int{1}, count)
			weights[at] = number
			bad = append(bad, weights)
		}
		bad = append(bad, slices.Repeat([]int{number}, count))
	}
	return bad
}

func TestChapter11RefusesOtherMixtures(t *testing.T) {
	next := [][]int{{1, 1}, {2, 1}, {2, 1}}
	for count := 1; count <= 4; count++ {
		nexts := slices.Repeat([][][]int{next}, count)
		for _, weights := range badWeights(count, 1) {
			refuseMixture(t, impl.Mixture{Weights: weights, Nexts: nexts}, weights[:min(len(weights), 5)])
		}
		eachChoice(count, []int{1, 5, 9}, func(weights []int) { takeMixture(t, impl.Mixture{Weights: weights, Nexts: nexts}) })
		for _, bad := range badAlgorithms() {
			for at := range count {
				with := slices.Clone(nexts)
				with[at] = bad
				refuseMixture(t, impl.Mixture{Weights: slices.Repeat([]int{1}, count), Nexts: with}, bad[:min(len(bad), 4)])
				s := goodRandom()
				s.nexts = with
				refuseRandom(t, "y", s, bad[:min(len(bad), 4)])
			}
		}
		s := goodRandom()
		s.nexts = nexts
		takeRandom(t, "y", s, nexts)
	}
	for _, count := range []int{0, 5, 6, 100000} {
		nexts := slices.Repeat([][][]int{next}, count)
		for _, weights := range [][]int{nil, {1}, {1, 1, 1, 1}, slices.Repeat([]int{1}, count)} {
			refuseMixture(t, impl.Mixture{Weights: weights, Nexts: nexts}, count)
		}
		s := goodRandom()
		s.nexts = nexts
		refuseRandom(t, "y", s, count)
	}
	for _, bad := range badAlgorithms() {
		s := goodRandom()
		s.next = bad
		refuseRandom(t, "a", s, bad[:min(len(bad), 4)])
		s.c = impl.Chances{Weights: []int{1}, Seqs: [][]int{{}}}
		refuseRandom(t, "a", s, bad[:min(len(bad), 4)])
	}
}

// refuseChances checks that Chances are refused, but by IsChances, which tells that they are none.
func refuseChances(t *testing.T, c impl.Chances, what any) {
	t.Helper()
	s := goodRandom()
	s.c = c
	for _, seqs := range c.Seqs[:min(len(c.Seqs), 13)] {
		s.seen = seqs[:min(len(seqs), 1)]
		refuseRandom(t, "c", s, what)
	}
	s.seen = []int{0}
	refuseRandom(t, "c", s, what)
	if is, ok := impl.IsChances(s.p, c); !ok || is {
		t.Errorf("IsChances of %v: %v, %v", what, is, ok)
	}
}

// takeChances checks that Chances are taken.
func takeChances(t *testing.T, c impl.Chances) {
	t.Helper()
	s := goodRandom()
	s.c = c
	s.seen = c.Seqs[len(c.Seqs)-1]
	for name, call := range randomCalls {
		if strings.Contains(call.uses, "c") {
			if _, ok := call.call(s); ok != (name != "BestReply" || len(s.seen) > 0) {
				t.Errorf("%s of %v: %v", name, c, ok)
			}
		}
	}
	if is, ok := impl.IsChances(s.p, c); !ok || !is {
		t.Errorf("IsChances of %v: %v, %v", c, is, ok)
	}
}

func TestChapter11RefusesOtherChances(t *testing.T) {
	for _, count := range []int{1, 2, 3, 11, 12} {
		seqs := slices.Repeat([][]int{{0, 1}}, count)
		for _, weights := range badWeights(count, 1) {
			refuseChances(t, impl.Chances{Weights: weights, Seqs: seqs}, weights[:min(len(weights), 13)])
		}
		ones := slices.Repeat([]int{1}, count)
		for _, weights := range [][]int{ones, slices.Repeat([]int{9}, count), weightsOf(count, 5)} {
			takeChances(t, impl.Chances{Weights: weights, Seqs: seqs})
		}
		for length := range 7 {
			takeChances(t, impl.Chances{Weights: ones, Seqs: slices.Repeat([][]int{seededSequence(2, length, count)}, count)})
		}
		for _, length := range []int{7, 8, 60, 61, 100000} {
			refuseChances(t, impl.Chances{Weights: ones, Seqs: slices.Repeat([][]int{make([]int, length)}, count)}, length)
		}
		for at := range count {
			for _, bad := range [][]int{nil, {}, {0}, {0, 1, 0}, {1, 0, 1, 0, 1, 0}, make([]int, 7), make([]int, 60), make([]int, 100000)} {
				if count > 1 {
					with := slices.Clone(seqs)
					with[at] = bad
					refuseChances(t, impl.Chances{Weights: ones, Seqs: with}, bad[:min(len(bad), 9)])
				}
			}
			for _, number := range append([]int{-1, 2, 3}, farInts...) {
				with := slices.Clone(seqs)
				with[at] = []int{0, number}
				refuseChances(t, impl.Chances{Weights: ones, Seqs: with}, with[at])
				with[at] = []int{number, 0}
				refuseChances(t, impl.Chances{Weights: ones, Seqs: with}, with[at])
			}
		}
	}
	for _, count := range []int{0, 13, 14, 100000} {
		for _, seq := range [][]int{nil, {0}, {0, 1, 0}} {
			seqs := slices.Repeat([][]int{seq}, count)
			for _, weights := range [][]int{nil, {1}, slices.Repeat([]int{1}, 12), slices.Repeat([]int{1}, count)} {
				refuseChances(t, impl.Chances{Weights: weights, Seqs: seqs}, count)
			}
		}
	}
}

func TestChapter11RefusesWhatIsNotSeen(t *testing.T) {
	bad := [][]int{
		nil, {}, {1, 1}, {0, 0, 1}, {0, 1, 1}, {1, 0, 1}, {0, 1, 0, 0}, {0, 0, 0, 0}, {1, 0, 0, 0}, {2}, {0, 2}, {0, 0, 2}, {-1}, {0, -1}, {0, 0, -1},
		make([]int, 7), make([]int, 60), make([]int, 61), make([]int, 100000), slices.Repeat([]int{1}, 6),
	}
	for _, number := range farInts {
		bad = append(bad, []int{number}, []int{0, number}, []int{0, 0, number}, []int{number, 0}, []int{number, 0, 0})
	}
	for _, seen := range bad {
		s := goodRandom()
		s.seen = seen
		refuseRandom(t, "e", s, seen[:min(len(seen), 9)])
	}
	for _, seen := range [][]int{{0}, {1}, {0, 0}, {0, 1}, {1, 0}, {0, 0, 0}, {0, 1, 0}, {1, 0, 0}} {
		s := goodRandom()
		s.seen = seen
		takeRandom(t, "e", s, seen)
	}
	// Sequences of no requests begin with no list of at least one.
	for _, seen := range [][]int{nil, {}, {0}, {1}, {0, 0}} {
		s := goodRandom()
		s.c, s.seen = impl.Chances{Weights: []int{1, 3}, Seqs: [][]int{nil, {}}}, seen
		refuseRandom(t, "e", s, seen)
	}
}

func TestChapter11RefusesOtherWeights(t *testing.T) {
	for _, weights := range append(badWeights(2, 0), []int{0, 0}, []int{0}, []int{0, 0, 0}) {
		for length := range 4 {
			s := goodRandom()
			s.kinds, s.drawn, s.rows = weights, length, weights
			refuseRandom(t, "k", s, weights[:min(len(weights), 5)])
			refuseRandom(t, "r", s, weights[:min(len(weights), 5)])
		}
	}
	eachChoice(2, []int{0, 1, 9}, func(weights []int) {
		s := goodRandom()
		s.kinds, s.rows = weights, weights
		if weights[0]+weights[1] > 0 {
			takeRandom(t, "k", s, weights)
			takeRandom(t, "r", s, weights)
		}
	})
	for _, weights := range append(badWeights(3, 0), []int{0, 0, 0}, []int{0, 0}) {
		s := goodRandom()
		s.columns = weights
		refuseRandom(t, "j", s, weights[:min(len(weights), 5)])
	}
	eachChoice(3, []int{0, 1, 9}, func(weights []int) {
		s := goodRandom()
		s.columns = weights
		if plainTotal(weights) > 0 {
			takeRandom(t, "j", s, weights)
		}
	})
	for _, weights := range append(badWeights(4, 0), []int{0, 0, 0, 0}, []int{9, 2, 0, 0}, []int{9, 1, 1, 0}, []int{0, 9, 0, 2}, []int{5, 3, 2, 1}, []int{3, 3, 3, 3}, []int{9, 9, 9, 9}, []int{10, 0, 0, 0}) {
		for length := range 5 {
			s := goodRandom()
			s.odds, s.length = weights, length
			refuseRandom(t, "v", s, weights[:min(len(weights), 5)])
		}
	}
	for _, weights := range [][]int{{0, 0, 0, 1}, {1, 0, 0, 0}, {9, 1, 0, 0}, {9, 0, 0, 0}, {0, 5, 5, 0}, {1, 2, 3, 4}, {1, 1, 1, 1}} {
		s := goodRandom()
		s.odds = weights
		takeRandom(t, "v", s, weights)
	}
}

func TestChapter11RefusesOtherItemsAndSizes(t *testing.T) {
	for _, n := range otherCounts {
		for _, items := range [][]int{nil, {0}, {0, 1, 2}} {
			for _, weights := range [][]int{nil, {1}, {1, 0, 4, 5}, slices.Repeat([]int{1}, min(max(n, 0), 100))} {
				s := goodRandom()
				s.n, s.items, s.odds = n, items, weights
				refuseRandom(t, "n", s, n)
			}
		}
	}
	for n := 1; n <= 8; n++ {
		s := goodRandom()
		s.n, s.items, s.odds = n, []int{n - 1}, slices.Repeat([]int{1}, n)
		takeRandom(t, "n", s, n)
		s.items = []int{n}
		refuseRandom(t, "u", s, s.items)
		s.items = nil
		takeRandom(t, "u", s, "no requests")
	}
	for _, size := range append([]int{0, -1, 7, 8}, farInts...) {
		s := goodRandom()
		s.size = size
		refuseRandom(t, "z", s, size)
		s.items, s.length = nil, 0
		refuseRandom(t, "z", s, size)
	}
	for size := 1; size <= 6; size++ {
		s := goodRandom()
		s.size = size
		takeRandom(t, "z", s, size)
	}
	for _, policy := range append([]int{0, -1, 8, 9}, farInts...) {
		s := goodRandom()
		s.policy = policy
		refuseRandom(t, "o", s, policy)
		s.length = 0
		refuseRandom(t, "o", s, policy)
	}
	for policy := 1; policy <= 7; policy++ {
		s := goodRandom()
		s.policy = policy
		takeRandom(t, "o", s, policy)
	}
	for _, items := range append(badItems(4), make([]int, 61), make([]int, 100000), append(make([]int, 59), 4), append(make([]int, 59), -1)) {
		s := goodRandom()
		s.items = items
		refuseRandom(t, "u", s, items[:min(len(items), 5)])
	}
	s := goodRandom()
	s.items = slices.Repeat([]int{0, 3, 1, 2, 2, 3}, 10)
	takeRandom(t, "u", s, s.items)
}

func TestChapter11RefusesOtherPayoffs(t *testing.T) {
	for _, number := range append([]int{-1, 2, 3}, farInts...) {
		for at := range 3 {
			s := goodRandom()
			s.seqs = [][]int{{1}, {1, 1}, {0, 0, 0}}
			s.seqs[at][at] = number
			refuseRandom(t, "t", s, s.seqs)
		}
	}
	for _, length := range []int{61, 62, 100000} {
		s := goodRandom()
		s.seqs = [][]int{{1}, make([]int, length)}
		refuseRandom(t, "t", s, length)
	}
	for _, count := range []int{0, 13, 14, 100000} {
		for _, seq := range [][]int{nil, {0}, {0, 1, 0}} {
			s := goodRandom()
			s.seqs = slices.Repeat([][]int{seq}, count)
			refuseRandom(t, "t", s, count)
		}
	}
	for count := 1; count <= 12; count++ {
		for _, length := range []int{0, 1, 6, 7, 60} {
			s := goodRandom()
			s.seqs = slices.Repeat([][]int{make([]int, length)}, count)
			s.seqs[0] = []int{1}
			takeRandom(t, "t", s, count)
		}
	}
}

func TestChapter11RefusesWhatIsNoMatrix(t *testing.T) {
	bad := [][][]int{
		nil, {}, {nil}, {{}}, {nil, nil}, {{}, {}, {}}, {{1}, nil}, {nil, {1}}, {{1, 2}, {1}}, {{1}, {1, 2}}, {{1, 2, 3}, {1, 2, 3}, {1, 2}}, {{1, 2, 3}, {1, 2, 3, 4}, {1, 2, 3}},
		{{1}, {1}, {1}, {1}}, {{1, 2, 3, 4}}, slices.Repeat([][]int{{1, 2, 3}}, 4), slices.Repeat([][]int{{1, 2, 3, 4}}, 3), slices.Repeat([][]int{{1, 2, 3, 4}}, 4), slices.Repeat([][]int{{1}}, 100000),
		{make([]int, 100000)}, {{1}, make([]int, 100000)}, make([][]int, 100000),
	}
	for _, number := range append([]int{-1, 41, 42, 100}, farInts...) {
		for rows := 1; rows <= 3; rows++ {
			for columns := 1; columns <= 3; columns++ {
				if number == 0 {
					continue
				}
				for at := range rows * columns {
					list := slices.Repeat([]int{7}, rows*columns)
					list[at] = number
					bad = append(bad, slices.Collect(slices.Chunk(list, columns)))
				}
			}
		}
	}
	for _, matrix := range bad {
		for _, weights := range [][]int{nil, {1}, slices.Repeat([]int{1}, min(len(matrix), 9))} {
			for _, others := range [][]int{nil, {1}, {1, 1, 1}, {1, 1, 1, 1}} {
				s := goodRandom()
				s.matrix, s.rows, s.columns = matrix, weights, others
				refuseRandom(t, "m", s, matrix[:min(len(matrix), 4)])
			}
		}
	}
	for rows := 1; rows <= 3; rows++ {
		for columns := 1; columns <= 3; columns++ {
			for _, number := range []int{0, 1, 40} {
				s := goodRandom()
				s.matrix = slices.Repeat([][]int{slices.Repeat([]int{number}, columns)}, rows)
				s.rows, s.columns = slices.Repeat([]int{1}, rows), slices.Repeat([]int{1}, columns)
				takeRandom(t, "m", s, s.matrix)
			}
		}
	}
}

// sameRandom says whether arguments are those of goodRandom, with what is around them.
func sameRandom(s randomArgs) bool {
	all := func(s randomArgs) [][]int {
		lists := [][]int{
			around(s.x.Weights), around(s.reqs), around(s.c.Weights), around(s.seen), around(s.kinds), around(s.items), around(s.odds), around(s.rows), around(s.columns),
			{s.start, s.worst, s.drawn, s.n, s.size, s.policy, s.length, len(s.p.Move), len(s.p.Serve), len(s.x.Nexts), len(s.c.Seqs), len(s.nexts), len(s.seqs), len(s.matrix), len(s.next)},
		}
		tables := append([][][]int{s.p.Move, s.p.Serve, s.next, s.c.Seqs, s.seqs, s.matrix}, slices.Concat(s.x.Nexts, s.nexts)...)
		for _, table := range tables {
			for _, list := range table {
				lists = append(lists, around(list))
			}
		}
		for _, table := range append(tables[2:], s.x.Nexts[:3][2], s.nexts[:3][2]) {
			lists = append(lists, table[:min(cap(table), len(table)+1)][min(cap(table)-1, len(table))])
		}
		return append(lists, s.p.Move[:4][3], s.p.Serve[:3][2])
	}
	return sameLists(all(s), all(goodRandom()))
}

// Promise 13: arguments stay as they are, with the room behind them.
func TestChapter11ModifiesNoArgument(t *testing.T) {
	s := goodRandom()
	for name, c := range randomCalls {
		for start := range 3 {
			for length := range 4 {
				s.start, s.worst, s.drawn, s.length = start, length+1, length, length+1
				if _, ok := c.call(s); !ok {
					t.Errorf("%s fails", name)
				}
				s.start, s.worst, s.drawn, s.length = 0, 3, 2, 3
				if !sameRandom(s) {
					t.Fatalf("%s modifies %v", name, s)
				}
			}
		}
	}
	impl.WorstOfMixture(s.p, s.x, 0, 0)
	impl.MixtureStates(s.p, s.x, 0, nil)
	impl.BestReply(s.p, 0, s.c, s.c.Seqs[1])
	impl.BestReply(s.p, 0, s.c, s.c.Seqs[0][:1])
	impl.SolveMatrix(s.matrix[:1])
	for size := 1; size <= 6; size++ {
		impl.MarkContents(s.n, size, s.items)
		impl.CleanCounts(s.n, size, s.items[:2])
	}
	if !sameRandom(s) {
		t.Fatal("an argument is modified", s)
	}
}

// Promise 13: results have memory of their own, each list of them too.
func TestChapter11ResultsShareNoMemory(t *testing.T) {
	s := goodRandom()
	same := func() bool { return sameRandom(s) }
	checkFreshTriples(t, "MixtureStates", func() ([]impl.Frac, bool) { return impl.MixtureStates(s.p, s.x, s.start, s.reqs) }, same)
	checkFreshTriples(t, "MixtureStates, no requests", func() ([]impl.Frac, bool) { return impl.MixtureStates(s.p, s.x, s.start, nil) }, same)
	for length := 1; length <= 4; length++ {
		checkFresh(t, "WorstOfMixture", func() ([]int, bool) {
			reqs, _, ok := impl.WorstOfMixture(s.p, s.x, s.start, length)
			return reqs, ok
		}, same)
	}
	checkFreshLists(t, "MarkContents", func() ([][]int, bool) {
		lists, _, ok := impl.MarkContents(s.n, s.size, s.items[:4])
		return lists, ok
	}, same)
	checkFreshTriples(t, "MarkContents, odds", func() ([]impl.Frac, bool) {
		_, odds, ok := impl.MarkContents(s.n, s.size, s.items[:4])
		return odds, ok
	}, same)
	checkFresh(t, "MarkContents, one list", func() ([]int, bool) {
		lists, _, ok := impl.MarkContents(s.n, s.size, s.items[:2])
		return lists[0], ok
	}, same)
	checkFresh(t, "CleanCounts", func() ([]int, bool) { return impl.CleanCounts(s.n, s.size, s.items) }, same)
	checkFreshLists(t, "PayoffsOf", func() ([][]int, bool) { return impl.PayoffsOf(s.p, s.nexts, s.start, s.seqs) }, same)
	for _, matrix := range [][][]int{s.matrix, {{1, 0}, {0, 1}}, {{5}}, {{1, 0, 0}, {0, 1, 0}, {0, 0, 1}}} {
		rows, columns, _, _ := impl.SolveMatrix(matrix)
		first := slices.Clone(columns)
		clear(rows[:cap(rows)])
		if !slices.Equal(columns, first) {
			t.Errorf("SolveMatrix(%v): rows and columns share memory", matrix)
		}
		checkFreshTriples(t, "SolveMatrix, rows", func() ([]impl.Frac, bool) {
			rows, _, _, ok := impl.SolveMatrix(matrix)
			return rows, ok
		}, same)
		checkFreshTriples(t, "SolveMatrix, columns", func() ([]impl.Frac, bool) {
			_, columns, _, ok := impl.SolveMatrix(matrix)
			return columns, ok
		}, same)
	}
}
