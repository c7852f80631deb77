package tests

import (
	"math/big"
	"regexp"
	"slices"
	"strconv"
	"strings"
	"testing"

	"loop.example/g01087/impl"
)

// plainPlayer is a Player without its Cache and its Faults.
type plainPlayer struct{ policy, size, from int }

// plainTour is a Tournament told by its players and requests alone.
type plainTour struct {
	items   int
	players []plainPlayer
	reqs    []int
}

// run lets a player serve its part, and returns its cache, and for each request whether it was a fault.
func (t plainTour) run(p plainPlayer) (*plainCache, []bool) {
	c, faults := &plainCache{policy: p.policy, size: p.size}, []bool{}
	for _, item := range t.reqs[p.from:] {
		_, fault := c.request(item)
		faults = append(faults, fault)
	}
	return c, faults
}

// faults returns the number of faults of a player.
func (t plainTour) faults(p plainPlayer) int {
	count := 0
	_, faults := t.run(p)
	for _, fault := range faults {
		if fault {
			count++
		}
	}
	return count
}

// fewest returns the number of faults of the plan of the farthest next request, which are the fewest.
func (t plainTour) fewest(p plainPlayer) int {
	part := t.reqs[p.from:]
	_, faults, _ := plainFollow(p.size, part, plainFarthest(p.size, part))
	return faults
}

// missing returns the least item that a player does not hold, or the number of items.
func (t plainTour) missing(p plainPlayer) int {
	c, _ := t.run(p)
	item := 0
	for slices.Contains(c.contents(), item) {
		item++
	}
	return item
}

// best returns the first player with the fewest faults, or -1.
func (t plainTour) best() int {
	best := -1
	for i, p := range t.players {
		if best < 0 || t.faults(p) < t.faults(t.players[best]) {
			best = i
		}
	}
	return best
}

// tournament returns the Tournament that is told.
func (t plainTour) tournament() impl.Tournament {
	x := impl.Tournament{Items: t.items, Reqs: slices.Clone(t.reqs)}
	for _, p := range t.players {
		c, _ := t.run(p)
		x.Players = append(x.Players, impl.Player{From: p.from, Cache: c.cache(), Faults: t.faults(p)})
	}
	return x
}

func (t plainTour) text() string {
	text := decimal(t.items) + "; " + plainText(t.reqs)
	for _, p := range t.players {
		text += "; " + policyTitles[p.policy-1] + "/" + decimal(p.size) + " " + decimal(p.from)
	}
	return text
}

// step makes a step as the document's table tells it, and says whether it is possible.
func (t plainTour) step(s impl.TourStep) (plainTour, bool) {
	count, isPlayer, left := len(t.reqs), s.A >= 0 && s.A < len(t.players), 60-len(t.reqs)
	next := plainTour{t.items, slices.Clone(t.players), slices.Clone(t.reqs)}
	switch s.Kind {
	case impl.TourJoin:
		next.players = append(next.players, plainPlayer{s.A, s.B, count})
		return next, s.A >= 1 && s.A <= 7 && s.B >= 1 && s.B <= 6 && len(t.players) < 4
	case impl.TourRequest:
		next.reqs = append(next.reqs, s.A)
		return next, s.A >= 0 && s.A < t.items && s.B == 0 && left > 0
	case impl.TourLeave:
		if !isPlayer || s.B != 0 {
			return next, false
		}
		next.players = append(next.players[:s.A], t.players[s.A+1:]...)
		return next, true
	case impl.TourUndo:
		if count == 0 || s.A != 0 || s.B != 0 {
			return next, false
		}
		next.reqs = next.reqs[:count-1]
		return next, !slices.ContainsFunc(t.players, func(p plainPlayer) bool { return p.from > count-1 })
	case impl.TourRepeat:
		if s.A < 1 || s.A > count || s.A > left || s.B != 0 {
			return next, false
		}
		next.reqs = append(next.reqs, t.reqs[count-s.A:]...)
		return next, true
	case impl.TourCruel:
		if !isPlayer || t.players[s.A].size >= t.items || s.B < 1 || s.B > left {
			return next, false
		}
		for range s.B {
			next.reqs = append(next.reqs, next.missing(next.players[s.A]))
		}
		return next, true
	case impl.TourClear:
		next.reqs = nil
		for i := range next.players {
			next.players[i].from = 0
		}
		return next, s.A == 0 && s.B == 0
	}
	return next, false
}

// The kinds of steps.
const (
	join    = impl.TourJoin
	request = impl.TourRequest
	leave   = impl.TourLeave
	undo    = impl.TourUndo
	repeat  = impl.TourRepeat
	cruel   = impl.TourCruel
	wipe    = impl.TourClear
)

// stepOf returns a step.
func stepOf(kind int, a int, b int) impl.TourStep { return impl.TourStep{Kind: kind, A: a, B: b} }

func sameTour(x impl.Tournament, y impl.Tournament) bool {
	return x.Items == y.Items && slices.Equal(x.Reqs, y.Reqs) && slices.EqualFunc(x.Players, y.Players, func(p, q impl.Player) bool {
		return p.From == q.From && p.Faults == q.Faults && sameCache(p.Cache, q.Cache)
	})
}

// isTour says whether a call returned the Tournament want, and true.
func isTour(x impl.Tournament, ok bool, want plainTour) bool {
	return ok && sameTour(x, want.tournament())
}

// noTour says whether a call failed as it must: with a false and the zero Tournament.
func noTour(x impl.Tournament, ok bool) bool { return !ok && sameTour(x, impl.Tournament{}) }

func TestChapter12Constants(t *testing.T) {
	if impl.MaxPlayers != 4 || impl.MaxRecords != 60 || impl.MaxCommand != 160 || impl.MaxReply != 200 || impl.MaxScriptLines != 30 {
		t.Error("limits")
	}
	if impl.TourJoin != 1 || impl.TourRequest != 2 || impl.TourLeave != 3 || impl.TourUndo != 4 || impl.TourRepeat != 5 || impl.TourCruel != 6 || impl.TourClear != 7 {
		t.Error("kinds of steps")
	}
	if impl.LogOK != 0 || impl.LogInvalid != 1 || impl.LogFull != 2 {
		t.Error("codes")
	}
}

func TestNewTournament(t *testing.T) {
	for n := 1; n <= 8; n++ {
		if x, ok := impl.NewTournament(n); !isTour(x, ok, plainTour{items: n}) || !impl.IsTournament(x) {
			t.Error(n, x, ok)
		}
	}
	for _, n := range otherCounts {
		if x, ok := impl.NewTournament(n); !noTour(x, ok) {
			t.Error(n, x, ok)
		}
	}
}

// checkTour checks all that can be asked of a Tournament.
func checkTour(t *testing.T, p plainTour) {
	t.Helper()
	x := p.tournament()
	if !impl.IsTournament(x) {
		t.Fatalf("IsTournament of %q", p.text())
	}
	if s, ok := impl.TournamentText(x); !ok || s != p.text() {
		t.Fatalf("TournamentText of %q is %q, %v", p.text(), s, ok)
	}
	if y, ok := impl.ParseTournament(p.text()); !isTour(y, ok, p) {
		t.Fatalf("ParseTournament(%q) = %v, %v", p.text(), y, ok)
	}
	if i, ok := impl.BestPlayer(x); ok != (len(p.players) > 0) || i != max(0, p.best()) {
		t.Fatalf("BestPlayer of %q: %d, %v", p.text(), i, ok)
	}
	account := [][2]int{}
	for i, player := range p.players {
		faults, fewest := p.faults(player), p.fewest(player)
		if faults < fewest {
			t.Fatalf("%d and %d faults of the player %d of %q", faults, fewest, i, p.text())
		}
		account = append(account, [2]int{faults, fewest})
		if a, ok := impl.RatioOf(x, i); len(p.reqs) == player.from {
			if a != (impl.Frac{}) || ok {
				t.Fatalf("RatioOf %d of %q: %v, %v", i, p.text(), a, ok)
			}
		} else if !isExactly(a, ok, big.NewRat(int64(faults), int64(fewest))) {
			t.Fatalf("RatioOf %d of %q: %v, %v", i, p.text(), a, ok)
		}
		item := p.missing(player)
		if n, ok := impl.CruelItem(x, i); ok != (item < p.items) || n != item%p.items {
			t.Fatalf("CruelItem %d of %q: %d, %v", i, p.text(), n, ok)
		}
	}
	if l, ok := impl.AccountOf(x); !ok || !slices.Equal(l, account) {
		t.Fatalf("AccountOf %q: %v, %v", p.text(), l, ok)
	}
}

// checkTourStep checks a step, and returns the Tournament behind it, and whether it is possible.
func checkTourStep(t *testing.T, p plainTour, s impl.TourStep) (plainTour, bool) {
	t.Helper()
	next, possible := p.step(s)
	x, ok := impl.StepTournament(p.tournament(), s)
	if possible && (!isTour(x, ok, next) || !impl.IsTournament(x)) || !possible && !noTour(x, ok) {
		t.Fatalf("StepTournament of %q and %v: %v, %v", p.text(), s, x, ok)
	}
	return next, possible
}

// Promise 12: each step leads from a valid Tournament to a valid one or fails. All Tournaments behind a few steps are tried.
func TestAllTournamentsOfAFewSteps(t *testing.T) {
	seen := map[string]bool{}
	var try func(p plainTour, steps []impl.TourStep, more int)
	try = func(p plainTour, steps []impl.TourStep, more int) {
		if !seen[p.text()] {
			seen[p.text()] = true
			checkTour(t, p)
		}
		if more == 0 {
			return
		}
		for _, s := range steps {
			if next, ok := checkTourStep(t, p, s); ok {
				try(next, steps, more-1)
			}
		}
	}
	try(plainTour{items: 2}, []impl.TourStep{stepOf(join, 1, 1), stepOf(join, 6, 2), stepOf(join, 5, 1), stepOf(request, 0, 0), stepOf(request, 1, 0), stepOf(leave, 0, 0), stepOf(leave, 1, 0), stepOf(undo, 0, 0), stepOf(repeat, 1, 0), stepOf(repeat, 2, 0), stepOf(cruel, 0, 1), stepOf(cruel, 1, 2), stepOf(wipe, 0, 0)}, 5)
	try(plainTour{items: 3}, []impl.TourStep{stepOf(join, 2, 2), stepOf(join, 4, 2), stepOf(request, 0, 0), stepOf(request, 2, 0), stepOf(leave, 0, 0), stepOf(undo, 0, 0), stepOf(repeat, 2, 0), stepOf(cruel, 0, 3), stepOf(cruel, 1, 2), stepOf(wipe, 0, 0), stepOf(8, 0, 0), stepOf(0, 0, 0)}, 5)
	try(plainTour{items: 1}, []impl.TourStep{stepOf(join, 1, 1), stepOf(join, 7, 6), stepOf(request, 0, 0), stepOf(request, 1, 0), stepOf(leave, 0, 0), stepOf(undo, 0, 0), stepOf(repeat, 1, 0), stepOf(cruel, 0, 1), stepOf(wipe, 0, 0)}, 5)
	if len(seen) < 1000 {
		t.Error("only", len(seen), "Tournaments")
	}
}

// pickerOf returns a function that picks a number below a bound, always the same ones for a seed.
func pickerOf(seed int) func(below int) int {
	states, at := statesOf(seed, 60000), 0
	return func(below int) int {
		at++
		return int(states[at%len(states)]/8) % below
	}
}

// someStep is a step that is possible more often than not.
func someStep(pick func(below int) int, p plainTour) impl.TourStep {
	s := impl.TourStep{Kind: []int{1, 1, 1, 2, 2, 2, 2, 2, 3, 4, 4, 5, 5, 6, 6, 7, 0, 8}[pick(18)]}
	switch s.Kind {
	case impl.TourJoin:
		s.A, s.B = pick(9), pick(8)
	case impl.TourRequest:
		s.A = pick(p.items+2) - 1
	case impl.TourLeave:
		s.A = pick(6) - 1
	case impl.TourRepeat:
		s.A = pick(8)
	case impl.TourCruel:
		s.A, s.B = pick(4), pick(10)
	case impl.TourClear:
		s.A = pick(4)
	}
	if pick(20) == 0 {
		s.B = pick(3) - 1
	}
	if pick(20) == 0 {
		s.A = pick(70) - 2
	}
	return s
}

// Promise 12: PlaySteps stops at the first step that is not possible.
func TestLongTournaments(t *testing.T) {
	full, crowded := 0, 0
	for seed := range 120 {
		pick := pickerOf(seed)
		p := plainTour{items: 1 + seed%8}
		for range 25 {
			steps, made, after := []impl.TourStep{}, -1, p
			for i := range 12 {
				s := someStep(pick, after)
				steps = append(steps, s)
				next, ok := checkTourStep(t, after, s)
				if made < 0 && !ok {
					made = i
				}
				if made < 0 {
					after = next
				}
			}
			if made < 0 {
				made = len(steps)
			}
			x, n, ok := impl.PlaySteps(p.tournament(), steps)
			if n != made || !isTour(x, ok, after) {
				t.Fatalf("PlaySteps of %q and %v: %v, %d, %v", p.text(), steps, x, n, ok)
			}
			p = after
			if len(p.reqs) == 60 {
				full++
			}
			if len(p.players) == 4 {
				crowded++
			}
		}
		checkTour(t, p)
	}
	if full == 0 || crowded == 0 {
		t.Error(full, "Tournaments have all requests, and", crowded, "all Players")
	}
}

func TestPlayStepsStopsAtEachPlace(t *testing.T) {
	good := []impl.TourStep{stepOf(join, 1, 2), stepOf(request, 0, 0), stepOf(cruel, 0, 3), stepOf(join, 5, 1), stepOf(repeat, 2, 0), stepOf(undo, 0, 0), stepOf(wipe, 0, 0), stepOf(request, 2, 0), stepOf(leave, 0, 0)}
	for at := range len(good) + 1 {
		steps, want := slices.Clone(good), plainTour{items: 3}
		if at < len(good) {
			steps[at].B = -1
		}
		for _, s := range good[:at] {
			want, _ = want.step(s)
		}
		if x, n, ok := impl.PlaySteps(impl.Tournament{Items: 3}, steps); n != at || !isTour(x, ok, want) {
			t.Error(at, n, x, ok)
		}
	}
	if x, n, ok := impl.PlaySteps(impl.Tournament{Items: 3}, nil); n != 0 || !isTour(x, ok, plainTour{items: 3}) {
		t.Error("no steps", n, x, ok)
	}
	long := slices.Repeat([]impl.TourStep{stepOf(request, 1, 0), stepOf(request, 0, 0), stepOf(undo, 0, 0), stepOf(undo, 0, 0)}, 5000)
	start := plainTour{3, []plainPlayer{{6, 2, 0}, {1, 1, 2}}, []int{2, 1}}
	if x, n, ok := impl.PlaySteps(start.tournament(), long); n != 20000 || !isTour(x, ok, start) {
		t.Error("many steps", n, x, ok)
	}
}

// Promise 12: a TourRequest that is undone leaves the Tournament as it was, and all requests of a TourCruel are faults of its Player.
func TestUndoneRequestsAndCruelOnes(t *testing.T) {
	for seed := range 40 {
		n := 2 + seed%7
		p := plainTour{items: n, reqs: seededSequence(n, 58-seed, seed)}
		for i := range 4 {
			p.players = append(p.players, plainPlayer{1 + (seed+3*i)%7, 1 + (seed+i)%(n-1)%6, (i * seed) % (len(p.reqs) + 1)})
		}
		start := p.tournament()
		for item := range n {
			behind, ok := impl.StepTournament(start, impl.TourStep{Kind: impl.TourRequest, A: item})
			if back, fine := impl.StepTournament(behind, impl.TourStep{Kind: impl.TourUndo}); !ok || !fine || !sameTour(back, start) {
				t.Fatalf("the request %d of %q, undone: %v", item, p.text(), back)
			}
		}
		for i := range 4 {
			for times := 1; times <= 60-len(p.reqs); times += 7 {
				x, ok := impl.StepTournament(start, impl.TourStep{Kind: impl.TourCruel, A: i, B: times})
				if !ok || x.Players[i].Faults != start.Players[i].Faults+times || len(x.Reqs) != len(p.reqs)+times {
					t.Fatalf("%d cruel requests for the Player %d of %q: %v, %v", times, i, p.text(), x, ok)
				}
				y := start
				for range times {
					item, _ := impl.CruelItem(y, i)
					y, _ = impl.StepTournament(y, impl.TourStep{Kind: impl.TourRequest, A: item})
				}
				if !sameTour(x, y) {
					t.Fatalf("%d cruel requests for the Player %d of %q are not those of CruelItem", times, i, p.text())
				}
			}
		}
	}
}

// tourOf returns the plainTour with a text; the tests know that there is one.
func tourOf(text string) plainTour {
	parts := strings.Split(text, "; ")
	p := plainTour{items: int(parts[0][0] - '0')}
	if parts[1] != "none" {
		for _, word := range strings.Fields(parts[1]) {
			p.reqs = append(p.reqs, int(word[0]-'0'))
		}
	}
	for _, part := range parts[2:] {
		name, rest, _ := strings.Cut(part, "/")
		from, _ := strconv.Atoi(rest[2:])
		p.players = append(p.players, plainPlayer{1 + slices.Index(policyTitles, name), int(rest[0] - '0'), from})
	}
	return p
}

// zeros is the RequestsText of some requests for the item 0.
func zeros(count int) string { return strings.Repeat("0 ", count-1) + "0" }

func TestNamedStepsOfTournaments(t *testing.T) {
	for _, c := range []struct {
		before string
		step   impl.TourStep
		after  string // empty if the step is not possible
	}{
		{"3; none", stepOf(join, 1, 2), "3; none; lru/2 0"},
		{"3; 0 1 2", stepOf(join, 7, 6), "3; 0 1 2; mru/6 3"},
		{"3; 0 1 2; lru/2 0", stepOf(join, 1, 2), "3; 0 1 2; lru/2 0; lru/2 3"},
		{"3; 0 1; lru/2 0; lru/2 0; lru/2 0", stepOf(join, 1, 2), "3; 0 1; lru/2 0; lru/2 0; lru/2 0; lru/2 2"},
		{"3; 0 1; lru/2 0; lru/2 0; lru/2 0; lru/2 0", stepOf(join, 1, 2), ""},
		{"1; " + zeros(60), stepOf(join, 5, 1), "1; " + zeros(60) + "; lfu/1 60"},
		{"3; none", stepOf(join, 0, 2), ""},
		{"3; none", stepOf(join, 8, 2), ""},
		{"3; none", stepOf(join, -1, 2), ""},
		{"3; none", stepOf(join, 1, 0), ""},
		{"3; none", stepOf(join, 1, 7), ""},
		{"3; none", stepOf(join, 1, -1), ""},
		{"3; none", stepOf(request, 2, 0), "3; 2"},
		{"3; 2; fifo/1 0; clock/2 1", stepOf(request, 2, 0), "3; 2 2; fifo/1 0; clock/2 1"},
		{"3; none", stepOf(request, 3, 0), ""},
		{"3; none", stepOf(request, -1, 0), ""},
		{"3; none", stepOf(request, 1, 1), ""},
		{"1; " + zeros(59), stepOf(request, 0, 0), "1; " + zeros(60)},
		{"1; " + zeros(60), stepOf(request, 0, 0), ""},
		{"3; 0; lru/1 0; fifo/1 0; lifo/1 1", stepOf(leave, 0, 0), "3; 0; fifo/1 0; lifo/1 1"},
		{"3; 0; lru/1 0; fifo/1 0; lifo/1 1", stepOf(leave, 1, 0), "3; 0; lru/1 0; lifo/1 1"},
		{"3; 0; lru/1 0; fifo/1 0; lifo/1 1", stepOf(leave, 2, 0), "3; 0; lru/1 0; fifo/1 0"},
		{"3; 0; lru/1 0", stepOf(leave, 0, 0), "3; 0"},
		{"3; 0; lru/1 0", stepOf(leave, 1, 0), ""},
		{"3; 0; lru/1 0", stepOf(leave, -1, 0), ""},
		{"3; 0; lru/1 0", stepOf(leave, 0, 1), ""},
		{"3; 0", stepOf(leave, 0, 0), ""},
		{"3; 0 1", stepOf(undo, 0, 0), "3; 0"},
		{"3; 0", stepOf(undo, 0, 0), "3; none"},
		{"3; none; lru/1 0", stepOf(undo, 0, 0), ""},
		{"3; 0 1; lru/1 0; lru/1 1", stepOf(undo, 0, 0), "3; 0; lru/1 0; lru/1 1"},
		{"3; 0 1; lru/1 0; lru/1 2", stepOf(undo, 0, 0), ""},
		{"3; 0 1; lru/1 2; lru/1 0", stepOf(undo, 0, 0), ""},
		{"3; 0 1", stepOf(undo, 1, 0), ""},
		{"3; 0 1", stepOf(undo, 0, 1), ""},
		{"3; 0 1 2; lru/2 0; lru/2 3", stepOf(repeat, 2, 0), "3; 0 1 2 1 2; lru/2 0; lru/2 3"},
		{"3; 0 1 2", stepOf(repeat, 3, 0), "3; 0 1 2 0 1 2"},
		{"3; 0 1 2", stepOf(repeat, 4, 0), ""},
		{"3; 0 1 2", stepOf(repeat, 0, 0), ""},
		{"3; 0 1 2", stepOf(repeat, -1, 0), ""},
		{"3; 0 1 2", stepOf(repeat, 1, 1), ""},
		{"3; none", stepOf(repeat, 1, 0), ""},
		{"3; none", stepOf(repeat, 0, 0), ""},
		{"1; " + zeros(30), stepOf(repeat, 30, 0), "1; " + zeros(60)},
		{"1; " + zeros(31), stepOf(repeat, 29, 0), "1; " + zeros(60)},
		{"1; " + zeros(31), stepOf(repeat, 30, 0), ""},
		{"1; " + zeros(60), stepOf(repeat, 1, 0), ""},
		{"3; none; lru/2 0", stepOf(cruel, 0, 4), "3; 0 1 2 0; lru/2 0"},
		{"3; 0 2; lru/2 0; mru/2 1", stepOf(cruel, 1, 3), "3; 0 2 0 1 0; lru/2 0; mru/2 1"},
		{"3; none; lru/2 0", stepOf(cruel, 0, 60), "3; " + strings.Repeat("0 1 2 ", 19) + "0 1 2; lru/2 0"},
		{"3; none; lru/2 0", stepOf(cruel, 0, 61), ""},
		{"3; 0; lru/2 0", stepOf(cruel, 0, 60), ""},
		{"3; none; lru/2 0", stepOf(cruel, 0, 0), ""},
		{"3; none; lru/2 0", stepOf(cruel, 0, -1), ""},
		{"3; none; lru/2 0", stepOf(cruel, 1, 1), ""},
		{"3; none; lru/2 0", stepOf(cruel, -1, 1), ""},
		{"3; none; lru/3 0", stepOf(cruel, 0, 1), ""},
		{"3; none; lru/4 0", stepOf(cruel, 0, 1), ""},
		{"3; none", stepOf(cruel, 0, 1), ""},
		{"2; " + zeros(59) + "; lru/1 0", stepOf(cruel, 0, 1), "2; " + zeros(59) + " 1; lru/1 0"},
		{"2; " + zeros(59) + "; lru/1 0", stepOf(cruel, 0, 2), ""},
		{"3; 0 1 2; lru/2 3; clock/1 1", stepOf(wipe, 0, 0), "3; none; lru/2 0; clock/1 0"},
		{"3; none", stepOf(wipe, 0, 0), "3; none"},
		{"3; 0; lru/2 1", stepOf(wipe, 1, 0), ""},
		{"3; 0; lru/2 1", stepOf(wipe, 0, 1), ""},
		{"3; 0", stepOf(0, 0, 0), ""},
		{"3; 0", stepOf(8, 0, 0), ""},
		{"3; 0", stepOf(-1, 0, 0), ""},
	} {
		p := tourOf(c.before)
		next, ok := checkTourStep(t, p, c.step)
		if ok != (c.after != "") || ok && next.text() != c.after {
			t.Errorf("%q and %v: %q, %v", c.before, c.step, next.text(), ok)
		}
		checkTour(t, p)
	}
	for _, number := range farInts {
		p := tourOf("3; 0 1 2; lru/2 0; lru/2 1")
		for kind := range 9 {
			for _, s := range []impl.TourStep{stepOf(kind, number, 0), stepOf(kind, 0, number), stepOf(kind, 1, number), stepOf(kind, number, 1), stepOf(kind, number, number), stepOf(number, 0, 0), stepOf(number, 1, 1)} {
				if x, ok := impl.StepTournament(p.tournament(), s); number != 0 && s.Kind != 0 && !noTour(x, ok) {
					t.Errorf("%v: %v, %v", s, x, ok)
				}
			}
		}
	}
}

func TestNamedAnswers(t *testing.T) {
	x := tourOf("3; 0 1 2 0 1 2; lru/2 0; fifo/3 3; lru/2 0; mru/2 6").tournament()
	if l, ok := impl.AccountOf(x); !ok || !slices.Equal(l, [][2]int{{6, 4}, {3, 3}, {6, 4}, {0, 0}}) {
		t.Error("AccountOf", l, ok)
	}
	if i, ok := impl.BestPlayer(x); !ok || i != 3 {
		t.Error("BestPlayer", i, ok)
	}
	for i, want := range []impl.Frac{over(3, 2), over(1, 1), over(3, 2), {}} {
		if a, ok := impl.RatioOf(x, i); a != want || ok != (i < 3) {
			t.Error("RatioOf", i, a, ok)
		}
	}
	for i, want := range []int{0, 0, 0, 0} {
		if item, ok := impl.CruelItem(x, i); item != want || ok != (i != 1) {
			t.Error("CruelItem", i, item, ok)
		}
	}
	// A Player with room for all items does not hold all of them at once.
	x = tourOf("2; 0; lru/2 0; lru/6 1").tournament()
	for i, want := range []int{1, 0} {
		if item, ok := impl.CruelItem(x, i); item != want || !ok {
			t.Error("CruelItem", i, item, ok)
		}
	}
	if s, ok := impl.TournamentText(tourOf("3; 0 1 2; lru/2 0; fifo/1 3").tournament()); !ok || s != "3; 0 1 2; lru/2 0; fifo/1 3" {
		t.Error("the example", s, ok)
	}
	if i, ok := impl.BestPlayer(tourOf("3; 0 1 0; lru/1 0; lru/2 0; fifo/2 0").tournament()); !ok || i != 1 {
		t.Error("BestPlayer of equal ones", i, ok)
	}
}

var tourForm = regexp.MustCompile(`^([1-8]); (none|[0-7](?: [0-7])*)((?:; (?:lru|fifo|lifo|flush|lfu|clock|mru)/[1-6] (?:0|[1-9][0-9]?))*)$`)

// isTourText says whether s is the TournamentText of a Tournament.
func isTourText(s string) bool {
	m := tourForm.FindStringSubmatch(s)
	if m == nil {
		return false
	}
	count := 0
	if m[2] != "none" {
		count = (len(m[2]) + 1) / 2
	}
	for _, item := range m[2] {
		if item >= '0' && item <= '7' && item-'0' >= rune(m[1][0]-'0') {
			return false
		}
	}
	players := strings.Split(m[3], "; ")[1:]
	for _, player := range players {
		if from, _ := strconv.Atoi(player[strings.Index(player, " ")+1:]); from > count {
			return false
		}
	}
	return count <= 60 && len(players) <= 4
}

// Promise 12: ParseTournament fails for all texts that are no TournamentText.
func TestParseTournamentTakesJustWhatTournamentTextWrites(t *testing.T) {
	accepted := 0
	check := func(s string) {
		x, ok := impl.ParseTournament(s)
		if ok != isTourText(s) || !ok && !noTour(x, ok) || ok && !isTour(x, ok, tourOf(s)) {
			t.Fatalf("ParseTournament(%.200q) = %v, %v", s, x, ok)
		}
		if ok {
			accepted++
		}
	}
	for _, s := range []string{
		"3; none", "8; 7", "3; 0 1 2; lru/2 0; fifo/1 3", "2; 0 1; clock/6 2; flush/1 0; lifo/3 1; lfu/5 2", "1; none; mru/1 0", "1; " + zeros(60) + "; lru/1 60", "8; 7 0 7; clock/2 3; clock/2 3; clock/2 3; clock/2 3",
	} {
		check(s)
		for i := range len(s) + 1 {
			for _, c := range " 0123456789;/-+nolrufick@:\t\n\x00\xff" {
				check(s[:i] + string(c) + s[i:])
				if i < len(s) {
					check(s[:i] + string(c) + s[i+1:])
				}
			}
			check(s[:i])
			check(s[i:])
			check(s[:i] + s[min(i+1, len(s)):])
			check(s + s[i:])
			check(s + "; " + s[i:])
		}
	}
	if accepted < 100 {
		t.Error("only", accepted, "texts are accepted")
	}
	for _, s := range stringsOver("01; /l", 5) {
		check(s)
		check("1; " + s)
		check("1; 0; lru/" + s)
		check("1; 0; " + s)
	}
}

func TestParseTournamentRefuses(t *testing.T) {
	for _, s := range []string{
		"", " ", ";", "; ", "; ; ", "3", "3;", "3; ", "0; none", "9; none", "-1; none", "+3; none", "03; none", "10; none", "3;none", "3 ; none", "3;  none", " 3; none", "3; none ", "3; none;", "3; none; ", "none; 3", "3; None", "3; none none",
		"3; 3", "3; 0 1 3", "3; -1", "3; 00", "3; +0", "3; 0  1", "3; 0 1 ", "3;  0", "3; 0,1", "3; 0; 1", "3; 0 none", "1; " + zeros(61), "1; " + zeros(61) + "; lru/1 0", "1; " + zeros(60) + "; lru/1 61",
		"3; 0; lru/2", "3; 0; lru/2 ", "3; 0; lru 2 0", "3; 0; lru/2 2", "3; 0; lru/2 -1", "3; 0; lru/2 +0", "3; 0; lru/2 -0", "3; 0; lru/2 00", "3; 0; lru/2 01", "3; 0; lru/02 1", "3; 0; lru/+2 1", "3; 0; lru/0 0", "3; 0; lru/7 0", "3; 0; lru/-1 0",
		"3; 0; lru/2  0", "3; 0; lru/2 0 ", "3; 0; lru/2 0;", "3; 0; lru/2 0; ", "3; 0;lru/2 0", "3; 0;  lru/2 0", "3; 0; LRU/2 0", "3; 0; x/2 0", "3; 0; /2 0", "3; 0; lru//2 0", "3; 0; lru/2/2 0", "3; 0; 1/2 0", "3; 0; clock/2@0 0", "3; 0; lru/2 0 0", "3; 0; lru/2 0 1 2",
		"3; 0; lru/2 none", "3; 0; none", "3; 0; lru/2 0; lru/2 0; lru/2 0; lru/2 0; lru/2 0", "3; 0; lru/2 0; lru/2 0; lru/2 0; lru/2 0; ", "3; 0; lru/2 0; lru/2 0; lru/2 0; lru/2 0;", "3; lru/2 0", "lru/2 0; 3; 0", "3; lru/2 0; 0",
		"3; 0; lru/18446744073709551618 0", "3; 0; lru/2 18446744073709551616", "18446744073709551619; 0", "3; 0; lru/4294967298 0", "\xff", "3; 0; lru/2 \xff", "3; \u0660", "3\n; 0", "3; 0\n", "3; 0; lru/2 0\n", "3; 0\x00",
		strings.Repeat("3; ", 400000), "3; " + strings.Repeat("0 ", 500000), "3; 0" + strings.Repeat("; lru/2 0", 100000), strings.Repeat("3", 1000000), "3; 0; lru/2 " + strings.Repeat("0", 1000000), "3; 0; " + strings.Repeat("/", 1000000),
	} {
		if x, ok := impl.ParseTournament(s); !noTour(x, ok) {
			t.Errorf("ParseTournament(%.60q) = %v, %v", s, x, ok)
		}
	}
}

// plainLine is the encoding of a record.
func plainLine(k int, e impl.LogRecord) string {
	text := decimal(k) + " " + e.Command + "@" + e.Reply
	return text + "#" + decimal(plainSum(text)) + "\n"
}

// plainLines are the encodings of records with the sequence numbers from first on.
func plainLines(first int, records []impl.LogRecord) string {
	text := ""
	for i, e := range records {
		text += plainLine(first+i, e)
	}
	return text
}

// logOf is the log of records of which the first ones are durable.
func logOf(records []impl.LogRecord, durable int) impl.Log {
	return impl.Log{Durable: plainLines(0, records[:durable]), Pending: plainLines(durable, records[durable:]), Count: len(records)}
}

// someRecords are different records, with short and long texts, and all bytes that there may be.
func someRecords(count int) []impl.LogRecord {
	all := ""
	for c := byte(32); c <= 126; c++ {
		if c != '#' && c != '@' {
			all += string(c)
		}
	}
	records := []impl.LogRecord{}
	for i := range count {
		text := strings.Repeat(all, 4)[i:]
		switch i % 5 {
		case 0:
			records = append(records, impl.LogRecord{Command: text[:1+i], Reply: "@" + text[:i]})
		case 1:
			records = append(records, impl.LogRecord{Command: text[:160], Reply: text[:200]})
		case 2:
			records = append(records, impl.LogRecord{Command: text[:1]})
		case 3:
			records = append(records, impl.LogRecord{Command: "  " + text[:3] + " ", Reply: "a@b " + text[:5] + "@"})
		default:
			records = append(records, impl.LogRecord{Command: "request " + decimal(i), Reply: "hit"})
		}
	}
	return records
}

// checkRecord checks whether a record is valid, and what its encoding is.
func checkRecord(t *testing.T, e impl.LogRecord, valid bool) {
	t.Helper()
	if impl.IsValidRecord(e) != valid {
		t.Errorf("IsValidRecord(%.50q) is not %v", e, valid)
	}
	for _, k := range append([]int{-1, 0, 1, 9, 10, 58, 59, 60, 61, 99, 100}, farInts...) {
		s, ok := impl.EncodeRecord(k, e)
		if want := valid && k >= 0 && k <= 59; ok != want || !ok && s != "" || ok && s != plainLine(k, e) {
			t.Errorf("EncodeRecord(%d, %.50q) = %q, %v", k, e, s, ok)
		}
	}
	l, code := impl.AppendRecord(impl.Log{}, e)
	if valid && (code != impl.LogOK || l != logOf([]impl.LogRecord{e}, 0)) || !valid && (code != impl.LogInvalid || l != impl.Log{}) {
		t.Errorf("AppendRecord of %.50q: %v, %d", e, l, code)
	}
}

func TestRecords(t *testing.T) {
	for c := range 256 {
		one := string([]byte{byte(c)})
		isText := c >= 32 && c <= 126 && c != '#'
		for _, command := range []string{one, "a" + one, one + "a", strings.Repeat("a", 80) + one + strings.Repeat("a", 79)} {
			checkRecord(t, impl.LogRecord{Command: command, Reply: "hit"}, isText && c != '@')
			checkRecord(t, impl.LogRecord{Command: "best", Reply: command}, isText)
		}
		checkRecord(t, impl.LogRecord{Command: "best", Reply: strings.Repeat("a", 199) + one}, isText)
		checkRecord(t, impl.LogRecord{Command: strings.Repeat(one, 160), Reply: strings.Repeat(one, 200)}, isText && c != '@')
	}
	for _, length := range []int{0, 1, 2, 159, 160, 161, 199, 200, 201, 255, 256, 4000, 30000, 1000000} {
		for _, other := range []int{0, 1, 160, 161, 200, 201, 1000000} {
			checkRecord(t, impl.LogRecord{Command: strings.Repeat("a", length), Reply: strings.Repeat("b", other)}, length >= 1 && length <= 160 && other <= 200)
		}
	}
	checkRecord(t, impl.LogRecord{}, false)
	checkRecord(t, impl.LogRecord{Reply: "hit"}, false)
	checkRecord(t, impl.LogRecord{Command: " ", Reply: " "}, true)
	checkRecord(t, impl.LogRecord{Command: "\u00e9", Reply: ""}, false)
	for _, e := range someRecords(60) {
		checkRecord(t, e, true)
	}
}

// Promise 12: different records have different encodings.
func TestDifferentRecordsHaveDifferentEncodings(t *testing.T) {
	of := map[string]impl.LogRecord{}
	for _, command := range stringsOver("1 a", 4)[1:] {
		for _, reply := range stringsOver("1 @a", 3) {
			for _, k := range []int{0, 1, 11} {
				e := impl.LogRecord{Command: command, Reply: reply}
				s, ok := impl.EncodeRecord(k, e)
				if other, known := of[s]; !ok || known {
					t.Fatalf("%q and %q become %q", other, e, s)
				}
				of[s] = e
			}
		}
	}
}

// checkLog checks what can be asked of a valid log.
func checkLog(t *testing.T, records []impl.LogRecord, durable int) {
	t.Helper()
	l := logOf(records, durable)
	if !impl.IsValidLog(l) {
		t.Fatalf("%d of %d records are durable: not valid", durable, len(records))
	}
	if all, ok := impl.LogRecords(l); !ok || !slices.Equal(all, records) {
		t.Fatalf("%d of %d records are durable: %v, %v", durable, len(records), all, ok)
	}
	if kept, ok := impl.SyncLog(l); !ok || kept != logOf(records, len(records)) {
		t.Fatalf("%d of %d records are durable: SyncLog is %v, %v", durable, len(records), kept, ok)
	}
}

// Promise 12: appended records are those of the log in order, also behind SyncLog.
func TestAppendedRecordsAreThoseOfTheLog(t *testing.T) {
	records := someRecords(60)
	for every := 1; every <= 61; every++ {
		l, durable := impl.Log{}, 0
		for i, e := range records {
			next, code := impl.AppendRecord(l, e)
			if code != impl.LogOK || next != logOf(records[:i+1], durable) {
				t.Fatalf("record %d: %v, %d", i, next, code)
			}
			if l = next; (i+1)%every == 0 {
				l, _ = impl.SyncLog(l)
				durable = i + 1
			}
			if every%10 == 1 {
				checkLog(t, records[:i+1], durable)
			}
		}
		if l != logOf(records, durable) {
			t.Fatalf("SyncLog behind each %d records: %v", every, l)
		}
		for _, e := range []impl.LogRecord{records[0], {Command: "best", Reply: "?"}} {
			if next, code := impl.AppendRecord(l, e); code != impl.LogFull || next != l {
				t.Errorf("AppendRecord of a full log: %v, %d", next, code)
			}
		}
		// A record that is not valid is found before the log is full.
		for _, e := range []impl.LogRecord{{}, {Command: "a@"}, {Command: "a", Reply: "\n"}} {
			if next, code := impl.AppendRecord(l, e); code != impl.LogInvalid || next != l {
				t.Errorf("AppendRecord of %q: %v, %d", e, next, code)
			}
		}
	}
	checkLog(t, nil, 0)
}

// refuseLog checks that a log is refused by all functions that take one.
func refuseLog(t *testing.T, l impl.Log, what any) {
	t.Helper()
	if impl.IsValidLog(l) {
		t.Errorf("IsValidLog: %v", what)
	}
	if all, ok := impl.LogRecords(l); !nothing(all, ok) {
		t.Errorf("LogRecords: %v", what)
	}
	if kept, ok := impl.SyncLog(l); ok || kept != (impl.Log{}) {
		t.Errorf("SyncLog: %v", what)
	}
	for _, keep := range []int{-1, 0, 1, len(l.Pending)} {
		if s, ok := impl.CrashLog(l, keep, keep > 0); ok || s != "" {
			t.Errorf("CrashLog: %v", what)
		}
	}
	for _, e := range []impl.LogRecord{{Command: "best", Reply: "?"}, {}} {
		if after, code := impl.AppendRecord(l, e); code != impl.LogInvalid || after != l {
			t.Errorf("AppendRecord: %v", what)
		}
	}
	if n, ok := impl.ReplayLog(3, l); ok || n != 0 {
		t.Errorf("ReplayLog: %v", what)
	}
	c := impl.Console{Tour: impl.Tournament{Items: 3}, Log: l}
	if impl.IsValidConsole(c) {
		t.Errorf("IsValidConsole: %v", what)
	}
	for _, line := range []string{"best", "", "#"} {
		if after, reply := impl.ExecuteCommand(c, line); reply != "no" || !sameConsole(after, c) {
			t.Errorf("ExecuteCommand: %v", what)
		}
	}
	if replies, ok := impl.RunScript(c, "best"); !nothing(replies, ok) {
		t.Errorf("RunScript: %v", what)
	}
}

func TestLogsThatAreNotValid(t *testing.T) {
	records := someRecords(7)
	text := plainLines(0, records)
	ends := map[int]bool{}
	for i := range len(records) + 1 {
		ends[len(plainLines(0, records[:i]))] = true
	}
	for at := range len(text) + 1 {
		l := impl.Log{Durable: text[:at], Pending: text[at:], Count: len(records)}
		if ends[at] {
			checkLog(t, records, strings.Count(text[:at], "\n"))
		} else {
			refuseLog(t, l, at)
		}
	}
	whole := logOf(records, 3)
	for _, count := range append([]int{0, -1, 3, 6, 8, 60}, farInts...) {
		l := whole
		l.Count = count
		refuseLog(t, l, count)
	}
	for _, count := range append([]int{1, -1, 60}, farInts...) {
		refuseLog(t, impl.Log{Count: count}, count)
	}
	for at := range len(text) {
		refuseLog(t, impl.Log{Durable: whole.Durable, Pending: text[len(whole.Durable) : len(text)-1-at%200], Count: 7}, "the end is missing")
		for _, c := range []string{"", "x", "\n", "0", " ", "@", "#", "\xff"} {
			other := text[:at] + c + text[at+1:]
			if other != text {
				refuseLog(t, impl.Log{Durable: other, Count: 7}, other)
				refuseLog(t, impl.Log{Pending: other, Count: 7}, other)
			}
		}
	}
	for _, tail := range []string{"\n", " ", "7 best@?", "7 best@?#1\n", plainLine(7, impl.LogRecord{Command: "best"}), plainLine(6, records[6]), plainLine(0, records[0])} {
		refuseLog(t, impl.Log{Durable: text + tail, Count: 7}, tail)
		refuseLog(t, impl.Log{Durable: text, Pending: tail, Count: 7}, tail)
		refuseLog(t, impl.Log{Durable: tail, Pending: text, Count: 7}, tail)
	}
}

// sealed is a line with its checksum.
func sealed(text string) string { return text + "#" + decimal(plainSum(text)) + "\n" }

func TestSequenceNumbersThatDoNotGoOn(t *testing.T) {
	records := someRecords(60)
	for _, numbers := range [][]int{{1}, {2}, {0, 0}, {0, 2}, {1, 2}, {0, 1, 1}, {0, 1, 3}, {0, 2, 1}, {1, 0}, {0, 1, 2, 2}, {0, 1, 2, 4}, {59}, {60}} {
		text := ""
		for i, k := range numbers {
			text += plainLine(k, records[i])
		}
		refuseLog(t, impl.Log{Durable: text, Count: len(numbers)}, numbers)
		refuseLog(t, impl.Log{Pending: text, Count: len(numbers)}, numbers)
		first := plainLine(numbers[0], records[0])
		refuseLog(t, impl.Log{Durable: first, Pending: text[len(first):], Count: len(numbers)}, numbers)
	}
	for _, text := range []string{"00 best@?", "+0 best@?", "-0 best@?", " 0 best@?", "0  best@", "0 best", "0best@?", "best@?", "0 @?", "0 ", "", "0", "@", "0 best@?\t", "0 best@\x1f", "0 be\x7fst@?", "0 " + strings.Repeat("a", 161) + "@", "0 a@" + strings.Repeat("b", 201), "0x best@?", "1 best@?"} {
		want := text == "0  best@"
		l := impl.Log{Durable: sealed(text), Count: 1}
		if got := impl.IsValidLog(l); got != want {
			t.Errorf("%q: %v", text, got)
		}
		if !want {
			refuseLog(t, l, text)
		}
		if m, end, ok := impl.RecoverLog(l.Durable); !ok || (end > 0) != want || m.Count != min(end, 1) || m.Durable != l.Durable[:end] {
			t.Errorf("RecoverLog(%q) = %v, %d, %v", l.Durable, m, end, ok)
		}
	}
	checkLog(t, records, 60)
	checkLog(t, records, 0)
	checkLog(t, records, 31)
	for _, count := range []int{60, 61} {
		more := append(slices.Clone(records), impl.LogRecord{Command: "best"})
		refuseLog(t, impl.Log{Durable: plainLines(0, more), Count: count}, "too many records")
		refuseLog(t, impl.Log{Pending: plainLines(0, more), Count: count}, "too many records")
		refuseLog(t, impl.Log{Durable: plainLines(0, records), Pending: plainLine(60, more[60]), Count: count}, "too many records")
	}
	for _, length := range []int{29999, 30000, 30001, 1000000} {
		for _, c := range []string{"\n", "0", "@", "#"} {
			refuseLog(t, impl.Log{Durable: strings.Repeat(c, length)}, length)
			refuseLog(t, impl.Log{Pending: strings.Repeat(c, length), Count: 1}, length)
			text := plainLines(0, records)
			refuseLog(t, impl.Log{Durable: text, Pending: strings.Repeat(c, length-len(text)), Count: 60}, length)
		}
	}
}

// Promise 12: behind a crash at each number of bytes, all durable records and some of the pending ones are read, in order, and without torn no whole record is lost.
func TestRecoveryKeepsAllDurableRecords(t *testing.T) {
	for _, c := range []struct{ count, durable int }{{0, 0}, {1, 0}, {1, 1}, {2, 1}, {6, 0}, {6, 2}, {6, 6}, {9, 5}, {60, 57}, {60, 60}, {60, 0}} {
		records := someRecords(c.count)
		l := logOf(records, c.durable)
		for keep := range len(l.Pending) + 1 {
			if c.count == 60 && keep%7 > 0 && keep < len(l.Pending)-20 {
				continue
			}
			for _, torn := range []bool{false, true} {
				want, whole := l.Durable+l.Pending[:keep], len(l.Durable)+keep
				if torn && keep > 0 {
					whole--
					want = want[:whole] + string([]byte{255 - want[whole]})
				}
				s, ok := impl.CrashLog(l, keep, torn)
				if !ok || s != want {
					t.Fatalf("CrashLog %v, %d, %v: %q, %v", c, keep, torn, s, ok)
				}
				count := c.durable + strings.Count((l.Durable + l.Pending)[len(l.Durable):whole], "\n")
				m, end, ok := impl.RecoverLog(s)
				if !ok || m != logOf(records[:count], count) || end != len(m.Durable) {
					t.Fatalf("RecoverLog %v, %d, %v: %v, %d, %v", c, keep, torn, m, end, ok)
				}
			}
		}
		for _, keep := range append([]int{-1, len(l.Pending) + 1, len(l.Pending) + len(l.Durable) + 2}, farInts...) {
			if keep >= 0 && keep <= len(l.Pending) {
				continue
			}
			for _, torn := range []bool{false, true} {
				if s, ok := impl.CrashLog(l, keep, torn); ok || s != "" {
					t.Errorf("CrashLog %v, %d, %v: %q", c, keep, torn, s)
				}
			}
		}
	}
}

func TestRecoverLogStopsAtTheFirstBadLine(t *testing.T) {
	records := someRecords(60)
	text := plainLines(0, records)
	recovers := func(s string, count int) {
		t.Helper()
		m, end, ok := impl.RecoverLog(s)
		if !ok || m != logOf(records[:count], count) || end != len(m.Durable) {
			t.Errorf("RecoverLog(%.40q): %d of %d records, %d, %v", s, m.Count, count, end, ok)
		}
	}
	recovers("", 0)
	recovers(text, 60)
	for at := 0; at < len(text); at++ {
		if at > 1500 && at%11 > 0 {
			continue
		}
		count := strings.Count(text[:at], "\n")
		recovers(text[:at], count)
		for _, c := range []byte{text[at] ^ 1, 255 - text[at], '\n', '0', '@', '#'} {
			if c != text[at] {
				recovers(text[:at]+string([]byte{c})+text[at+1:], count)
			}
		}
	}
	for count := range 60 {
		start := plainLines(0, records[:count])
		for _, tail := range []string{"\n", " \n", "x", plainLine(count+1, records[count]), plainLine(0, impl.LogRecord{Command: "best"})[1:], "0" + plainLine(count, records[count]), strings.TrimSuffix(plainLine(count, records[count]), "\n"), strings.TrimSuffix(plainLine(count, records[count]), "\n") + "\r\n"} {
			recovers(start+tail, count)
			recovers(start+tail+plainLines(count, records[count:]), count)
		}
	}
	// The line with the number 60 would exceed MaxRecords.
	recovers(text+plainLine(60, records[0]), 60)
	recovers(text+plainLine(0, records[0]), 60)
	for _, c := range []string{"\n", "a", "#", "\x00", "0 "} {
		full := text + strings.Repeat(c, 30000)
		recovers(full[:29999], 60)
		recovers(full[:30000], 60)
		recovers(strings.Repeat(c, 30000/len(c)), 0)
		for _, length := range []int{30001, 30002, 36000} {
			if m, end, ok := impl.RecoverLog(full[:length]); ok || end != 0 || m != (impl.Log{}) {
				t.Errorf("RecoverLog of %d bytes: %v, %d, %v", length, m, end, ok)
			}
		}
	}
	if m, end, ok := impl.RecoverLog(strings.Repeat("0 best@?", 1000000)); ok || end != 0 || m != (impl.Log{}) {
		t.Errorf("RecoverLog of a long text: %v, %d, %v", m, end, ok)
	}
}

// plainConsole is a Console told by its tournament, its records and the number of those that are durable.
type plainConsole struct {
	tour    plainTour
	records []impl.LogRecord
	durable int
}

func (c plainConsole) console() impl.Console {
	return impl.Console{Tour: c.tour.tournament(), Log: logOf(c.records, c.durable)}
}

func sameConsole(a impl.Console, b impl.Console) bool {
	return sameTour(a.Tour, b.Tour) && a.Log == b.Log
}

const anyNumber = `(0|-?[1-9][0-9]{0,5})`

// commandForms are the forms of all commands.
var commandForms = []*regexp.Regexp{
	regexp.MustCompile(`^(join) (lru|fifo|lifo|flush|lfu|clock|mru) ` + anyNumber + `$`),
	regexp.MustCompile(`^(request|leave|repeat|account|ratio|cache|item|phases|mark) ` + anyNumber + `$`),
	regexp.MustCompile(`^(undo|clear|best|optimal|curve|distances|tour)$`),
	regexp.MustCompile(`^(cruel) ` + anyNumber + ` ` + anyNumber + `$`),
	regexp.MustCompile(`^(servers|work) ` + anyNumber + ` (.*)$`),
}

// wordsOf returns the words of a command line, with its METRIC as one word, or nil for lines that no command has.
func wordsOf(line string) []string {
	for _, form := range commandForms {
		if m := form.FindStringSubmatch(line); m != nil {
			return m[1:]
		}
	}
	return nil
}

var stepKinds = map[string]int{"join": join, "request": request, "leave": leave, "undo": undo, "repeat": repeat, "cruel": cruel, "clear": wipe}

// obey executes a command line as the document's table tells it.
func (t plainTour) obey(line string) (plainTour, string) {
	words := wordsOf(line)
	if words == nil {
		return t, "?"
	}
	numbers := []int{0, 0}
	for i, word := range words[1:] {
		numbers[i], _ = strconv.Atoi(word)
		if words[0] == "join" && i == 0 {
			numbers[0] = 1 + slices.Index(policyTitles, word)
		}
	}
	kind, isStep := stepKinds[words[0]]
	if !isStep {
		return t, t.answer(words, numbers[0])
	}
	next, ok := t.step(stepOf(kind, numbers[0], numbers[1]))
	if !ok {
		return t, "?"
	}
	switch words[0] {
	case "join":
		return next, decimal(len(next.players) - 1)
	case "request":
		outcomes := []string{}
		for _, p := range next.players {
			_, faults := next.run(p)
			outcomes = append(outcomes, map[bool]string{false: "hit", true: "fault"}[faults[len(faults)-1]])
		}
		if len(outcomes) == 0 {
			return next, "none"
		}
		return next, strings.Join(outcomes, " ")
	case "leave", "clear":
		return next, decimal(len(next.players))
	case "cruel":
		return next, decimal(next.faults(next.players[numbers[0]]))
	}
	return next, decimal(len(next.reqs))
}

// ratText is the FracText of an exact number, or ? if it is no Frac.
func ratText(x *big.Rat) string {
	if _, ok := fracOf(x); !ok {
		return "?"
	}
	return x.RatString()
}

// answer replies to a command without a step, with the number behind its name.
func (t plainTour) answer(words []string, number int) string {
	isPlayer, isSize := number >= 0 && number < len(t.players), number >= 1 && number <= 6
	player := plainPlayer{}
	if isPlayer {
		player = t.players[number]
	}
	switch words[0] {
	case "account":
		if isPlayer {
			return decimal(t.faults(player)) + " " + decimal(t.fewest(player))
		}
	case "ratio":
		if isPlayer && player.from < len(t.reqs) {
			return ratText(big.NewRat(int64(t.faults(player)), int64(t.fewest(player))))
		}
	case "best":
		if len(t.players) > 0 {
			return decimal(t.best())
		}
	case "cache":
		if isPlayer {
			c, _ := t.run(player)
			return plainCacheText(c.cache())
		}
	case "item":
		if isPlayer && t.missing(player) < t.items {
			return decimal(t.missing(player))
		}
	case "phases":
		if isSize {
			starts := []int{}
			for place, begin := range plainPhases(number, t.reqs) {
				if begin == place {
					starts = append(starts, place)
				}
			}
			return plainText(starts)
		}
	case "mark":
		if isSize {
			_, mean := plainMarking(number, t.reqs)
			return ratText(mean)
		}
	case "tour":
		return t.text()
	case "servers", "work":
		return t.serversAnswer(words[0] == "work", words[2], number)
	default:
		return t.listAnswer(words[0])
	}
	return "?"
}

// listAnswer replies to the commands without an argument that ask for lists.
func (t plainTour) listAnswer(name string) string {
	list := []int{}
	for size := 1; size <= 6 && name != "distances"; size++ {
		player := plainPlayer{impl.CacheLRU, size, 0}
		if name == "curve" {
			list = append(list, t.faults(player))
		} else {
			list = append(list, t.fewest(player))
		}
	}
	for place, item := range t.reqs {
		if name == "distances" {
			last, items := place-1, []int{}
			for last >= 0 && t.reqs[last] != item {
				items = append(items, t.reqs[last])
				last--
			}
			slices.Sort(items)
			distance := len(slices.Compact(items)) + 1
			if last < 0 {
				distance = 0
			}
			list = append(list, distance)
		}
	}
	return plainText(list)
}

// serversAnswer replies to the commands with a METRIC.
func (t plainTour) serversAnswer(isWork bool, metric string, count int) string {
	m, ok := impl.ParseMetric(metric)
	if !ok || count < 1 || count > 3 || len(t.reqs) > 0 && slices.Max(t.reqs) >= len(m.Dist) {
		return "?"
	}
	p := teamsOn(m, count)
	lists := p.after(0, t.reqs)
	if !isWork {
		return decimal(slices.Min(lists[len(t.reqs)]))
	}
	at, sum := 0, 0
	for place := range t.reqs {
		to, cost := p.serve(lists[place+1], at, t.reqs[place])
		at, sum = to, sum+cost
	}
	return decimal(sum)
}

// checkCommand checks a command line in a Console, and returns the one behind it.
func checkCommand(t *testing.T, c plainConsole, line string) plainConsole {
	t.Helper()
	isCommand := len(line) >= 1 && len(line) <= 160
	for i := range len(line) {
		isCommand = isCommand && line[i] >= 32 && line[i] <= 126 && line[i] != '#' && line[i] != '@'
	}
	next, reply := c, "bad"
	if isCommand && len(c.records) == 60 {
		reply = "full"
	} else if isCommand {
		next.tour, reply = c.tour.obey(line)
		next.records = append(slices.Clone(c.records), impl.LogRecord{Command: line, Reply: reply})
	}
	before := c.console()
	after, got := impl.ExecuteCommand(before, line)
	if got != reply || !sameConsole(after, next.console()) || !sameConsole(before, c.console()) {
		t.Fatalf("%q in %q: %q and %q, not %q and %q", line, c.tour.text(), got, tourTexts(after.Tour), reply, next.tour.text())
	}
	if !impl.IsValidConsole(after) || len(reply) > 200 {
		t.Fatalf("%q in %q: the Console behind it is not valid", line, c.tour.text())
	}
	return next
}

// tourTexts is the TournamentText, if there is one.
func tourTexts(x impl.Tournament) string {
	s, _ := impl.TournamentText(x)
	return s
}

// goodLines has a line for each command, which is possible in the tournament of richTour.
var goodLines = []string{
	"join lru 2", "request 1", "leave 2", "undo", "repeat 3", "cruel 0 2", "clear", "account 0", "ratio 1", "best", "cache 1", "item 2", "optimal", "curve", "distances", "phases 2", "mark 3",
	"servers 2 0 3 7; 3 0 4; 7 4 0", "work 1 0 3 7; 3 0 4; 7 4 0", "tour",
}

// richTour is a tournament of three players in which all of goodLines are possible.
func richTour() plainTour { return tourOf("3; 0 1 2 0 2 2 1; lru/2 0; clock/1 3; lfu/2 5") }

func TestCommands(t *testing.T) {
	// The lines as they are written here are what is replied to in the tournament of richTour.
	replies := map[string]string{
		"join lru 2": "3", "join mru 6": "3", "request 1": "hit hit hit", "request 0": "fault fault fault", "leave 2": "2", "leave 0": "2", "undo": "6", "repeat 3": "10", "repeat 7": "14", "cruel 0 2": "7", "cruel 1 53": "56", "clear": "3",
		"account 0": "5 4", "account 1": "3 3", "ratio 0": "5/4", "ratio 1": "1", "best": "2", "cache 0": "lru/2 1 2", "cache 1": "clock/1@0 1:1", "cache 2": "lfu/2 1:1 2:1", "item 0": "0", "item 2": "0",
		"optimal": "6 4 3 3 3 3", "curve": "6 5 3 3 3 3", "distances": "0 0 0 3 2 1 3", "phases 2": "0 2 6", "phases 3": "0", "phases 6": "0", "mark 3": "3", "mark 1": "6",
		"servers 1 0 3 7; 3 0 4; 7 4 0": "25", "servers 3 0 3 7; 3 0 4; 7 4 0": "10", "tour": "3; 0 1 2 0 2 2 1; lru/2 0; clock/1 3; lfu/2 5",
	}
	c := plainConsole{tour: richTour()}
	for line, reply := range replies {
		next := checkCommand(t, c, line)
		if last := next.records[0]; last.Reply != reply {
			t.Errorf("%q: %q, and not %q", line, last.Reply, reply)
		}
	}
	for _, line := range goodLines {
		if next := checkCommand(t, c, line); next.records[0].Reply == "?" {
			t.Errorf("%q is not possible", line)
		}
	}
}

// badWords are words that are no PolicyName and no number, or far away from those that are possible.
var badWords = []string{"", "x", "-1", "-0", "+1", "00", "01", "1.0", "1e0", "0x1", "7", "8", "61", "99999", "999999", "-999999", "1000000", "-1000000", "9223372036854775808", "18446744073709551617", "none", "lru", "LRU", "Lru", "clock", "lru/2", "l", "random", "0;", "0,1", "=", "-", strings.Repeat("1", 100)}

// linesNear are command lines that a line becomes if some words of it change.
func linesNear(line string) []string {
	words := strings.Split(line, " ")
	near := []string{line + " ", " " + line, line + "  ", "  " + line, " " + line + " ", strings.ReplaceAll(line, " ", "  "), strings.ToUpper(line), strings.ReplaceAll(line, " ", ""), line + line, line + " " + line, line + ";", line + "\n", line + "\t", "\x00" + line, line + "\xff", line + "@", line + "#"}
	for i := range words {
		cut := append(slices.Clone(words[:i]), words[i+1:]...)
		near = append(near, strings.Join(cut, " "), strings.Join(words[:i], " "), strings.Join(words[i:], " "))
		near = append(near, strings.Join(words[:i+1], " ")+"  "+strings.Join(words[i+1:], " "))
		for _, word := range append(slices.Clone(badWords), "0", "1", "2", "3", "4", "5", "6", "60") {
			other := slices.Clone(words)
			other[i] = word
			near = append(near, strings.Join(other, " "), strings.Join(slices.Insert(slices.Clone(words), i+1, word), " "))
		}
	}
	return near
}

func TestCommandsThatAreNotAsTheyMustBe(t *testing.T) {
	for _, tour := range []plainTour{richTour(), {items: 3}, tourOf("8; 7 0 6 1 5 2; flush/6 0"), tourOf("1; " + zeros(60) + "; lru/1 0; lru/1 60; mru/6 59; lru/1 1")} {
		c := plainConsole{tour: tour}
		for _, good := range goodLines {
			for _, line := range linesNear(good) {
				checkCommand(t, c, line)
			}
		}
	}
	c := plainConsole{tour: richTour()}
	for _, line := range []string{
		"", " ", "  ", "?", "help", "play", "Tour", "tours", "to", "none", "0", "join", "join lru", "join 2 lru", "join 1 2", "join lru 2 3", "join lru/2", "undo 0", "undo undo", "clear 0 0", "best 0", "tour 0", "optimal 2", "curve 1", "distances none",
		"request none", "request hit", "request 0 0", "request -0", "repeat 0", "repeat 8", "repeat 54", "cruel 0", "cruel 0 0", "cruel 0 54", "cruel 0 1 1", "cruel 3 1", "account", "account 3", "account 0 1", "account -1", "ratio 3", "cache 3", "item 3", "item -1",
		"phases", "phases 0", "phases 7", "phases 2 2", "mark", "mark 0", "mark 7", "mark 3 3",
		"servers", "servers ", "servers 1", "servers 1 ", "servers 1  ", "servers 0 0", "servers 1 0", "servers 1 none", "servers 1 0 1; 1 0", "servers 4 0 3 7; 3 0 4; 7 4 0", "servers 0 0 3 7; 3 0 4; 7 4 0", "servers -1 0 3 7; 3 0 4; 7 4 0", "servers 999999 0 3 7; 3 0 4; 7 4 0",
		"servers  1 0 3 7; 3 0 4; 7 4 0", "servers 1  0 3 7; 3 0 4; 7 4 0", "servers 1 0 3 7; 3 0 4; 7 4 0 ", "servers 1 0 3 7;  3 0 4; 7 4 0", "servers 1 0 3 7;3 0 4; 7 4 0", "servers 1 0 3 8; 3 0 4; 8 4 0", "servers 1 0 3 7; 3 0 4; 7 4 0; 1", "servers 1 0 x 7; x 0 4; 7 4 0",
		"servers 0 3 7; 3 0 4; 7 4 0", "work 1", "work 1 ", "work 4 0 3 7; 3 0 4; 7 4 0", "work 1 1 0 3 7; 3 0 4; 7 4 0", "work 3 0 1 1 1; 1 0 1 1; 1 1 0 1; 1 1 1 0",
		strings.Repeat("a", 160), strings.Repeat("a", 161), strings.Repeat(" ", 160), "tour" + strings.Repeat(" ", 156), "tour" + strings.Repeat(" ", 157), strings.Repeat("tour ", 1000000), "tour\n", "tour\ntour", "undo#", "undo@", "t\u00f6ur", "\x1f", "\x7f", "~",
	} {
		checkCommand(t, c, line)
	}
}

// Replies that are lists of no numbers, and those of tournaments without players.
func TestCommandsInAnEmptyTournament(t *testing.T) {
	c := plainConsole{tour: plainTour{items: 3}}
	for line, reply := range map[string]string{
		"distances": "none", "phases 1": "none", "optimal": "0 0 0 0 0 0", "curve": "0 0 0 0 0 0", "mark 1": "0", "servers 1 0": "0", "work 3 0": "0", "servers 2 0 99; 99 0": "0", "tour": "3; none", "request 2": "none", "clear": "0", "undo": "?", "best": "?", "account 0": "?",
		"ratio 0": "?", "cache 0": "?", "item 0": "?", "leave 0": "?", "repeat 0": "?", "repeat 1": "?", "cruel 0 1": "?", "join fifo 3": "0",
	} {
		if next := checkCommand(t, c, line); next.records[0].Reply != reply {
			t.Errorf("%q: %q", line, next.records[0].Reply)
		}
	}
	c.tour = tourOf("3; none; lru/2 0; lru/2 0")
	for line, reply := range map[string]string{
		"account 1": "0 0", "ratio 0": "?", "best": "0", "cache 0": "lru/2", "item 1": "0", "request 2": "fault fault", "cruel 1 60": "60", "cruel 1 61": "?", "undo": "?", "leave 1": "1",
	} {
		if next := checkCommand(t, c, line); next.records[0].Reply != reply {
			t.Errorf("%q: %q", line, next.records[0].Reply)
		}
	}
}

// someLine is a command line, which most often has the form of a command.
func someLine(pick func(below int) int, p plainTour) string {
	s := someStep(pick, p)
	a, b := decimal(s.A), decimal(s.B)
	asks := []string{"account", "ratio", "cache", "item", "phases", "mark"}
	bare := []string{"best", "optimal", "curve", "distances", "tour", "what"}
	metrics := []string{"0 3 7; 3 0 4; 7 4 0", "0 1 2 2; 1 0 1 2; 2 1 0 1; 2 2 1 0", "0 5; 5 0", "0 1 1 1 1 1; 1 0 1 1 1 1; 1 1 0 1 1 1; 1 1 1 0 1 1; 1 1 1 1 0 1; 1 1 1 1 1 0"}
	switch kind := pick(14); {
	case kind < 2:
		return bare[pick(len(bare))]
	case kind < 4:
		return asks[pick(len(asks))] + " " + decimal(pick(7)-1)
	case kind == 4:
		return []string{"servers ", "work "}[pick(2)] + decimal(pick(5)) + " " + metrics[pick(len(metrics))]
	case kind == 5:
		near := linesNear(goodLines[pick(len(goodLines))])
		return near[pick(len(near))]
	}
	switch s.Kind {
	case join:
		return "join " + slices.Concat(policyTitles, []string{"arc", "lru"})[max(s.A, 0)%9] + " " + b
	case request:
		return "request " + a
	case leave:
		return "leave " + a
	case undo:
		return "undo"
	case repeat:
		return "repeat " + a
	case cruel:
		return "cruel " + a + " " + b
	}
	return []string{"clear", "tour", "best"}[pick(3)]
}

// replay checks that the log of a Console that began with n items reproduces all replies, and no other ones.
func replay(t *testing.T, n int, c plainConsole) {
	t.Helper()
	if count, ok := impl.ReplayLog(n, logOf(c.records, c.durable)); !ok || count != len(c.records) {
		t.Fatalf("ReplayLog of %d records: %d, %v", len(c.records), count, ok)
	}
	for i, e := range c.records {
		for _, reply := range []string{e.Reply + " ", "", "@", e.Reply[1:], strings.Repeat("1", 200)} {
			if reply == e.Reply {
				continue
			}
			changed := slices.Clone(c.records)
			changed[i].Reply = reply
			if at, ok := impl.ReplayLog(n, logOf(changed, i)); !ok || at != i {
				t.Fatalf("ReplayLog with the reply %q to %q: %d, %v", reply, e.Command, at, ok)
			}
			if i+1 < len(changed) {
				changed[i+1].Reply = "no"
				if at, ok := impl.ReplayLog(n, logOf(changed, i)); !ok || at != i {
					t.Fatalf("ReplayLog with two other replies: %d, %v", at, ok)
				}
			}
		}
	}
}

// Promise 12: each command is logged with its reply, and replaying the log reproduces every reply.
func TestSessions(t *testing.T) {
	full, answered := 0, map[string]int{}
	for seed := range 40 {
		pick := pickerOf(1000 + seed)
		n := 1 + seed%8
		start := plainConsole{tour: plainTour{items: n}}
		c, text, lines := start, "", 0
		for range 75 {
			line := someLine(pick, c.tour)
			next := checkCommand(t, c, line)
			if len(next.records) > len(c.records) && next.records[len(c.records)].Reply != "?" {
				answered[wordsOf(line)[0]]++
			}
			c = next
			// A script has no line with a newline.
			if lines < 30 && !strings.Contains(line, "\n") && len(text)+len(line) < 4000 {
				text += "\n" + line
				lines++
			}
		}
		if len(c.records) == 60 {
			full++
		}
		script(t, start, text[1:])
		if seed%5 == 0 {
			replay(t, n, c)
		}
		c.durable = len(c.records) / 2
		checkCommand(t, c, "tour")
		for other := range 10 {
			if at, ok := impl.ReplayLog(other, logOf(c.records, 0)); ok != (other >= 1 && other <= 8) || !ok && at != 0 {
				t.Fatalf("ReplayLog with %d items: %d, %v", other, at, ok)
			}
		}
	}
	for _, line := range goodLines {
		if answered[wordsOf(line)[0]] == 0 {
			t.Errorf("no session has a reply to %q", line)
		}
	}
	if full == 0 {
		t.Error("no session has a full log")
	}
}

// script checks a script, which may have as many lines and bytes as it has.
func script(t *testing.T, c plainConsole, text string) {
	t.Helper()
	want, console := []string{}, c.console()
	for _, line := range strings.Split(text, "\n") {
		next, reply := impl.ExecuteCommand(console, line)
		console, want = next, append(want, reply)
	}
	before := c.console()
	if replies, ok := impl.RunScript(before, text); !ok || !slices.Equal(replies, want) || !sameConsole(before, c.console()) {
		t.Fatalf("RunScript(%.100q) = %q, %v, and not %q", text, replies, ok, want)
	}
}

func TestScripts(t *testing.T) {
	c := plainConsole{tour: richTour()}
	for text, want := range map[string][]string{
		"": {"bad"}, "\n": {"bad", "bad"}, "best": {"2"}, "best\n": {"2", "bad"}, "\nbest": {"bad", "2"}, "undo\nundo\nundo": {"6", "5", "?"}, "undo\r\nundo": {"bad", "6"}, "clear\nrequest 0\nwhat\nbest": {"3", "fault fault fault", "?", "0"},
		"join lru 1\njoin lru 1\n\ncache 3": {"3", "?", "bad", "lru/1"},
	} {
		if replies, ok := impl.RunScript(c.console(), text); !ok || !slices.Equal(replies, want) {
			t.Errorf("RunScript(%q) = %q, %v", text, replies, ok)
		}
		script(t, c, text)
	}
	script(t, c, strings.Join(append(goodLines, goodLines[:10]...), "\n"))
	script(t, c, strings.Repeat("\n", 29))
	script(t, c, strings.Repeat("best\n", 29))
	for _, lines := range []int{31, 32, 1000, 4001} {
		for _, line := range []string{"", "undo", "best"} {
			text := strings.Repeat(line+"\n", lines-1)
			if replies, ok := impl.RunScript(c.console(), text); !nothing(replies, ok) {
				t.Errorf("RunScript of %d lines: %q", lines, replies)
			}
		}
	}
	for _, size := range []int{3999, 4000, 4001, 4002, 1000000} {
		for _, start := range []string{"", "best\n", "undo\nbest\n\n"} {
			text := start + strings.Repeat("x", size-len(start))
			if size <= 4000 {
				script(t, c, text)
			} else if replies, ok := impl.RunScript(c.console(), text); !nothing(replies, ok) {
				t.Errorf("RunScript of %d bytes: %q", size, replies)
			}
		}
	}
	// The log becomes full within the script.
	c.records = slices.Repeat([]impl.LogRecord{{Command: "best", Reply: "2"}}, 58)
	if replies, ok := impl.RunScript(c.console(), "undo\n\ntour\nundo\n"); !ok || !slices.Equal(replies, []string{"6", "bad", "3; 0 1 2 0 2 2; lru/2 0; clock/1 3; lfu/2 5", "full", "bad"}) {
		t.Error("RunScript at the end of the log", replies, ok)
	}
}

// The checks are made in the order no, bad, full.
func TestTheOrderOfTheChecks(t *testing.T) {
	c := plainConsole{tour: richTour(), records: slices.Repeat([]impl.LogRecord{{Command: "best", Reply: "2"}}, 59)}
	c = checkCommand(t, c, "undo")
	if len(c.records) != 60 || c.records[59].Reply != "6" {
		t.Error("the last record", c.records[59])
	}
	for line, reply := range map[string]string{"undo": "full", "what": "full", "": "bad", "#": "bad", "a@b": "bad", "\x1f": "bad", strings.Repeat("a", 161): "bad", strings.Repeat("a", 160): "full"} {
		checkCommand(t, c, line)
		if _, got := impl.ExecuteCommand(c.console(), line); got != reply {
			t.Errorf("%.20q in a full log: %q", line, got)
		}
		broken := c.console()
		broken.Tour.Items = 9
		if after, got := impl.ExecuteCommand(broken, line); got != "no" || !sameConsole(after, broken) {
			t.Errorf("%.20q in a broken tournament: %q, %v", line, got, after)
		}
		broken = c.console()
		broken.Log.Count = 59
		if after, got := impl.ExecuteCommand(broken, line); got != "no" || !sameConsole(after, broken) {
			t.Errorf("%.20q in a broken log: %q, %v", line, got, after)
		}
	}
}

func TestNewConsole(t *testing.T) {
	for n := 1; n <= 8; n++ {
		if c, ok := impl.NewConsole(n); !ok || !sameConsole(c, plainConsole{tour: plainTour{items: n}}.console()) || !impl.IsValidConsole(c) {
			t.Error(n, c, ok)
		}
		if count, ok := impl.ReplayLog(n, impl.Log{}); !ok || count != 0 {
			t.Error("ReplayLog of an empty log", n, count, ok)
		}
	}
	for _, n := range otherCounts {
		if c, ok := impl.NewConsole(n); ok || !sameConsole(c, impl.Console{}) {
			t.Error(n, c, ok)
		}
		for _, l := range []impl.Log{{}, logOf(someRecords(3), 1)} {
			if count, ok := impl.ReplayLog(n, l); ok || count != 0 {
				t.Error("ReplayLog", n, count, ok)
			}
		}
	}
	if impl.IsValidConsole(impl.Console{}) {
		t.Error("the zero Console is valid")
	}
}

// refuseTour checks that a Tournament is refused by all functions that take one.
func refuseTour(t *testing.T, x impl.Tournament, what any) {
	t.Helper()
	if impl.IsTournament(x) {
		t.Errorf("IsTournament: %v", what)
	}
	for _, s := range []impl.TourStep{stepOf(join, 1, 1), stepOf(request, 0, 0), stepOf(leave, 0, 0), stepOf(undo, 0, 0), stepOf(repeat, 1, 0), stepOf(cruel, 0, 1), stepOf(wipe, 0, 0), {}} {
		if y, ok := impl.StepTournament(x, s); !noTour(y, ok) {
			t.Errorf("StepTournament, %v: %v", s, what)
		}
		for _, steps := range [][]impl.TourStep{nil, {s}} {
			if y, n, ok := impl.PlaySteps(x, steps); !noTour(y, ok) || n != 0 {
				t.Errorf("PlaySteps, %v: %v", steps, what)
			}
		}
	}
	if l, ok := impl.AccountOf(x); !nothing(l, ok) {
		t.Errorf("AccountOf: %v", what)
	}
	if i, ok := impl.BestPlayer(x); ok || i != 0 {
		t.Errorf("BestPlayer: %v", what)
	}
	for i := -1; i < 5; i++ {
		if a, ok := impl.RatioOf(x, i); ok || a != (impl.Frac{}) {
			t.Errorf("RatioOf: %v", what)
		}
		if item, ok := impl.CruelItem(x, i); ok || item != 0 {
			t.Errorf("CruelItem: %v", what)
		}
	}
	if s, ok := impl.TournamentText(x); ok || s != "" {
		t.Errorf("TournamentText: %v", what)
	}
	c := impl.Console{Tour: x, Log: logOf([]impl.LogRecord{{Command: "best", Reply: "?"}}, 1)}
	if impl.IsValidConsole(c) {
		t.Errorf("IsValidConsole: %v", what)
	}
	for _, line := range []string{"tour", "", "@"} {
		if after, reply := impl.ExecuteCommand(c, line); reply != "no" || !sameConsole(after, c) {
			t.Errorf("ExecuteCommand: %v", what)
		}
		if replies, ok := impl.RunScript(c, line); !nothing(replies, ok) {
			t.Errorf("RunScript: %v", what)
		}
	}
}

func TestTournamentsThatAreNotValid(t *testing.T) {
	for _, n := range append([]int{2}, otherCounts...) {
		x := richTour().tournament()
		x.Items = n
		refuseTour(t, x, n)
		refuseTour(t, impl.Tournament{Items: n, Reqs: []int{2}}, n)
		if n != 2 {
			refuseTour(t, impl.Tournament{Items: n}, n)
		}
	}
	for _, reqs := range append(badItems(3), make([]int, 61), make([]int, 62), make([]int, 100000), append(make([]int, 59), 3), append(make([]int, 59), -1)) {
		refuseTour(t, impl.Tournament{Items: 3, Reqs: reqs}, reqs[:min(len(reqs), 5)])
		for _, from := range []int{0, len(reqs)} {
			p := impl.Player{From: from, Cache: impl.Cache{Policy: 1, Size: 1}}
			refuseTour(t, impl.Tournament{Items: 3, Reqs: reqs, Players: []impl.Player{p}}, reqs[:min(len(reqs), 5)])
			p.Cache.Pages, p.Faults = []int{0}, 1
			refuseTour(t, impl.Tournament{Items: 3, Reqs: reqs, Players: []impl.Player{p}}, reqs[:min(len(reqs), 5)])
		}
	}
	for _, count := range []int{5, 6, 60, 100000} {
		empty := impl.Player{Cache: impl.Cache{Policy: 1, Size: 1}}
		refuseTour(t, impl.Tournament{Items: 3, Players: slices.Repeat([]impl.Player{empty}, count)}, count)
	}
}

// Players with a From, a Cache or Faults that are not those of their part.
func TestPlayersThatAreNotValid(t *testing.T) {
	changes := map[string]func(p *impl.Player){
		"less Faults":       func(p *impl.Player) { p.Faults-- },
		"more Faults":       func(p *impl.Player) { p.Faults++ },
		"a page more":       func(p *impl.Player) { p.Cache.Pages = append(p.Cache.Pages, 4) },
		"a page less":       func(p *impl.Player) { p.Cache.Pages = p.Cache.Pages[:len(p.Cache.Pages)-1] },
		"no pages":          func(p *impl.Player) { p.Cache.Pages = nil },
		"another page":      func(p *impl.Player) { p.Cache.Pages[0] = 4 },
		"pages in disorder": func(p *impl.Player) { slices.Reverse(p.Cache.Pages) },
		"a mark more":       func(p *impl.Player) { p.Cache.Marks = append(p.Cache.Marks, 1) },
		"another Size":      func(p *impl.Player) { p.Cache.Size++ },
		"the Size 0":        func(p *impl.Player) { p.Cache.Size = 0 },
		"the Size 7":        func(p *impl.Player) { p.Cache.Size = 7 },
		"a Hand":            func(p *impl.Player) { p.Cache.Hand++ },
		"a Hand below 0":    func(p *impl.Player) { p.Cache.Hand = -1 },
		"the Policy 0":      func(p *impl.Player) { p.Cache.Policy = 0 },
		"the Policy 8":      func(p *impl.Player) { p.Cache.Policy = 8 },
		"From -1":           func(p *impl.Player) { p.From = -1 },
		"From 7":            func(p *impl.Player) { p.From = 7 },
		"From 0":            func(p *impl.Player) { p.From = 0 },
		"From 2":            func(p *impl.Player) { p.From = 2 },
		"nothing":           func(p *impl.Player) { *p = impl.Player{} },
		"nothing, from -1":  func(p *impl.Player) { *p = impl.Player{From: -1} },
		"nothing, from 7":   func(p *impl.Player) { *p = impl.Player{From: 7} },
		"nothing served":    func(p *impl.Player) { p.Cache = impl.Cache{Policy: p.Cache.Policy, Size: p.Cache.Size}; p.Faults = 0 },
		"no Faults":         func(p *impl.Player) { p.Faults = 0 },
		"as many Faults":    func(p *impl.Player) { p.Faults = 60 },
	}
	for policy := 1; policy <= 7; policy++ {
		tour := plainTour{5, []plainPlayer{{1, 2, 0}, {policy, 3, 1}, {5, 1, 6}}, []int{4, 0, 1, 2, 3, 2}}
		try := func(what string, change func(p *impl.Player)) {
			x := tour.tournament()
			change(&x.Players[1])
			refuseTour(t, x, what+" of "+policyTitles[policy-1])
		}
		if !impl.IsTournament(tour.tournament()) {
			t.Fatal(tour.text())
		}
		for what, change := range changes {
			if len(tour.tournament().Players[1].Cache.Pages) > 1 || what != "pages in disorder" {
				try(what, change)
			}
		}
		for _, number := range farInts {
			try("far From", func(p *impl.Player) { p.From = number })
			try("far Faults", func(p *impl.Player) { p.Faults = number })
			try("far Policy", func(p *impl.Player) { p.Cache.Policy = number })
			try("far Size", func(p *impl.Player) { p.Cache.Size = number })
			try("far Hand", func(p *impl.Player) { p.Cache.Hand = number })
			try("a far page", func(p *impl.Player) { p.Cache.Pages[0] = number })
			try("far Marks", func(p *impl.Player) { p.Cache.Marks = []int{number, 1, 1} })
		}
		try("many pages", func(p *impl.Player) { p.Cache.Pages = make([]int, 100000) })
		try("many marks", func(p *impl.Player) { p.Cache.Marks = make([]int, 100000) })
		if policy == impl.CacheLFU || policy == impl.CacheClock {
			try("no marks", func(p *impl.Player) { p.Cache.Marks = nil })
			for slot := range 3 {
				try("another mark", func(p *impl.Player) { p.Cache.Marks[slot] = 1 - p.Cache.Marks[slot] })
				try("another mark", func(p *impl.Player) { p.Cache.Marks[slot]++ })
				try("another mark", func(p *impl.Player) { p.Cache.Marks[slot]-- })
			}
		}
		// It is the right Cache of another Policy.
		if policy > 1 && policy != impl.CacheFIFO {
			x, other := tour.tournament(), tour
			other.players = slices.Clone(tour.players)
			other.players[1].policy = impl.CacheFIFO
			x.Players[1].Cache = other.tournament().Players[1].Cache
			x.Players[1].Cache.Policy = policy
			if !sameTour(x, tour.tournament()) {
				refuseTour(t, x, "the Cache of another Policy")
			}
		}
	}
}

func TestNumbersOfPlayersThatThereAreNot(t *testing.T) {
	for count := range 5 {
		tour := tourOf("5; 0 1 2 0" + strings.Repeat("; lru/2 1", count))
		x := tour.tournament()
		for _, i := range append([]int{-1, count, count + 1}, farInts...) {
			if a, ok := impl.RatioOf(x, i); ok || a != (impl.Frac{}) {
				t.Errorf("RatioOf %d of %d: %v, %v", i, count, a, ok)
			}
			if item, ok := impl.CruelItem(x, i); ok || item != 0 {
				t.Errorf("CruelItem %d of %d: %v, %v", i, count, item, ok)
			}
			for _, s := range []impl.TourStep{stepOf(leave, i, 0), stepOf(cruel, i, 1)} {
				if y, ok := impl.StepTournament(x, s); !noTour(y, ok) {
					t.Errorf("StepTournament %v of %d: %v, %v", s, count, y, ok)
				}
			}
		}
		if i, ok := impl.BestPlayer(x); ok != (count > 0) || i != 0 {
			t.Errorf("BestPlayer of %d: %d, %v", count, i, ok)
		}
		if l, ok := impl.AccountOf(x); !ok || !slices.Equal(l, slices.Repeat([][2]int{{3, 3}}, count)) {
			t.Errorf("AccountOf of %d: %v, %v", count, l, ok)
		}
	}
}

// roomyTour is richTour with lists that are windows with room behind them.
func roomyTour() impl.Tournament {
	x := richTour().tournament()
	x.Reqs = window(x.Reqs...)
	for i := range x.Players {
		cache := &x.Players[i].Cache
		cache.Pages, cache.Marks = window(cache.Pages...), window(cache.Marks...)
	}
	behind := impl.Player{From: 9, Cache: impl.Cache{Pages: window(8), Marks: window(9)}, Faults: 9}
	x.Players = append([]impl.Player{behind}, append(x.Players, behind, behind)...)[1:4]
	return x
}

// sameRoomyTour says whether a Tournament is that of roomyTour, with what is around its lists.
func sameRoomyTour(x impl.Tournament) bool {
	all := func(x impl.Tournament) [][]int {
		lists := [][]int{around(x.Reqs), {x.Items, len(x.Players)}}
		for _, p := range x.Players[:5] {
			lists = append(lists, around(p.Cache.Pages), around(p.Cache.Marks), []int{p.From, p.Faults, p.Cache.Policy, p.Cache.Size, p.Cache.Hand})
		}
		return lists
	}
	return sameLists(all(x), all(roomyTour()))
}

// allSteps has a step of each kind that is possible in roomyTour, and some that are not.
var allSteps = []impl.TourStep{
	stepOf(join, 6, 2), stepOf(request, 0, 0), stepOf(request, 1, 0), stepOf(leave, 0, 0), stepOf(leave, 1, 0), stepOf(leave, 2, 0), stepOf(undo, 0, 0), stepOf(repeat, 3, 0), stepOf(cruel, 0, 4), stepOf(cruel, 1, 4), stepOf(wipe, 0, 0),
	{}, stepOf(join, 0, 0), stepOf(request, 3, 0), stepOf(leave, 3, 0), stepOf(undo, 1, 0), stepOf(repeat, 8, 0), stepOf(cruel, 0, 54), stepOf(wipe, 0, 1),
}

// Promise 13: arguments stay as they are, with the room behind them.
func TestChapter12ModifiesNoArgument(t *testing.T) {
	c := impl.Console{Tour: roomyTour(), Log: logOf(someRecords(5), 2)}
	same := func(name any) {
		t.Helper()
		if !sameRoomyTour(c.Tour) || c.Log != logOf(someRecords(5), 2) {
			t.Fatalf("%v modifies %v", name, c)
		}
	}
	steps := append(slices.Clone(allSteps), stepOf(7, 7, 7), stepOf(7, 7, 7))[:len(allSteps)]
	for i, s := range steps {
		impl.StepTournament(c.Tour, s)
		same(s)
		impl.PlaySteps(c.Tour, steps[i:])
		impl.PlaySteps(c.Tour, []impl.TourStep{s, stepOf(request, 2, 0), stepOf(undo, 0, 0), stepOf(undo, 0, 0), s})
		same(s)
	}
	if !slices.Equal(steps, allSteps) || steps[:len(steps)+1][len(steps)] != stepOf(7, 7, 7) {
		t.Error("PlaySteps modifies the steps", steps)
	}
	impl.IsTournament(c.Tour)
	impl.AccountOf(c.Tour)
	impl.BestPlayer(c.Tour)
	impl.TournamentText(c.Tour)
	for i := range 3 {
		impl.RatioOf(c.Tour, i)
		impl.CruelItem(c.Tour, i)
	}
	same("an answer")
	for _, line := range append(slices.Clone(goodLines), "", "what", "#") {
		impl.ExecuteCommand(c, line)
		same(line)
	}
	if _, ok := impl.RunScript(c, strings.Join(goodLines, "\n")); !ok || !impl.IsValidConsole(c) {
		t.Error("RunScript fails")
	}
	same("RunScript")
}

// listsOf returns the lists of a Tournament but for its Players.
func listsOf(x impl.Tournament) [][]int {
	lists := [][]int{x.Reqs}
	for _, p := range x.Players {
		lists = append(lists, p.Cache.Pages, p.Cache.Marks)
	}
	return lists
}

// checkFreshTour checks that a Tournament that a call returns has memory of its own in each of its lists.
func checkFreshTour(t *testing.T, name any, call func() impl.Tournament, same func() bool) {
	t.Helper()
	first := call()
	count := len(listsOf(first))
	for i := range count + 1 {
		x := call()
		lists, kept := listsOf(x), [][]int{}
		for _, list := range lists {
			kept = append(kept, slices.Clone(list))
		}
		if i < count {
			scribble(lists[i])
		} else {
			clear(x.Players[:cap(x.Players)])
		}
		for j, list := range lists {
			if j != i && !slices.Equal(list, kept[j]) {
				t.Fatalf("%v: the lists %d and %d share memory", name, i, j)
			}
		}
		if again := call(); !sameTour(again, first) || !same() {
			t.Fatalf("%v returns %v and then %v", name, first, again)
		}
	}
}

// Promise 13: results have memory of their own, also those that are returned beside no, bad and full.
func TestChapter12ResultsShareNoMemory(t *testing.T) {
	tour := roomyTour()
	same := func() bool { return sameRoomyTour(tour) }
	for _, s := range allSteps {
		for _, steps := range [][]impl.TourStep{{s}, {stepOf(request, 0, 0), s}, {stepOf(request, 1, 0), stepOf(undo, 0, 0), s}, {s, stepOf(wipe, 0, 0)}} {
			checkFreshTour(t, steps, func() impl.Tournament {
				x, _, _ := impl.PlaySteps(tour, steps)
				return x
			}, same)
		}
		checkFreshTour(t, s, func() impl.Tournament {
			x, _ := impl.StepTournament(tour, s)
			return x
		}, same)
	}
	checkFreshTour(t, "no steps", func() impl.Tournament {
		x, _, _ := impl.PlaySteps(tour, nil)
		return x
	}, same)
	checkFreshTour(t, "ParseTournament", func() impl.Tournament {
		x, _ := impl.ParseTournament(richTour().text())
		return x
	}, same)
	for _, count := range []int{5, 60} {
		for _, faults := range []int{6, 7} {
			c := impl.Console{Tour: tour, Log: logOf(someRecords(count), 3)}
			c.Tour.Players = slices.Clone(tour.Players)
			c.Tour.Players[0].Faults = faults
			for _, line := range append(slices.Clone(goodLines), "what", "cruel 0 54", "", "#") {
				checkFreshTour(t, line, func() impl.Tournament {
					after, _ := impl.ExecuteCommand(c, line)
					return after.Tour
				}, same)
			}
		}
	}
	c := impl.Console{Tour: tour, Log: logOf(someRecords(5), 3)}
	checkFreshTriples(t, "AccountOf", func() ([][2]int, bool) { return impl.AccountOf(tour) }, same)
	checkFreshTriples(t, "RunScript", func() ([]string, bool) { return impl.RunScript(c, "best\ntour") }, same)
	checkFreshTriples(t, "LogRecords", func() ([]impl.LogRecord, bool) { return impl.LogRecords(c.Log) }, same)
}
