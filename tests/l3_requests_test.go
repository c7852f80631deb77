package tests

import (
	"math"
	"slices"
	"strings"
	"testing"

	"loop.example/g01087/impl"
)

// sequencesOver returns all lists of at most most items below n, shorter ones first.
func sequencesOver(n int, most int) [][]int {
	all := [][]int{{}}
	from := 0
	for range most {
		end := len(all)
		for _, reqs := range all[from:end] {
			for item := range n {
				all = append(all, append(slices.Clone(reqs), item))
			}
		}
		from = end
	}
	return all
}

// fullSequences are sequences of exactly MaxRequests places for MaxItems items.
var fullSequences = func() [][]int {
	full := [][]int{make([]int, impl.MaxRequests), slices.Repeat([]int{7}, impl.MaxRequests), slices.Repeat([]int{0, 1, 2, 3, 4, 5, 6, 7, 7, 0}, 6), slices.Repeat([]int{5, 5, 2}, 20)}
	mixed := make([]int, impl.MaxRequests)
	for place := range mixed {
		mixed[place] = place * place * place / 7 % 8
	}
	return append(full, mixed)
}()

// farInts are numbers that are no item, no number of items and no length.
var farInts = []int{-2, 61, 62, 255, 256, 10000, math.MaxInt32, math.MinInt32, 1 << 32, math.MaxInt - 1, math.MaxInt, math.MinInt, math.MinInt + 1}

// otherCounts are numbers of items that there may not be.
var otherCounts = append([]int{0, -1, 9, 10, 60}, farInts...)

// nothing says whether a call failed as it must: with a false and without a value.
func nothing[E any](list []E, ok bool) bool { return !ok && len(list) == 0 }

// isList says whether a call returned the list want, and true.
func isList(list []int, ok bool, want ...int) bool { return ok && slices.Equal(list, want) }

// sequenceFunctions are the functions that take n and a sequence, with their other arguments chosen so that they are valid for each n.
var sequenceFunctions = map[string]func(n int, reqs []int) ([]int, bool){
	"CountsOf":             impl.CountsOf,
	"LastUses":             impl.LastUses,
	"NextUses":             impl.NextUses,
	"WindowSizes":          func(n int, reqs []int) ([]int, bool) { return impl.WindowSizes(n, reqs, 2) },
	"JoinRequests, first":  func(n int, reqs []int) ([]int, bool) { return impl.JoinRequests(n, reqs, nil) },
	"JoinRequests, second": func(n int, reqs []int) ([]int, bool) { return impl.JoinRequests(n, nil, reqs) },
	"WeaveRequests, first": func(n int, reqs []int) ([]int, bool) { return impl.WeaveRequests(n, reqs, []int{}) },
	"WeaveRequests, last":  func(n int, reqs []int) ([]int, bool) { return impl.WeaveRequests(n, []int{}, reqs) },
	"ProjectRequests":      func(n int, reqs []int) ([]int, bool) { return impl.ProjectRequests(n, reqs, countUp(n)) },
	"RenameRequests":       func(n int, reqs []int) ([]int, bool) { return impl.RenameRequests(n, reqs, countUp(n)) },
	"RunsOf, items": func(n int, reqs []int) ([]int, bool) {
		runs, ok := impl.RunsOf(n, reqs)
		items := []int{}
		for _, run := range runs {
			items = append(items, run[0])
		}
		return items, ok
	},
}

// countUp returns the numbers below n, at most 100.
func countUp(n int) []int {
	list := []int{}
	for i := 0; i < n && i < 100; i++ {
		list = append(list, i)
	}
	return list
}

func TestChapter3Constants(t *testing.T) {
	if impl.MaxItems != 8 || impl.MaxRequests != 60 {
		t.Error("limits", impl.MaxItems, impl.MaxRequests)
	}
}

func TestIsRequests(t *testing.T) {
	for n := -2; n <= 10; n++ {
		for _, raised := range sequencesOver(max(n, 1)+2, 3) { // all lists of items of -1..n, each raised by 1
			reqs, want := []int{}, n >= 1 && n <= 8
			for _, item := range raised {
				reqs = append(reqs, item-1)
				want = want && item-1 >= 0 && item-1 < n
			}
			if impl.IsRequests(n, reqs) != want {
				t.Fatalf("IsRequests(%d, %v) is not %v", n, reqs, want)
			}
		}
	}
	for n := 1; n <= impl.MaxItems; n++ {
		if !impl.IsRequests(n, nil) || !impl.IsRequests(n, make([]int, impl.MaxRequests)) || impl.IsRequests(n, make([]int, impl.MaxRequests+1)) || impl.IsRequests(n, make([]int, 100000)) {
			t.Error("places for", n)
		}
		for _, item := range append([]int{-1, n}, farInts...) {
			for _, reqs := range [][]int{{item}, {item, 0}, {0, item}, {0, item, 0}, append(make([]int, impl.MaxRequests-1), item)} {
				if impl.IsRequests(n, reqs) {
					t.Errorf("IsRequests(%d, %v)", n, reqs)
				}
			}
		}
	}
	for _, n := range otherCounts {
		for _, reqs := range [][]int{nil, {0}, {0, 0}, {-1}, {n}, {n - 1}} {
			if impl.IsRequests(n, reqs) {
				t.Errorf("IsRequests(%d, %v)", n, reqs)
			}
		}
	}
}

// plainText writes a sequence item by item, without the library that the program uses.
func plainText(reqs []int) string {
	text := ""
	for place, item := range reqs {
		if place > 0 {
			text += " "
		}
		text += decimal(item)
	}
	if text == "" {
		return "none"
	}
	return text
}

func TestTextsOfSequencesRoundTrip(t *testing.T) {
	for n := 1; n <= impl.MaxItems; n++ {
		for _, reqs := range slices.Concat(sequencesOver(n, 4), fullSequences) {
			is := len(reqs) == 0 || slices.Max(reqs) < n
			s, ok := impl.RequestsText(n, reqs)
			if !is {
				if ok || s != "" {
					t.Fatalf("RequestsText(%d, %v) = %q, %v", n, reqs, s, ok)
				}
				if l, ok := impl.ParseRequests(n, plainText(reqs)); !nothing(l, ok) {
					t.Fatalf("ParseRequests(%d, %q) = %v, %v", n, plainText(reqs), l, ok)
				}
				continue
			}
			if !ok || s != plainText(reqs) {
				t.Fatalf("RequestsText(%d, %v) = %q, %v", n, reqs, s, ok)
			}
			if l, ok := impl.ParseRequests(n, s); !isList(l, ok, reqs...) {
				t.Fatalf("ParseRequests(%d, %q) = %v, %v", n, s, l, ok)
			}
		}
	}
}

func TestRequestsTextFails(t *testing.T) {
	for _, n := range otherCounts {
		if s, ok := impl.RequestsText(n, nil); ok || s != "" {
			t.Errorf("RequestsText(%d) = %q, %v", n, s, ok)
		}
	}
	for _, reqs := range [][]int{{-1}, {3}, {0, 3}, {math.MinInt}, {math.MaxInt}, make([]int, impl.MaxRequests+1)} {
		if s, ok := impl.RequestsText(3, reqs); ok || s != "" {
			t.Errorf("RequestsText(3, %v) = %q, %v", reqs, s, ok)
		}
	}
}

func TestParseRequestsTakesJustWhatRequestsTextWrites(t *testing.T) {
	for n := 1; n <= 3; n++ {
		written := map[string][]int{}
		for _, reqs := range sequencesOver(n, 4) {
			written[plainText(reqs)] = reqs
		}
		for _, s := range stringsOver("012 -+\x00", 6) {
			want, is := written[s]
			if l, ok := impl.ParseRequests(n, s); ok != is || !slices.Equal(l, want) {
				t.Fatalf("ParseRequests(%d, %q) = %v, %v", n, s, l, ok)
			}
		}
	}
	for _, s := range stringsOver("none ", 5) {
		if l, ok := impl.ParseRequests(2, s); ok != (s == "none") || len(l) != 0 {
			t.Fatalf("ParseRequests(2, %q) = %v, %v", s, l, ok)
		}
	}
}

func TestParseRequestsRefuses(t *testing.T) {
	full := plainText(make([]int, impl.MaxRequests))
	for _, s := range []string{
		"", " ", "  ", "0 ", " 0", "0  0", "0 0 ", " 0 0", "00", "01", "0 01", "01 0", "-0", "+0", "-1", "+1", "0 -1", "0 +1", "8", "9", "0 8", "10", "0 10",
		"18446744073709551616", "4294967296", "x", "0 x", "0x0", "0,0", "0\t0", "0\n0", "0\n", "0\x00", "0\x000", "/", ":", "0 /", "0 :", "\u0660", "\uff10", "0\u00a00", "0\u20030", "\xff", "0\xff", "0 \xff", "0\xff0",
		"None", "NONE", "none ", " none", "nonenone", "none none", "none 0", "0 none", "non", "nil", "[]", "0 0 0 0 0 0 0x",
		// the second byte of a character at an even place, where a digit could be
		"0\u01300", "0 \u01300", "0\u0130",
		full + " ", full + " 0", full + " 0 0", full + "0", " " + full, strings.Repeat("0 ", 1000000) + "0", strings.Repeat("0", 1000000), strings.Repeat(" ", 1000001),
	} {
		if l, ok := impl.ParseRequests(8, s); !nothing(l, ok) {
			t.Errorf("ParseRequests(8, %.20q..) = %v, %v", s, l, ok)
		}
	}
	if l, ok := impl.ParseRequests(1, full); !isList(l, ok, make([]int, impl.MaxRequests)...) {
		t.Error("a text of MaxRequests places", l, ok)
	}
	for _, n := range otherCounts {
		for _, s := range []string{"none", "0", "0 0", "", "-1"} {
			if l, ok := impl.ParseRequests(n, s); !nothing(l, ok) {
				t.Errorf("ParseRequests(%d, %q) = %v, %v", n, s, l, ok)
			}
		}
	}
}

func TestLoopRequests(t *testing.T) {
	for n := -1; n <= 10; n++ {
		for k := -1; k <= 10; k++ {
			for length := -1; length <= impl.MaxRequests+1; length++ {
				l, ok := impl.LoopRequests(n, k, length)
				if n < 1 || n > 8 || k < 1 || k > n || length < 0 || length > 60 {
					if !nothing(l, ok) {
						t.Fatalf("LoopRequests(%d, %d, %d) = %v, %v", n, k, length, l, ok)
					}
					continue
				}
				if want := slices.Repeat(countUp(k), 60)[:length]; !isList(l, ok, want...) {
					t.Fatalf("LoopRequests(%d, %d, %d) = %v, %v", n, k, length, l, ok)
				}
			}
		}
	}
	for _, far := range farInts {
		for _, c := range [][3]int{{far, 1, 1}, {8, far, 1}, {8, 1, far}, {far, far, 1}, {far, far, far}, {far, 1, 0}, {8, far, 0}} {
			if l, ok := impl.LoopRequests(c[0], c[1], c[2]); !nothing(l, ok) {
				t.Errorf("LoopRequests(%v) = %v, %v", c, l, ok)
			}
		}
	}
}

// statesOf returns the states that follow a seed: numbers of 16 bits have their remainders by 65536 of themselves.
func statesOf(seed int, count int) []uint16 {
	states := []uint16{}
	state := uint16(seed)
	for range count {
		state = state*1021 + 12345
		states = append(states, state)
	}
	return states
}

func TestSeededRequests(t *testing.T) {
	if l, ok := impl.SeededRequests(8, 10, 0); !isList(l, ok, 3, 0, 0, 0, 1, 7, 4, 5, 3, 2) {
		t.Error("the seed 0", l, ok)
	}
	if l, ok := impl.SeededRequests(3, 8, 9999); !isList(l, ok, 1, 1, 0, 2, 0, 1, 2, 1) {
		t.Error("the seed 9999", l, ok)
	}
	for seed := 0; seed <= 9999; seed++ {
		states := statesOf(seed, impl.MaxRequests)
		for n := 1; n <= impl.MaxItems; n++ {
			want := []int{}
			for _, state := range states {
				want = append(want, int(state/16)%n)
			}
			for _, length := range []int{seed % 61, impl.MaxRequests} {
				if l, ok := impl.SeededRequests(n, length, seed); !isList(l, ok, want[:length]...) {
					t.Fatalf("SeededRequests(%d, %d, %d) = %v, %v", n, length, seed, l, ok)
				}
			}
		}
	}
}

func TestSeededRequestsFails(t *testing.T) {
	for _, length := range []int{0, 1, impl.MaxRequests} {
		if l, ok := impl.SeededRequests(2, length, 0); !ok || len(l) != length {
			t.Errorf("SeededRequests(2, %d, 0) = %v, %v", length, l, ok)
		}
		for _, seed := range []int{-1, 10000, 10001, 65536, math.MaxInt, math.MinInt} {
			if l, ok := impl.SeededRequests(2, length, seed); !nothing(l, ok) {
				t.Errorf("SeededRequests(2, %d, %d) = %v, %v", length, seed, l, ok)
			}
		}
		for _, n := range otherCounts {
			if l, ok := impl.SeededRequests(n, length, 1); !nothing(l, ok) {
				t.Errorf("SeededRequests(%d, %d, 1) = %v, %v", n, length, l, ok)
			}
		}
	}
	for _, length := range append([]int{-1}, farInts...) {
		if l, ok := impl.SeededRequests(2, length, 1); !nothing(l, ok) {
			t.Errorf("SeededRequests(2, %d, 1) = %v, %v", length, l, ok)
		}
	}
}

func TestNearRequests(t *testing.T) {
	if l, ok := impl.NearRequests(8, 10, 3, 0); !isList(l, ok, 3, 4, 5, 5, 6, 0, 1, 3, 3, 4) {
		t.Error("the seed 0", l, ok)
	}
	for seed := 0; seed <= 9999; seed += 9 {
		states := statesOf(seed, impl.MaxRequests)
		for n := 1; n <= impl.MaxItems; n++ {
			for w := 1; w <= n; w++ {
				want := []int{int(states[0]/16) % n}
				for place := 1; place < impl.MaxRequests; place++ {
					want = append(want, (want[place-1]+int(states[place]/16)%w)%n)
				}
				for _, length := range []int{seed / 9 % 61, impl.MaxRequests} {
					if l, ok := impl.NearRequests(n, length, w, seed); !isList(l, ok, want[:length]...) {
						t.Fatalf("NearRequests(%d, %d, %d, %d) = %v, %v", n, length, w, seed, l, ok)
					}
				}
			}
		}
	}
}

func TestNearRequestsFails(t *testing.T) {
	for _, length := range []int{0, 1, impl.MaxRequests} {
		for _, w := range []int{1, 4} {
			if l, ok := impl.NearRequests(4, length, w, 9999); !ok || len(l) != length {
				t.Errorf("NearRequests(4, %d, %d, 9999) = %v, %v", length, w, l, ok)
			}
		}
		for _, w := range append([]int{0, -1, 5, 8, 9}, farInts...) {
			if l, ok := impl.NearRequests(4, length, w, 0); !nothing(l, ok) {
				t.Errorf("NearRequests(4, %d, %d, 0) = %v, %v", length, w, l, ok)
			}
		}
		for _, seed := range []int{-1, 10000, 65536, math.MaxInt, math.MinInt} {
			if l, ok := impl.NearRequests(4, length, 1, seed); !nothing(l, ok) {
				t.Errorf("NearRequests(4, %d, 1, %d) = %v, %v", length, seed, l, ok)
			}
		}
		for _, n := range otherCounts {
			if l, ok := impl.NearRequests(n, length, 1, 1); !nothing(l, ok) {
				t.Errorf("NearRequests(%d, %d, 1, 1) = %v, %v", n, length, l, ok)
			}
		}
	}
	for _, length := range append([]int{-1}, farInts...) {
		if l, ok := impl.NearRequests(4, length, 1, 1); !nothing(l, ok) {
			t.Errorf("NearRequests(4, %d, 1, 1) = %v, %v", length, l, ok)
		}
	}
}

func TestRunsTellTheSequence(t *testing.T) {
	for _, reqs := range slices.Concat(sequencesOver(3, 7), fullSequences) {
		runs, ok := impl.RunsOf(8, reqs)
		if !ok {
			t.Fatalf("RunsOf(8, %v) fails", reqs)
		}
		told := []int{}
		for i, run := range runs {
			if run[1] < 1 || i > 0 && runs[i-1][0] == run[0] {
				t.Fatalf("RunsOf(8, %v) = %v", reqs, runs)
			}
			told = append(told, slices.Repeat([]int{run[0]}, run[1])...)
		}
		if !slices.Equal(told, reqs) {
			t.Fatalf("RunsOf(8, %v) = %v", reqs, runs)
		}
		if l, ok := impl.FromRuns(8, runs); !isList(l, ok, reqs...) {
			t.Fatalf("FromRuns(8, %v) = %v, %v", runs, l, ok)
		}
	}
}

func TestRunsOfNamedSequences(t *testing.T) {
	for _, c := range []struct {
		reqs []int
		want [][2]int
	}{
		{nil, nil}, {[]int{0}, [][2]int{{0, 1}}}, {[]int{2, 2, 2}, [][2]int{{2, 3}}}, {[]int{0, 1, 0}, [][2]int{{0, 1}, {1, 1}, {0, 1}}},
		{[]int{1, 1, 0, 0, 0, 1}, [][2]int{{1, 2}, {0, 3}, {1, 1}}}, {make([]int, impl.MaxRequests), [][2]int{{0, 60}}},
	} {
		if runs, ok := impl.RunsOf(3, c.reqs); !ok || !slices.Equal(runs, c.want) {
			t.Errorf("RunsOf(3, %v) = %v, %v", c.reqs, runs, ok)
		}
	}
	turns := slices.Repeat([]int{1, 0}, impl.MaxRequests/2)
	if runs, ok := impl.RunsOf(2, turns); !ok || len(runs) != impl.MaxRequests || runs[0] != [2]int{1, 1} || runs[59] != [2]int{0, 1} {
		t.Error("runs of one place each", runs, ok)
	}
}

func TestFromRuns(t *testing.T) {
	ones := slices.Repeat([][2]int{{1, 1}}, impl.MaxRequests)
	for _, c := range []struct {
		runs [][2]int
		want []int
	}{
		{nil, nil}, {[][2]int{{0, 1}}, []int{0}}, {[][2]int{{2, 2}, {0, 1}}, []int{2, 2, 0}},
		// neighbors that have the same item
		{[][2]int{{1, 1}, {1, 2}, {0, 1}, {0, 1}}, []int{1, 1, 1, 0, 0}},
		{ones, slices.Repeat([]int{1}, impl.MaxRequests)}, {[][2]int{{2, 60}}, slices.Repeat([]int{2}, impl.MaxRequests)},
		{[][2]int{{0, 59}, {0, 1}}, make([]int, impl.MaxRequests)}, {[][2]int{{0, 1}, {0, 59}}, make([]int, impl.MaxRequests)},
	} {
		if l, ok := impl.FromRuns(3, c.runs); !isList(l, ok, c.want...) {
			t.Errorf("FromRuns(3, %v) = %v, %v", c.runs, l, ok)
		}
	}
	for _, runs := range [][][2]int{
		{{0, 61}}, {{0, 60}, {0, 1}}, {{0, 1}, {0, 60}}, {{0, 30}, {1, 31}}, append(ones, [2]int{0, 1}), slices.Repeat([][2]int{{0, 1}}, 100000),
		{{0, 0}}, {{0, -1}}, {{0, 1}, {1, 0}}, {{0, 1}, {1, -1}, {2, 1}}, {{0, 60}, {1, 0}}, {{0, 60}, {1, -1}, {0, 1}}, append(ones, [2]int{0, 0}),
		{{-1, 1}}, {{3, 1}}, {{0, 1}, {3, 1}}, {{0, 1}, {-1, 1}}, {{-1, 0}}, {{math.MaxInt, 1}}, {{math.MinInt, 1}},
		{{0, math.MaxInt}}, {{0, math.MinInt}}, {{0, 1}, {0, math.MaxInt}}, {{0, 1}, {0, math.MinInt}}, {{0, math.MaxInt}, {0, math.MaxInt}}, {{0, math.MaxInt}, {0, math.MinInt}}, {{0, 1}, {0, math.MaxInt - 1}},
	} {
		if l, ok := impl.FromRuns(3, runs); !nothing(l, ok) {
			t.Errorf("FromRuns(3, %v) = %v, %v", runs[:min(len(runs), 4)], l, ok)
		}
	}
	for _, n := range otherCounts {
		for _, runs := range [][][2]int{nil, {{0, 1}}, {{-1, 1}}, {{n, 1}}} {
			if l, ok := impl.FromRuns(n, runs); !nothing(l, ok) {
				t.Errorf("FromRuns(%d, %v) = %v, %v", n, runs, l, ok)
			}
		}
	}
}

func TestCountsOf(t *testing.T) {
	for n := 1; n <= impl.MaxItems; n++ {
		for _, reqs := range slices.Concat(sequencesOver(min(n, 3), 5), fullSequences[:1]) {
			want := make([]int, n)
			for item := range n {
				for _, other := range reqs {
					if other == item {
						want[item]++
					}
				}
			}
			if l, ok := impl.CountsOf(n, reqs); !isList(l, ok, want...) {
				t.Fatalf("CountsOf(%d, %v) = %v, %v", n, reqs, l, ok)
			}
		}
	}
	if l, ok := impl.CountsOf(8, fullSequences[2]); !isList(l, ok, 12, 6, 6, 6, 6, 6, 6, 12) {
		t.Error("a sequence of MaxRequests places", l, ok)
	}
	if l, ok := impl.CountsOf(4, nil); !isList(l, ok, 0, 0, 0, 0) {
		t.Error("a sequence without places", l, ok)
	}
}

func TestUsesAreTheNearestPlacesWithTheItem(t *testing.T) {
	for _, reqs := range slices.Concat(sequencesOver(3, 6), fullSequences) {
		wantLast, wantNext := []int{}, []int{}
		for place, item := range reqs {
			wantLast = append(wantLast, -1)
			for earlier := range place {
				if reqs[earlier] == item {
					wantLast[place] = earlier
				}
			}
			next := slices.Index(reqs[place+1:], item)
			if next >= 0 {
				next += place + 1
			}
			wantNext = append(wantNext, next)
		}
		last, ok := impl.LastUses(8, reqs)
		if !isList(last, ok, wantLast...) {
			t.Fatalf("LastUses(8, %v) = %v, %v", reqs, last, ok)
		}
		next, ok := impl.NextUses(8, reqs)
		if !isList(next, ok, wantNext...) {
			t.Fatalf("NextUses(8, %v) = %v, %v", reqs, next, ok)
		}
		for place := range reqs {
			if last[place] >= 0 && next[last[place]] != place || next[place] >= 0 && last[next[place]] != place {
				t.Fatalf("the uses of %v are not inverse: %v and %v", reqs, last, next)
			}
		}
	}
}

func TestUsesTellTheSequenceButForNames(t *testing.T) {
	told := map[string][]int{}
	for _, reqs := range sequencesOver(3, 6) {
		last, _ := impl.LastUses(3, reqs)
		names, seen := []int{}, map[int]int{} // each item by the order of first places
		for _, item := range reqs {
			if _, is := seen[item]; !is {
				seen[item] = len(seen)
			}
			names = append(names, seen[item])
		}
		key := plainText(last)
		if other, is := told[key]; is && !slices.Equal(other, names) {
			t.Fatalf("the uses %s belong to %v and to %v", key, other, names)
		}
		told[key] = names
	}
}

func TestWindowSizes(t *testing.T) {
	widths := []int{1, 2, 3, 4, 5, 6, 7, 8, 30, 59, impl.MaxRequests}
	for _, reqs := range slices.Concat(sequencesOver(3, 6), fullSequences) {
		for _, w := range widths {
			want := []int{}
			for place := range reqs {
				seen := map[int]bool{}
				for back := 0; back < w && back <= place; back++ {
					seen[reqs[place-back]] = true
				}
				want = append(want, len(seen))
			}
			if l, ok := impl.WindowSizes(8, reqs, w); !isList(l, ok, want...) {
				t.Fatalf("WindowSizes(8, %v, %d) = %v, %v", reqs, w, l, ok)
			}
		}
	}
	for _, reqs := range [][]int{nil, {0}, {0, 1, 0}} {
		for _, w := range append([]int{0, -1}, farInts...) {
			if l, ok := impl.WindowSizes(2, reqs, w); !nothing(l, ok) {
				t.Errorf("WindowSizes(2, %v, %d) = %v, %v", reqs, w, l, ok)
			}
		}
	}
}

func TestJoiningAndWeavingKeepThePlaces(t *testing.T) {
	some := append(sequencesOver(3, 4), fullSequences...)
	for _, a := range some {
		for _, b := range some {
			joined, ok := impl.JoinRequests(8, a, b)
			woven, fine := impl.WeaveRequests(8, a, b)
			if len(a)+len(b) > impl.MaxRequests {
				if !nothing(joined, ok) || !nothing(woven, fine) {
					t.Fatalf("%v and %v are taken: %v, %v", a, b, joined, woven)
				}
				continue
			}
			if !isList(joined, ok, slices.Concat(a, b)...) {
				t.Fatalf("JoinRequests(8, %v, %v) = %v, %v", a, b, joined, ok)
			}
			want := []int{}
			for i := range impl.MaxRequests {
				if i < len(a) {
					want = append(want, a[i])
				}
				if i < len(b) {
					want = append(want, b[i])
				}
			}
			if !isList(woven, fine, want...) {
				t.Fatalf("WeaveRequests(8, %v, %v) = %v, %v", a, b, woven, fine)
			}
		}
	}
}

func TestResultsAroundMaxRequests(t *testing.T) {
	for length := 0; length <= impl.MaxRequests+1; length++ {
		for more := -1; more <= 2; more++ {
			other := impl.MaxRequests - length + more
			if other < 0 {
				continue
			}
			a, b := make([]int, length), slices.Repeat([]int{1}, other)
			want := length <= 60 && other <= 60 && length+other <= 60
			joined, ok := impl.JoinRequests(2, a, b)
			woven, fine := impl.WeaveRequests(2, a, b)
			runs, good := impl.FromRuns(2, [][2]int{{0, max(length, 1)}, {1, max(other, 1)}})
			if ok != want || fine != want || len(joined) != len(woven) || want && len(woven) != length+other {
				t.Errorf("%d and %d places: %v, %v", length, other, ok, fine)
			}
			if sum := max(length, 1) + max(other, 1); good != (sum <= 60) || good && len(runs) != sum || !good && len(runs) != 0 {
				t.Errorf("runs of %d and %d places: %v", length, other, good)
			}
		}
	}
}

func TestProjectingKeepsThePlacesOfItems(t *testing.T) {
	for _, reqs := range slices.Concat(sequencesOver(3, 5), fullSequences) {
		for set := range 256 {
			items, want := []int{}, []int{}
			for item := range 8 {
				if set>>item&1 == 1 {
					items = append(items, item)
				}
			}
			for _, item := range reqs {
				if set>>item&1 == 1 {
					want = append(want, item)
				}
			}
			if l, ok := impl.ProjectRequests(8, reqs, items); !isList(l, ok, want...) {
				t.Fatalf("ProjectRequests(8, %v, %v) = %v, %v", reqs, items, l, ok)
			}
		}
	}
}

func TestProjectRequestsFails(t *testing.T) {
	for _, reqs := range [][]int{nil, {0}, {0, 1, 2, 1}} {
		for _, items := range append(badItems(3), []int{1, 0}, []int{0, 0}, []int{0, 2, 1}, []int{0, 1, 1}, []int{0, 1, 2, 2}, []int{2, 1, 0}, []int{0, 1, 2, 0}, make([]int, 100000)) {
			if l, ok := impl.ProjectRequests(3, reqs, items); !nothing(l, ok) {
				t.Errorf("ProjectRequests(3, %v, %v) = %v, %v", reqs, items[:min(len(items), 4)], l, ok)
			}
		}
	}
	if l, ok := impl.ProjectRequests(3, []int{0, 1}, nil); !isList(l, ok) {
		t.Error("a list without items", l, ok)
	}
	if l, ok := impl.ProjectRequests(3, nil, []int{0, 2}); !isList(l, ok) {
		t.Error("a sequence without places", l, ok)
	}
}

// badItems are lists with something that is no item for n, and else in strictly ascending order.
func badItems(n int) [][]int {
	bad := [][]int{{-1}, {n}, {-1, 0}, {0, n}, {-1, 0, 1}, {0, 1, n}}
	for _, far := range farInts {
		bad = append(bad, []int{far}, []int{far, 1}, []int{1, far})
	}
	return bad
}

// orders returns all orders of the numbers below n.
func orders(n int) [][]int {
	if n == 0 {
		return [][]int{{}}
	}
	all := [][]int{}
	for _, order := range orders(n - 1) {
		for at := range n {
			all = append(all, slices.Insert(slices.Clone(order), at, n-1))
		}
	}
	return all
}

func TestRenamingKeepsTheUses(t *testing.T) {
	for n := 1; n <= 4; n++ {
		for _, to := range orders(n) {
			back := make([]int, n)
			for item, name := range to {
				back[name] = item
			}
			for _, reqs := range sequencesOver(n, 5) {
				want := []int{}
				for _, item := range reqs {
					want = append(want, to[item])
				}
				l, ok := impl.RenameRequests(n, reqs, to)
				if !isList(l, ok, want...) {
					t.Fatalf("RenameRequests(%d, %v, %v) = %v, %v", n, reqs, to, l, ok)
				}
				before, _ := impl.LastUses(n, reqs)
				if uses, ok := impl.LastUses(n, l); !isList(uses, ok, before...) {
					t.Fatalf("RenameRequests(%d, %v, %v) changes the uses", n, reqs, to)
				}
				if l, ok := impl.RenameRequests(n, l, back); !isList(l, ok, reqs...) {
					t.Fatalf("%v is not renamed back from %v: %v, %v", reqs, to, l, ok)
				}
			}
		}
	}
	if l, ok := impl.RenameRequests(8, fullSequences[2], []int{7, 6, 5, 4, 3, 2, 1, 0}); !isList(l, ok, slices.Repeat([]int{7, 6, 5, 4, 3, 2, 1, 0, 0, 7}, 6)...) {
		t.Error("a sequence of MaxRequests places", l, ok)
	}
}

func TestRenameRequestsFails(t *testing.T) {
	for _, reqs := range [][]int{nil, {0}, {0, 1, 2}} {
		for _, to := range append(badItems(3),
			nil, []int{}, []int{0}, []int{0, 1}, []int{1, 2}, []int{0, 1, 2, 0}, []int{0, 1, 2, 3}, []int{0, 0, 1}, []int{0, 1, 1}, []int{2, 1, 2}, []int{0, 0, 0},
			[]int{0, 1, 3}, []int{-1, 0, 1}, []int{1, 2, 3}, []int{0, 1, math.MaxInt}, []int{math.MinInt, 1, 2}, make([]int, impl.MaxRequests), make([]int, 100000)) {
			if l, ok := impl.RenameRequests(3, reqs, to); !nothing(l, ok) {
				t.Errorf("RenameRequests(3, %v, %v) = %v, %v", reqs, to[:min(len(to), 4)], l, ok)
			}
		}
	}
	if l, ok := impl.RenameRequests(1, nil, []int{0}); !isList(l, ok) {
		t.Error("a sequence without places", l, ok)
	}
	if l, ok := impl.RenameRequests(1, []int{0, 0}, []int{0}); !isList(l, ok, 0, 0) {
		t.Error("one item", l, ok)
	}
}

func TestChapter3RefusesWhatIsNoSequence(t *testing.T) {
	for name, f := range sequenceFunctions {
		for _, n := range otherCounts {
			for _, reqs := range [][]int{nil, {0}, {-1}, {n}, {n - 1}, {math.MaxInt}} {
				if l, ok := f(n, reqs); !nothing(l, ok) {
					t.Errorf("%s takes %v for %d: %v, %v", name, reqs, n, l, ok)
				}
			}
		}
		for n := 1; n <= impl.MaxItems; n++ {
			tooLong := make([]int, impl.MaxRequests+1)
			for _, reqs := range append(badItems(n), tooLong, slices.Repeat(tooLong, 1000), append(make([]int, impl.MaxRequests-1), n), append(make([]int, impl.MaxRequests), n)) {
				if l, ok := f(n, reqs); !nothing(l, ok) {
					t.Errorf("%s takes %v for %d: %v, %v", name, reqs[:min(len(reqs), 4)], n, l, ok)
				}
			}
			if _, ok := f(n, nil); !ok {
				t.Errorf("%s refuses the sequence without places for %d", name, n)
			}
			if _, ok := f(n, slices.Repeat([]int{n - 1}, impl.MaxRequests)); !ok {
				t.Errorf("%s refuses a sequence of MaxRequests places for %d", name, n)
			}
		}
	}
}

// Promise 13: arguments stay as they are, with the room behind them, and results have memory of their own.
func TestChapter3ModifiesNoArgument(t *testing.T) {
	kept := []int{6, 0, 2, 2, 1, 0, 6, 6, 6}
	for name, f := range sequenceFunctions {
		whole := slices.Clone(kept)
		l, ok := f(3, whole[1:6])
		if !ok || !slices.Equal(whole, kept) {
			t.Errorf("%s leaves %v", name, whole)
		}
		for i := range l[:cap(l)] {
			l[:cap(l)][i] = 77
		}
		if !slices.Equal(whole, kept) {
			t.Errorf("the result of %s shares memory with its argument", name)
		}
	}
	reqs, items, to, runs := []int{0, 2, 2, 1}, []int{1, 2}, []int{2, 0, 1}, [][2]int{{0, 2}, {0, 1}, {1, 1}}
	both := append(slices.Clone(reqs), 5, 5, 5, 5)
	results := [][]int{}
	keep := func(l []int, ok bool) {
		if !ok {
			t.Error("a call fails")
		}
		results = append(results, l[:cap(l)])
	}
	keep(impl.ProjectRequests(3, reqs, items))
	keep(impl.RenameRequests(3, reqs, to))
	keep(impl.RenameRequests(3, to, to))
	keep(impl.FromRuns(3, runs))
	keep(impl.JoinRequests(3, both[:4], both[2:4]))
	keep(impl.WeaveRequests(3, both[:4], both[2:4]))
	keep(impl.WeaveRequests(3, both[2:4], both[:4]))
	impl.RequestsText(3, reqs)
	impl.IsRequests(3, reqs)
	told, _ := impl.RunsOf(3, reqs)
	told[0] = [2]int{9, 9}
	for _, l := range results {
		for i := range l {
			l[i] = 77
		}
	}
	if !slices.Equal(reqs, []int{0, 2, 2, 1}) || !slices.Equal(items, []int{1, 2}) || !slices.Equal(to, []int{2, 0, 1}) || !slices.Equal(runs, [][2]int{{0, 2}, {0, 1}, {1, 1}}) || !slices.Equal(both, []int{0, 2, 2, 1, 5, 5, 5, 5}) {
		t.Error("an argument is modified", reqs, items, to, runs, both)
	}
	if again, ok := impl.RunsOf(3, reqs); !ok || again[0] != [2]int{0, 1} {
		t.Error("a result is changed through another", again)
	}
}
