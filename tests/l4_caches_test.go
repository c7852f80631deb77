package tests

import (
	"cmp"
	"math"
	"math/big"
	"regexp"
	"slices"
	"strings"
	"testing"

	"loop.example/g01087/impl"
)

// policyTitles are the PolicyNames in the order of the Policies 1..7.
var policyTitles = []string{"lru", "fifo", "lifo", "flush", "lfu", "clock", "mru"}

// plainPage is a page with the times at which it was put in and requested last.
type plainPage struct{ item, entered, used, mark int }

// plainCache is a Cache told by times. Its pages are in no order, but for the slots of CacheClock.
type plainCache struct {
	policy, size, hand, now int
	pages                   []plainPage
}

// plainOf returns the plainCache of a valid Cache.
func plainOf(x impl.Cache) *plainCache {
	c := &plainCache{policy: x.Policy, size: x.Size, hand: x.Hand}
	for i, item := range x.Pages {
		page := plainPage{item: item, entered: -i, used: -i}
		if len(x.Marks) > 0 {
			page.mark = x.Marks[i]
		}
		c.pages = append(c.pages, page)
	}
	return c
}

// worth is what makes a page stay: the page with the least worth is taken out.
func (c *plainCache) worth(p plainPage) []int {
	switch c.policy {
	case impl.CacheLRU:
		return []int{p.used}
	case impl.CacheMRU:
		return []int{-p.used}
	case impl.CacheFIFO:
		return []int{p.entered}
	case impl.CacheLIFO:
		return []int{-p.entered}
	case impl.CacheLFU:
		return []int{p.mark, p.entered}
	}
	return nil // of equal worth: none stays
}

// takeOut takes the pages out that a fault takes out of a full cache.
func (c *plainCache) takeOut() []int {
	if c.policy == impl.CacheClock {
		for c.pages[c.hand].mark == 1 {
			c.pages[c.hand].mark = 0
			c.hand = (c.hand + 1) % c.size
		}
		return []int{c.pages[c.hand].item}
	}
	byWorth := func(a, b plainPage) int { return slices.Compare(c.worth(a), c.worth(b)) }
	least := slices.MinFunc(c.pages, byWorth)
	victims, kept := []int{}, []plainPage{}
	for _, p := range c.pages {
		if byWorth(p, least) == 0 {
			victims = append(victims, p.item)
		} else {
			kept = append(kept, p)
		}
	}
	c.pages = kept
	slices.Sort(victims)
	return victims
}

// request serves an item, and returns the pages that it takes out and whether it is a fault.
func (c *plainCache) request(item int) ([]int, bool) {
	c.now++
	for i := range c.pages {
		p := &c.pages[i]
		if p.item != item {
			continue
		}
		p.used = c.now
		if c.policy == impl.CacheClock {
			p.mark = 1
		} else if p.mark < 60 {
			p.mark++
		}
		return nil, false
	}
	page := plainPage{item, c.now, c.now, 1}
	if len(c.pages) < c.size {
		c.pages = append(c.pages, page)
		return nil, true
	}
	victims := c.takeOut()
	if c.policy == impl.CacheClock {
		c.pages[c.hand] = page
		c.hand = (c.hand + 1) % c.size
	} else {
		c.pages = append(c.pages, page)
	}
	return victims, true
}

// cache returns the Cache that is told by the times.
func (c *plainCache) cache() impl.Cache {
	sorted := slices.Clone(c.pages)
	slices.SortFunc(sorted, func(a, b plainPage) int {
		switch c.policy {
		case impl.CacheClock:
			return 0
		case impl.CacheLRU, impl.CacheMRU:
			return b.used - a.used
		}
		return b.entered - a.entered
	})
	x := impl.Cache{Policy: c.policy, Size: c.size, Hand: c.hand}
	for _, p := range sorted {
		x.Pages = append(x.Pages, p.item)
		if c.policy == impl.CacheLFU || c.policy == impl.CacheClock {
			x.Marks = append(x.Marks, p.mark)
		}
	}
	return x
}

// contents returns the pages in ascending order.
func (c *plainCache) contents() []int {
	x := c.cache()
	slices.Sort(x.Pages)
	return x.Pages
}

// isCache says whether a call returned the Cache want, and true.
func isCache(x impl.Cache, ok bool, want impl.Cache) bool { return ok && sameCache(x, want) }

func sameCache(x impl.Cache, y impl.Cache) bool {
	return x.Policy == y.Policy && x.Size == y.Size && x.Hand == y.Hand && slices.Equal(x.Pages, y.Pages) && slices.Equal(x.Marks, y.Marks)
}

// noCache says whether a call failed as it must: with a false and the zero Cache.
func noCache(x impl.Cache, ok bool) bool { return !ok && sameCache(x, impl.Cache{}) }

// markLists returns all lists of as many marks as told, with marks out of a few.
func markLists(count int, few []int) [][]int {
	lists := [][]int{}
	for _, picks := range sequencesOver(len(few), count) {
		if len(picks) == count {
			list := []int{}
			for _, i := range picks {
				list = append(list, few[i])
			}
			lists = append(lists, list)
		}
	}
	return lists
}

// pageLists returns all lists of at most most different items for n.
func pageLists(n int, most int) [][]int {
	lists := [][]int{}
	for _, list := range sequencesOver(n, most) {
		if len(slices.Compact(slices.Sorted(slices.Values(list)))) == len(list) {
			lists = append(lists, list)
		}
	}
	return lists
}

// allCaches returns all valid Caches for n, with CacheLFU those with a few marks.
func allCaches(n int) []impl.Cache {
	all := []impl.Cache{}
	for size := 1; size <= 6; size++ {
		for _, pages := range pageLists(n, min(n, size)) {
			for policy := 1; policy <= 7; policy++ {
				marks, hands := [][]int{nil}, 1
				if policy == impl.CacheLFU {
					marks = markLists(len(pages), []int{1, 2, 59, 60})
				}
				if policy == impl.CacheClock {
					marks = markLists(len(pages), []int{0, 1})
					if len(pages) == size {
						hands = size
					}
				}
				for _, list := range marks {
					for hand := range hands {
						all = append(all, impl.Cache{Policy: policy, Size: size, Pages: pages, Marks: list, Hand: hand})
					}
				}
			}
		}
	}
	return all
}

// plainCacheText writes a Cache from its parts.
func plainCacheText(x impl.Cache) string {
	text := policyTitles[x.Policy-1] + "/" + decimal(x.Size)
	if x.Policy == 6 {
		text += "@" + decimal(x.Hand)
	}
	for i, item := range x.Pages {
		text += " " + decimal(item)
		if len(x.Marks) > 0 {
			text += ":" + decimal(x.Marks[i])
		}
	}
	return text
}

// wideCaches are valid Caches for MaxItems items of the Size MaxCache, full and not full.
var wideCaches = []impl.Cache{
	{Policy: 1, Size: 6, Pages: []int{7, 0, 5, 1, 4, 2}},
	{Policy: 2, Size: 6, Pages: []int{7, 0, 5, 1, 4, 2}},
	{Policy: 3, Size: 6, Pages: []int{7, 0, 5, 1, 4, 2}},
	{Policy: 4, Size: 6, Pages: []int{7, 0, 5, 1, 4, 2}},
	{Policy: 7, Size: 6, Pages: []int{7, 0, 5, 1, 4, 2}},
	{Policy: 5, Size: 6, Pages: []int{7, 0, 5, 1, 4, 2}, Marks: []int{60, 1, 10, 1, 59, 2}},
	{Policy: 5, Size: 6, Pages: []int{7, 0, 5, 1, 4, 2}, Marks: []int{60, 60, 60, 60, 60, 60}},
	{Policy: 6, Size: 6, Pages: []int{7, 0, 5, 1, 4, 2}, Marks: []int{1, 1, 1, 1, 1, 1}, Hand: 5},
	{Policy: 6, Size: 6, Pages: []int{7, 0, 5, 1, 4, 2}, Marks: []int{1, 1, 1, 1, 1, 1}, Hand: 0},
	{Policy: 6, Size: 6, Pages: []int{7, 0, 5, 1, 4, 2}, Marks: []int{0, 0, 0, 0, 0, 0}, Hand: 5},
	{Policy: 6, Size: 6, Pages: []int{7, 0, 5, 1, 4, 2}, Marks: []int{1, 0, 1, 1, 0, 1}, Hand: 2},
	{Policy: 6, Size: 6, Pages: []int{7, 0, 5, 1, 4, 2}, Marks: []int{1, 0, 1, 1, 1, 1}, Hand: 2},
	{Policy: 6, Size: 6, Pages: []int{7, 0, 5, 1, 4}, Marks: []int{1, 0, 1, 1, 0}},
	{Policy: 5, Size: 6, Pages: []int{7, 0, 5, 1, 4}, Marks: []int{1, 60, 1, 1, 2}},
	{Policy: 1, Size: 6, Pages: []int{7, 0, 5, 1, 4}},
	{Policy: 6, Size: 6}, {Policy: 5, Size: 6}, {Policy: 4, Size: 6},
}

func TestChapter4Constants(t *testing.T) {
	if impl.MaxCache != 6 || impl.CacheLRU != 1 || impl.CacheFIFO != 2 || impl.CacheLIFO != 3 || impl.CacheFlush != 4 || impl.CacheLFU != 5 || impl.CacheClock != 6 || impl.CacheMRU != 7 {
		t.Error("constants")
	}
}

func TestPolicyNames(t *testing.T) {
	for i, want := range policyTitles {
		if name, ok := impl.PolicyName(i + 1); !ok || name != want {
			t.Error("PolicyName", i+1, name, ok)
		}
		if policy, ok := impl.PolicyOf(want); !ok || policy != i+1 {
			t.Error("PolicyOf", want, policy, ok)
		}
	}
	for _, policy := range append([]int{0, -1, 8, 9}, farInts...) {
		if name, ok := impl.PolicyName(policy); ok || name != "" {
			t.Error("PolicyName", policy, name, ok)
		}
	}
	for _, name := range []string{"", " ", "LRU", "lru ", " lru", "lr", "lruu", "lru/1", "clock@0", "random", "1", "none", "lru\x00", "\xff", "fifo lifo", strings.Repeat("lru", 100000)} {
		if policy, ok := impl.PolicyOf(name); ok || policy != 0 {
			t.Errorf("PolicyOf(%.20q) = %d, %v", name, policy, ok)
		}
	}
}

// isPlainCache is the validity of a Cache as the document says it, for any n in 1..8.
func isPlainCache(n int, x impl.Cache) bool {
	full := len(x.Pages) == x.Size
	handBefore := 1 // Hand is less than it
	if x.Policy == impl.CacheClock && full {
		handBefore = x.Size
	}
	counts := map[int]int{}
	for _, item := range x.Pages {
		counts[item]++
		if item < 0 || item >= n || counts[item] > 1 {
			return false
		}
	}
	marks := 0
	for _, mark := range x.Marks {
		if x.Policy == impl.CacheLFU && mark >= 1 && mark <= 60 || x.Policy == impl.CacheClock && (mark == 0 || mark == 1) {
			marks++
		}
	}
	if x.Policy == impl.CacheLFU || x.Policy == impl.CacheClock {
		marks -= len(x.Pages)
	}
	return x.Policy >= 1 && x.Policy <= 7 && x.Size >= 1 && x.Size <= 6 && len(x.Pages) <= x.Size &&
		marks == 0 && len(x.Marks) <= len(x.Pages) && (len(x.Marks) == 0 || x.Policy == 5 || x.Policy == 6) && x.Hand >= 0 && x.Hand < handBefore
}

func TestIsCacheOfAllSmallParts(t *testing.T) {
	lists := [][]int{}
	for _, raised := range sequencesOver(4, 3) {
		list := []int{}
		for _, number := range raised {
			list = append(list, number-1)
		}
		lists = append(lists, list)
	}
	valid := 0
	for policy := 0; policy <= 8; policy++ {
		for _, size := range []int{0, 1, 2, 3, 6, 7} {
			for _, pages := range lists {
				for _, marks := range lists {
					for hand := -1; hand <= 3; hand++ {
						x := impl.Cache{Policy: policy, Size: size, Pages: pages, Marks: marks, Hand: hand}
						want := isPlainCache(2, x)
						if impl.IsCache(2, x) != want {
							t.Fatalf("IsCache(2, %v) is not %v", x, want)
						}
						if want {
							valid++
						}
					}
				}
			}
		}
	}
	if valid == 0 {
		t.Error("no Cache is valid")
	}
}

func TestAllCachesAreValid(t *testing.T) {
	for n := 1; n <= 3; n++ {
		for _, x := range allCaches(n) {
			for other := n - 2; other <= n+1; other++ {
				want := other >= 1 && (len(x.Pages) == 0 || slices.Max(x.Pages) < other)
				if impl.IsCache(other, x) != want {
					t.Fatalf("IsCache(%d, %v) is not %v", other, x, want)
				}
			}
		}
	}
	for _, x := range wideCaches {
		if !impl.IsCache(8, x) || impl.IsCache(9, x) || len(x.Pages) > 0 && impl.IsCache(7, x) {
			t.Error("IsCache", x)
		}
	}
}

// badCaches are Caches that are not valid for 4 items.
func badCaches() []impl.Cache {
	bad := []impl.Cache{{}}
	for _, far := range append([]int{-1, 61}, farInts...) {
		bad = append(bad,
			impl.Cache{Policy: far, Size: 2}, impl.Cache{Policy: 1, Size: far}, impl.Cache{Policy: far, Size: far, Pages: []int{0}},
			impl.Cache{Policy: 1, Size: 2, Pages: []int{far}}, impl.Cache{Policy: 1, Size: 2, Pages: []int{0, far}},
			impl.Cache{Policy: 5, Size: 2, Pages: []int{0}, Marks: []int{far}}, impl.Cache{Policy: 6, Size: 2, Pages: []int{0, 1}, Marks: []int{0, far}},
			impl.Cache{Policy: 1, Size: 2, Pages: []int{0, 1}, Hand: far}, impl.Cache{Policy: 6, Size: 2, Pages: []int{0, 1}, Marks: []int{1, 1}, Hand: far},
			impl.Cache{Policy: 6, Size: 2, Pages: []int{0}, Marks: []int{1}, Hand: far}, impl.Cache{Policy: 6, Size: 2, Hand: far},
		)
	}
	for policy := 1; policy <= 7; policy++ {
		ones := func(count int) []int {
			if policy != 5 && policy != 6 {
				return nil
			}
			return slices.Repeat([]int{1}, count)
		}
		bad = append(bad,
			impl.Cache{Policy: policy, Size: 0}, impl.Cache{Policy: policy, Size: 7}, impl.Cache{Policy: policy, Size: 7, Pages: []int{0}, Marks: ones(1)},
			impl.Cache{Policy: policy, Size: 2, Pages: []int{1, 1}, Marks: ones(2)}, impl.Cache{Policy: policy, Size: 3, Pages: []int{1, 0, 1}, Marks: ones(3)},
			impl.Cache{Policy: policy, Size: 2, Pages: []int{0, 1, 2}, Marks: ones(3)}, impl.Cache{Policy: policy, Size: 1, Pages: []int{0, 1}, Marks: ones(2)},
			impl.Cache{Policy: policy, Size: 2, Pages: []int{0, -1}, Marks: ones(2)}, impl.Cache{Policy: policy, Size: 2, Pages: []int{4, 0}, Marks: ones(2)},
			impl.Cache{Policy: policy, Size: 3, Pages: []int{0, 1}, Marks: ones(2), Hand: 1}, impl.Cache{Policy: policy, Size: 2, Pages: []int{0, 1}, Marks: ones(2), Hand: 2},
			impl.Cache{Policy: policy, Size: 2, Pages: []int{0, 1}, Marks: ones(2), Hand: -1}, impl.Cache{Policy: policy, Size: 2, Hand: 1},
			impl.Cache{Policy: policy, Size: 2, Marks: []int{1}}, impl.Cache{Policy: policy, Size: 2, Pages: []int{0}, Marks: []int{1, 1}},
			impl.Cache{Policy: policy, Size: 6, Pages: make([]int, 100000), Marks: ones(100000)}, impl.Cache{Policy: policy, Size: 6, Pages: make([]int, math.MaxInt16), Marks: make([]int, 2)},
		)
		if policy == 5 || policy == 6 {
			bad = append(bad,
				impl.Cache{Policy: policy, Size: 2, Pages: []int{0}}, impl.Cache{Policy: policy, Size: 2, Pages: []int{0, 1}, Marks: []int{1}},
				impl.Cache{Policy: policy, Size: 2, Pages: []int{0, 1}, Marks: []int{1, -1}}, impl.Cache{Policy: policy, Size: 2, Pages: []int{0, 1}, Marks: []int{61, 1}},
				impl.Cache{Policy: policy, Size: 2, Pages: []int{0}, Marks: []int{2 * (policy - 5)}}, impl.Cache{Policy: policy, Size: 2, Pages: []int{0}, Marks: make([]int, 100000)},
			)
		} else {
			bad = append(bad, impl.Cache{Policy: policy, Size: 2, Pages: []int{0}, Marks: []int{1}}, impl.Cache{Policy: policy, Size: 2, Pages: []int{0, 1}, Hand: 1})
		}
	}
	return bad
}

// refusesCache checks that all functions with a Cache fail.
func refusesCache(t *testing.T, n int, x impl.Cache) {
	t.Helper()
	if impl.IsCache(n, x) {
		t.Errorf("IsCache(%d, %v)", n, x)
	}
	if hit, ok := impl.IsHit(n, x, 0); hit || ok {
		t.Errorf("IsHit(%d, %v, 0) = %v, %v", n, x, hit, ok)
	}
	if l, ok := impl.VictimsOf(n, x, 0); !nothing(l, ok) {
		t.Errorf("VictimsOf(%d, %v, 0) = %v, %v", n, x, l, ok)
	}
	if y, ok := impl.StepCache(n, x, 0); !noCache(y, ok) {
		t.Errorf("StepCache(%d, %v, 0) = %v, %v", n, x, y, ok)
	}
	for _, reqs := range [][]int{nil, {0}, {0, 0}} {
		if y, faults, ok := impl.RunCache(n, x, reqs); !noCache(y, ok) || faults != 0 {
			t.Errorf("RunCache(%d, %v, %v) = %v, %v, %v", n, x, reqs, y, faults, ok)
		}
	}
	if s, ok := impl.CacheText(n, x); ok || s != "" {
		t.Errorf("CacheText(%d, %v) = %q, %v", n, x, s, ok)
	}
}

func TestChapter4RefusesInvalidCaches(t *testing.T) {
	for _, x := range badCaches() {
		refusesCache(t, 4, x)
	}
	for _, x := range append(allCaches(1), wideCaches...) {
		for _, n := range otherCounts {
			refusesCache(t, n, x)
		}
	}
}

func TestNewCache(t *testing.T) {
	for n := -1; n <= 10; n++ {
		for policy := -1; policy <= 9; policy++ {
			for size := -1; size <= 8; size++ {
				x, ok := impl.NewCache(n, policy, size)
				if n < 1 || n > 8 || policy < 1 || policy > 7 || size < 1 || size > 6 {
					if !noCache(x, ok) {
						t.Fatalf("NewCache(%d, %d, %d) = %v, %v", n, policy, size, x, ok)
					}
				} else if !isCache(x, ok, impl.Cache{Policy: policy, Size: size}) {
					t.Fatalf("NewCache(%d, %d, %d) = %v, %v", n, policy, size, x, ok)
				}
			}
		}
	}
}

// checkStep checks all functions with one request.
func checkStep(t *testing.T, n int, x impl.Cache, item int) {
	t.Helper()
	c := plainOf(x)
	victims, fault := c.request(item)
	if hit, ok := impl.IsHit(n, x, item); !ok || hit == fault {
		t.Fatalf("IsHit(%d, %v, %d) = %v, %v", n, x, item, hit, ok)
	}
	if l, ok := impl.VictimsOf(n, x, item); !isList(l, ok, victims...) {
		t.Fatalf("VictimsOf(%d, %v, %d) = %v, %v", n, x, item, l, ok)
	}
	y, ok := impl.StepCache(n, x, item)
	if !isCache(y, ok, c.cache()) || !impl.IsCache(n, y) {
		t.Fatalf("StepCache(%d, %v, %d) = %v, %v", n, x, item, y, ok)
	}
}

func TestOneRequest(t *testing.T) {
	for n := 1; n <= 4; n++ {
		for _, x := range allCaches(n) {
			for item := range n {
				checkStep(t, n, x, item)
			}
		}
	}
	for _, x := range wideCaches {
		for item := range 8 {
			checkStep(t, 8, x, item)
		}
	}
}

func TestOneRequestFails(t *testing.T) {
	for n := 1; n <= 3; n++ {
		for _, x := range append(allCaches(n), wideCaches[len(wideCaches)-3:]...) {
			for _, item := range append([]int{-1, n, n + 1}, farInts...) {
				hit, ok := impl.IsHit(n, x, item)
				l, fine := impl.VictimsOf(n, x, item)
				y, good := impl.StepCache(n, x, item)
				if hit || ok || !nothing(l, fine) || !noCache(y, good) {
					t.Fatalf("a request for %d of %v with %d items: %v, %v, %v", item, x, n, hit, l, y)
				}
			}
		}
	}
}

// cacheOf reads the Cache of a text that is valid for 8 items.
func cacheOf(t *testing.T, s string) impl.Cache {
	t.Helper()
	x, ok := impl.ParseCache(8, s)
	if !ok {
		t.Fatalf("ParseCache(8, %q) fails", s)
	}
	return x
}

func TestNamedSteps(t *testing.T) {
	for _, c := range []struct {
		before  string
		item    int
		after   string
		victims []int
	}{
		{"lru/2 0 1", 1, "lru/2 1 0", nil},
		{"lru/3 0 1 2", 1, "lru/3 1 0 2", nil},
		{"lru/3 0 1 2", 2, "lru/3 2 0 1", nil},
		{"lru/2 0 1", 2, "lru/2 2 0", []int{1}},
		{"lru/3 0 1", 2, "lru/3 2 0 1", nil},
		{"lru/1 0", 1, "lru/1 1", []int{0}},
		{"mru/2 0 1", 1, "mru/2 1 0", nil},
		{"mru/3 0 1 2", 3, "mru/3 3 1 2", []int{0}},
		{"fifo/3 0 1 2", 2, "fifo/3 0 1 2", nil},
		{"fifo/3 0 1 2", 3, "fifo/3 3 0 1", []int{2}},
		{"lifo/3 0 1 2", 2, "lifo/3 0 1 2", nil},
		{"lifo/3 0 1 2", 3, "lifo/3 3 1 2", []int{0}},
		{"flush/3 2 0 1", 1, "flush/3 2 0 1", nil},
		{"flush/3 2 0 1", 3, "flush/3 3", []int{0, 1, 2}},
		{"flush/3 2 0", 3, "flush/3 3 2 0", nil},
		{"flush/1 2", 3, "flush/1 3", []int{2}},
		{"lfu/3 0:2 1:1 2:1", 3, "lfu/3 3:1 0:2 1:1", []int{2}},
		{"lfu/3 0:1 1:2 2:2", 3, "lfu/3 3:1 1:2 2:2", []int{0}},
		{"lfu/3 0:5 1:60 2:59", 1, "lfu/3 0:5 1:60 2:59", nil},
		{"lfu/3 0:5 1:60 2:59", 2, "lfu/3 0:5 1:60 2:60", nil},
		{"lfu/2 0:60 1:60", 2, "lfu/2 2:1 0:60", []int{1}},
		{"lfu/3 0:60", 2, "lfu/3 2:1 0:60", nil},
		{"clock/2@0 0:1 1:1", 2, "clock/2@1 2:1 1:0", []int{0}},
		{"clock/2@1 0:1 1:1", 2, "clock/2@0 0:0 2:1", []int{1}},
		{"clock/3@1 0:1 1:1 2:1", 3, "clock/3@2 0:0 3:1 2:0", []int{1}},
		{"clock/3@2 0:1 1:1 2:0", 3, "clock/3@0 0:1 1:1 3:1", []int{2}},
		{"clock/3@2 0:1 1:0 2:1", 3, "clock/3@2 0:0 3:1 2:0", []int{1}},
		{"clock/3@2 0:1 1:0 2:0", 1, "clock/3@2 0:1 1:1 2:0", nil},
		{"clock/3@0 0:0 1:0", 2, "clock/3@0 0:0 1:0 2:1", nil},
		{"clock/4@0 0:0 1:0", 2, "clock/4@0 0:0 1:0 2:1", nil},
		{"clock/4@0 0:0 1:0", 0, "clock/4@0 0:1 1:0", nil},
		{"clock/1@0 0:1", 1, "clock/1@0 1:1", []int{0}},
		{"clock/1@0 0:0", 1, "clock/1@0 1:1", []int{0}},
		{"clock/2@0", 1, "clock/2@0 1:1", nil},
	} {
		x := cacheOf(t, c.before)
		y, ok := impl.StepCache(8, x, c.item)
		if s, fine := impl.CacheText(8, y); !ok || !fine || s != c.after {
			t.Errorf("%q becomes %q with %d", c.before, s, c.item)
		}
		if l, ok := impl.VictimsOf(8, x, c.item); !isList(l, ok, c.victims...) {
			t.Errorf("%q loses %v with %d", c.before, l, c.item)
		}
	}
}

// seededSequence is a mixed sequence, the same one for the same numbers.
func seededSequence(n int, length int, seed int) []int {
	reqs := []int{}
	for _, state := range statesOf(seed, length) {
		reqs = append(reqs, int(state/16)%n)
	}
	return reqs
}

// onManySequences calls check with all short sequences for few items, and longer ones for more.
func onManySequences(check func(n int, reqs []int)) {
	for n := 1; n <= 4; n++ {
		for _, reqs := range sequencesOver(n, 5) {
			check(n, reqs)
		}
	}
	for n := 5; n <= 8; n++ {
		for seed := range 30 {
			check(n, seededSequence(n, 2*seed+2, seed))
		}
	}
	for _, reqs := range fullSequences {
		check(8, reqs)
	}
}

func TestRunCacheIsAllItsSteps(t *testing.T) {
	check := func(n int, x impl.Cache, reqs []int) {
		c := plainOf(x)
		y, count := x, 0
		for _, item := range reqs {
			if _, fault := c.request(item); fault {
				count++
			}
			y, _ = impl.StepCache(n, y, item)
		}
		z, faults, ok := impl.RunCache(n, x, reqs)
		if !isCache(z, ok, c.cache()) || faults != count || !sameCache(y, z) {
			t.Fatalf("RunCache(%d, %v, %v) = %v, %d, %v", n, x, reqs, z, faults, ok)
		}
	}
	for n := 1; n <= 2; n++ {
		for _, x := range allCaches(n) {
			for _, reqs := range sequencesOver(n, 4) {
				check(n, x, reqs)
			}
		}
	}
	for _, x := range wideCaches {
		for seed := range 30 {
			check(8, x, seededSequence(8, 2*seed, 77*seed))
		}
		for _, reqs := range fullSequences {
			check(8, x, reqs)
		}
	}
	for i, x := range allCaches(3) {
		check(3, x, seededSequence(3, i%61, i))
	}
}

func TestRunCacheFails(t *testing.T) {
	x := impl.Cache{Policy: 6, Size: 2, Pages: []int{2, 0}, Marks: []int{1, 0}, Hand: 1}
	for _, reqs := range append(badItems(3), make([]int, 61), make([]int, 100000), append(make([]int, 59), 3), append(make([]int, 59), -1)) {
		if y, faults, ok := impl.RunCache(3, x, reqs); !noCache(y, ok) || faults != 0 {
			t.Errorf("RunCache with %v = %v, %v, %v", reqs[:min(len(reqs), 4)], y, faults, ok)
		}
	}
	if y, faults, ok := impl.RunCache(3, x, nil); !isCache(y, ok, x) || faults != 0 {
		t.Error("the sequence without places", y, faults, ok)
	}
	if y, faults, ok := impl.RunCache(3, x, slices.Repeat([]int{2}, 60)); !isCache(y, ok, x) || faults != 0 {
		t.Error("a sequence of hits", y, faults, ok)
	}
}

// plainRun is what is known of each place of a run.
type plainRun struct {
	faults   []int
	contents [][]int
	victims  [][]int
}

func runPlain(policy int, size int, reqs []int) plainRun {
	c := &plainCache{policy: policy, size: size}
	run := plainRun{}
	for place, item := range reqs {
		victims, fault := c.request(item)
		if fault {
			run.faults = append(run.faults, place)
		}
		run.contents = append(run.contents, c.contents())
		run.victims = append(run.victims, victims)
	}
	return run
}

// plainPhases returns for each place the place at which its phase begins.
func plainPhases(size int, reqs []int) []int {
	begins := []int{}
	begin, items := 0, map[int]bool{}
	for place, item := range reqs {
		if !items[item] && len(items) == size {
			begin, items = place, map[int]bool{}
		}
		items[item] = true
		begins = append(begins, begin)
	}
	return begins
}

// plainBreak returns the first place of a run with a page that the other run does not have, or -1.
func plainBreak(small plainRun, great plainRun) int {
	for place, pages := range small.contents {
		for _, page := range pages {
			if !slices.Contains(great.contents[place], page) {
				return place
			}
		}
	}
	return -1
}

// plainMarkingBreak returns the place of MarkingBreak, or -1.
func plainMarkingBreak(run plainRun, size int, reqs []int) int {
	for place, begin := range plainPhases(size, reqs) {
		for earlier := begin; earlier < place; earlier++ {
			if slices.Contains(run.victims[place], reqs[earlier]) {
				return place
			}
		}
	}
	return -1
}

// plainFaultyPart tries all parts, and returns the places of FaultyPart, or -1.
func plainFaultyPart(run plainRun, size int, reqs []int) [2]int {
	for last := range reqs {
		items, faults := map[int]bool{}, 0
		for first := last; first >= 0; first-- {
			items[reqs[first]] = true
			if slices.Contains(run.faults, first) {
				faults++
			}
			if len(items) <= size && faults > size {
				return [2]int{first, last}
			}
		}
	}
	return [2]int{-1, -1}
}

// isPlace says whether a call returned the number want, and true, or failed if want is -1.
func isPlace(number int, ok bool, want int) bool {
	return ok && number == want || !ok && number == 0 && want == -1
}

// anomalous is the sequence of the document whose faults grow with the Size.
var anomalous = []int{0, 1, 2, 3, 0, 1, 4, 0, 1, 2, 3, 4}

// outcomes counts how often a function with a Policy does not fail.
type outcomes struct{ inclusion, anomaly, marking, part [8]int }

// checkRuns checks all functions that run a Cache of a Policy over a sequence.
func checkRuns(t *testing.T, n int, policy int, reqs []int, seen *outcomes) {
	t.Helper()
	runs, counts, anomaly := []plainRun{}, []int{}, -1
	for size := 1; size <= 6; size++ {
		run := runPlain(policy, size, reqs)
		runs = append(runs, run)
		counts = append(counts, len(run.faults))
		if anomaly < 0 && size > 1 && counts[size-2] < counts[size-1] {
			anomaly = size - 1
		}
	}
	if l, ok := impl.FaultsBySize(n, policy, reqs); !isList(l, ok, counts...) {
		t.Fatalf("FaultsBySize(%d, %d, %v) = %v, %v", n, policy, reqs, l, ok)
	}
	k, ok := impl.AnomalyOf(n, policy, reqs)
	if !isPlace(k, ok, anomaly) {
		t.Fatalf("AnomalyOf(%d, %d, %v) = %v, %v", n, policy, reqs, k, ok)
	}
	if ok {
		seen.anomaly[policy]++
	}
	for size := 1; size <= 6; size++ {
		checkRun(t, n, policy, size, reqs, runs[size-1], seen)
		broken := -1
		if size < 6 {
			broken = plainBreak(runs[size-1], runs[size])
		}
		place, ok := impl.InclusionBreak(n, policy, size, reqs)
		if !isPlace(place, ok, broken) {
			t.Fatalf("InclusionBreak(%d, %d, %d, %v) = %v, %v", n, policy, size, reqs, place, ok)
		}
		if ok {
			seen.inclusion[policy]++
		}
	}
}

// checkRun checks the functions that run a Cache of one Size.
func checkRun(t *testing.T, n int, policy int, size int, reqs []int, run plainRun, seen *outcomes) {
	t.Helper()
	if l, ok := impl.FaultPlaces(n, policy, size, reqs); !isList(l, ok, run.faults...) {
		t.Fatalf("FaultPlaces(%d, %d, %d, %v) = %v, %v", n, policy, size, reqs, l, ok)
	}
	if l, ok := impl.ContentsOf(n, policy, size, reqs); !ok || !slices.EqualFunc(l, run.contents, slices.Equal) {
		t.Fatalf("ContentsOf(%d, %d, %d, %v) = %v, %v", n, policy, size, reqs, l, ok)
	}
	wantShare, some := impl.Frac{}, len(reqs) > 0
	if some {
		wantShare, _ = fracOf(big.NewRat(int64(len(reqs)-len(run.faults)), int64(len(reqs))))
	}
	if share, ok := impl.HitShare(n, policy, size, reqs); ok != some || share != wantShare {
		t.Fatalf("HitShare(%d, %d, %d, %v) = %v, %v", n, policy, size, reqs, share, ok)
	}
	place, ok := impl.MarkingBreak(n, policy, size, reqs)
	if !isPlace(place, ok, plainMarkingBreak(run, size, reqs)) {
		t.Fatalf("MarkingBreak(%d, %d, %d, %v) = %v, %v", n, policy, size, reqs, place, ok)
	}
	if ok {
		seen.marking[policy]++
	}
	part, ok := impl.FaultyPart(n, policy, size, reqs)
	want := plainFaultyPart(run, size, reqs)
	if ok && part != want || !ok && (want[0] >= 0 || part != [2]int{}) {
		t.Fatalf("FaultyPart(%d, %d, %d, %v) = %v, %v", n, policy, size, reqs, part, ok)
	}
	if ok {
		seen.part[policy]++
	}
	for _, begin := range plainPhases(size, reqs) {
		inPhase := 0
		for other, b := range plainPhases(size, reqs) {
			if b == begin && slices.Contains(run.faults, other) {
				inPhase++
			}
		}
		if inPhase > size && (policy == impl.CacheLRU || policy == impl.CacheFIFO || policy == impl.CacheFlush) {
			t.Fatalf("%d faults in the phase at %d of %v with the Policy %d and the Size %d", inPhase, begin, reqs, policy, size)
		}
	}
}

func TestRunsOfCaches(t *testing.T) {
	seen := &outcomes{}
	for policy := 1; policy <= 7; policy++ {
		for n := 1; n <= 3; n++ {
			for _, reqs := range sequencesOver(n, 6) {
				if n == 1 || slices.Contains(reqs, n-1) || len(reqs) < 4 {
					checkRuns(t, n, policy, reqs, seen)
				}
			}
		}
		for n := 4; n <= 8; n++ {
			for seed := range 12 {
				checkRuns(t, n, policy, seededSequence(n, 5*(seed+1), 1000*n+seed), seen)
			}
		}
		for _, reqs := range append(fullSequences, anomalous) {
			checkRuns(t, 8, policy, reqs, seen)
		}
	}
	for policy := 1; policy <= 7; policy++ {
		for _, c := range []struct {
			name  string
			count int
			never []int
			some  []int
		}{
			{"InclusionBreak", seen.inclusion[policy], []int{1, 7}, []int{2, 4, 5, 6}},
			{"AnomalyOf", seen.anomaly[policy], []int{1, 7}, []int{2, 4}},
			{"MarkingBreak", seen.marking[policy], []int{1, 4}, []int{2, 3, 5, 6, 7}},
			{"FaultyPart", seen.part[policy], []int{1, 2}, []int{3, 4, 5, 7}},
		} {
			if slices.Contains(c.never, policy) && c.count > 0 || slices.Contains(c.some, policy) && c.count == 0 {
				t.Errorf("%s does not fail %d times with the Policy %d", c.name, c.count, policy)
			}
		}
	}
}

func TestNamedRuns(t *testing.T) {
	if l, ok := impl.FaultsBySize(5, impl.CacheFIFO, anomalous); !isList(l, ok, 12, 12, 9, 10, 5, 5) {
		t.Error("FaultsBySize", l, ok)
	}
	if k, ok := impl.AnomalyOf(5, impl.CacheFIFO, anomalous); !ok || k != 3 {
		t.Error("AnomalyOf", k, ok)
	}
	if place, ok := impl.InclusionBreak(5, impl.CacheFIFO, 3, anomalous); !ok || place != 6 {
		t.Error("InclusionBreak", place, ok)
	}
	if part, ok := impl.FaultyPart(3, impl.CacheFlush, 2, []int{0, 1, 2, 1}); !ok || part != [2]int{1, 3} {
		t.Error("FaultyPart", part, ok)
	}
	if place, ok := impl.MarkingBreak(5, impl.CacheFIFO, 3, []int{0, 1, 2, 3, 1, 4}); !ok || place != 5 {
		t.Error("MarkingBreak", place, ok)
	}
	if place, ok := impl.MarkingBreak(2, impl.CacheMRU, 1, []int{0, 1, 0, 1}); ok || place != 0 {
		t.Error("with one page, each phase has one item", place, ok)
	}
	if share, ok := impl.HitShare(3, impl.CacheLRU, 2, []int{0, 0, 1, 0, 2, 2}); !ok || share != over(1, 2) {
		t.Error("HitShare", share, ok)
	}
	if share, ok := impl.HitShare(2, impl.CacheLRU, 1, []int{0, 1, 0}); !ok || share != over(0, 1) {
		t.Error("HitShare without hits", share, ok)
	}
}

func TestStackDistancesTellTheFaultsOfLRU(t *testing.T) {
	check := func(n int, reqs []int) {
		distances, ok := impl.StackDistances(n, reqs)
		if !ok || len(distances) != len(reqs) {
			t.Fatalf("StackDistances(%d, %v) = %v, %v", n, reqs, distances, ok)
		}
		faults := [6]int{}
		for place, item := range reqs {
			items := map[int]bool{}
			first := place - 1
			for first >= 0 && reqs[first] != item {
				items[reqs[first]] = true
				first--
			}
			want := len(items) + 1
			if first < 0 {
				want = 0
			}
			if distances[place] != want {
				t.Fatalf("StackDistances(%d, %v) = %v", n, reqs, distances)
			}
			for k := range faults {
				if want == 0 || want > k+1 {
					faults[k]++
				}
			}
		}
		counts := make([]int, n+1)
		for _, distance := range distances {
			counts[distance]++
		}
		if l, ok := impl.DistanceCounts(n, reqs); !isList(l, ok, counts...) {
			t.Fatalf("DistanceCounts(%d, %v) = %v, %v", n, reqs, l, ok)
		}
		curve, ok := impl.CurveOf(n, reqs)
		if !isList(curve, ok, faults[:]...) {
			t.Fatalf("CurveOf(%d, %v) = %v, %v", n, reqs, curve, ok)
		}
		if l, ok := impl.FaultsBySize(n, impl.CacheLRU, reqs); !isList(l, ok, curve...) {
			t.Fatalf("FaultsBySize(%d, CacheLRU, %v) = %v, %v", n, reqs, l, ok)
		}
		for size := 1; size <= 6; size++ {
			places := []int{}
			for place, distance := range distances {
				if distance == 0 || distance > size {
					places = append(places, place)
				}
			}
			if l, ok := impl.FaultPlaces(n, impl.CacheLRU, size, reqs); !isList(l, ok, places...) {
				t.Fatalf("FaultPlaces(%d, CacheLRU, %d, %v) = %v, %v", n, size, reqs, l, ok)
			}
		}
	}
	onManySequences(check)
	if l, ok := impl.StackDistances(3, []int{0, 1, 0, 0, 2, 1}); !isList(l, ok, 0, 0, 2, 1, 0, 3) {
		t.Error("the example", l, ok)
	}
	if l, ok := impl.DistanceCounts(8, nil); !isList(l, ok, 0, 0, 0, 0, 0, 0, 0, 0, 0) {
		t.Error("DistanceCounts without places", l, ok)
	}
	if l, ok := impl.CurveOf(1, nil); !isList(l, ok, 0, 0, 0, 0, 0, 0) {
		t.Error("CurveOf without places", l, ok)
	}
}

// With CacheLRU, the Pages are the first items of the LastOrder, so a Cache holds what a smaller one holds.
func TestLastOrderTellsThePagesOfLRU(t *testing.T) {
	check := func(n int, reqs []int) {
		lasts := map[int]int{}
		for place, item := range reqs {
			lasts[item] = place
		}
		want := []int{}
		for item := range lasts {
			want = append(want, item)
		}
		slices.SortFunc(want, func(a, b int) int { return cmp.Compare(lasts[b], lasts[a]) })
		if l, ok := impl.LastOrder(n, reqs); !isList(l, ok, want...) {
			t.Fatalf("LastOrder(%d, %v) = %v, %v", n, reqs, l, ok)
		}
		smaller := []int{}
		for size := 1; size <= 6; size++ {
			empty, _ := impl.NewCache(n, impl.CacheLRU, size)
			x, _, ok := impl.RunCache(n, empty, reqs)
			if !isList(x.Pages, ok, want[:min(size, len(want))]...) || !slices.Equal(x.Pages[:len(smaller)], smaller) {
				t.Fatalf("RunCache(%d, %v, %v) = %v, %v", n, empty, reqs, x, ok)
			}
			smaller = x.Pages
		}
	}
	onManySequences(check)
}

func TestPhases(t *testing.T) {
	check := func(n int, reqs []int) {
		for size := 1; size <= 6; size++ {
			want := slices.Compact(plainPhases(size, reqs))
			if l, ok := impl.PhasesOf(n, size, reqs); !isList(l, ok, want...) {
				t.Fatalf("PhasesOf(%d, %d, %v) = %v, %v", n, size, reqs, l, ok)
			}
		}
	}
	onManySequences(check)
	if l, ok := impl.PhasesOf(3, 2, []int{0, 1, 0, 2, 1}); !isList(l, ok, 0, 3) {
		t.Error("PhasesOf", l, ok)
	}
	if l, ok := impl.PhasesOf(2, 1, []int{1, 1, 0, 0, 1}); !isList(l, ok, 0, 2, 4) {
		t.Error("phases of one item", l, ok)
	}
}

// cacheCall is a function with some of n, a Policy, a Size and a sequence, and says whether its results are zero values.
type cacheCall struct {
	policy, size, reqs bool
	call               func(n int, policy int, size int, reqs []int) (zero bool, ok bool)
}

// emptyList says whether a list is empty, with the bool beside it.
func emptyList[E any](list []E, ok bool) (bool, bool) { return len(list) == 0, ok }

// zeroOf says whether a value is zero, with the bool beside it.
func zeroOf[V comparable](value V, ok bool) (bool, bool) { return value == *new(V), ok }

var cacheCalls = map[string]cacheCall{
	"NewCache": {true, true, false, func(n, policy, size int, reqs []int) (bool, bool) {
		x, ok := impl.NewCache(n, policy, size)
		return sameCache(x, impl.Cache{}), ok
	}},
	"RunCache": {true, true, true, func(n, policy, size int, reqs []int) (bool, bool) {
		x, faults, ok := impl.RunCache(n, impl.Cache{Policy: policy, Size: size}, reqs)
		return sameCache(x, impl.Cache{}) && faults == 0, ok
	}},
	"FaultPlaces": {true, true, true, func(n, policy, size int, reqs []int) (bool, bool) {
		return emptyList(impl.FaultPlaces(n, policy, size, reqs))
	}},
	"ContentsOf": {true, true, true, func(n, policy, size int, reqs []int) (bool, bool) {
		return emptyList(impl.ContentsOf(n, policy, size, reqs))
	}},
	"FaultsBySize": {true, false, true, func(n, policy, size int, reqs []int) (bool, bool) {
		return emptyList(impl.FaultsBySize(n, policy, reqs))
	}},
	"HitShare": {true, true, true, func(n, policy, size int, reqs []int) (bool, bool) {
		return zeroOf(impl.HitShare(n, policy, size, reqs))
	}},
	"LastOrder": {false, false, true, func(n, policy, size int, reqs []int) (bool, bool) {
		return emptyList(impl.LastOrder(n, reqs))
	}},
	"StackDistances": {false, false, true, func(n, policy, size int, reqs []int) (bool, bool) {
		return emptyList(impl.StackDistances(n, reqs))
	}},
	"DistanceCounts": {false, false, true, func(n, policy, size int, reqs []int) (bool, bool) {
		return emptyList(impl.DistanceCounts(n, reqs))
	}},
	"CurveOf": {false, false, true, func(n, policy, size int, reqs []int) (bool, bool) {
		return emptyList(impl.CurveOf(n, reqs))
	}},
	"InclusionBreak": {true, true, true, func(n, policy, size int, reqs []int) (bool, bool) {
		return zeroOf(impl.InclusionBreak(n, policy, size, reqs))
	}},
	"AnomalyOf": {true, false, true, func(n, policy, size int, reqs []int) (bool, bool) {
		return zeroOf(impl.AnomalyOf(n, policy, reqs))
	}},
	"PhasesOf": {false, true, true, func(n, policy, size int, reqs []int) (bool, bool) {
		return emptyList(impl.PhasesOf(n, size, reqs))
	}},
	"MarkingBreak": {true, true, true, func(n, policy, size int, reqs []int) (bool, bool) {
		return zeroOf(impl.MarkingBreak(n, policy, size, reqs))
	}},
	"FaultyPart": {true, true, true, func(n, policy, size int, reqs []int) (bool, bool) {
		return zeroOf(impl.FaultyPart(n, policy, size, reqs))
	}},
}

func TestChapter4RefusesInvalidNumbers(t *testing.T) {
	for name, c := range cacheCalls {
		refuses := func(n, policy, size int, reqs []int) {
			if zero, ok := c.call(n, policy, size, reqs); ok || !zero {
				t.Errorf("%s takes %d, %d, %d, %v", name, n, policy, size, reqs[:min(len(reqs), 4)])
			}
		}
		for _, reqs := range [][]int{nil, {0}, anomalous} {
			for _, n := range append(otherCounts, 4) {
				if n != 4 || c.reqs && len(reqs) > 1 {
					refuses(n, 2, 3, reqs)
				}
			}
			for _, far := range append([]int{0, -1, 8, 9}, farInts...) {
				if c.policy {
					refuses(5, far, 3, reqs)
				}
				if c.size {
					refuses(5, 2, far, reqs)
					refuses(5, 2, 7, reqs)
				}
				if c.policy && c.size {
					refuses(5, far, far, reqs)
				}
				refuses(far, far, far, append(slices.Clone(reqs), far))
			}
		}
		for _, reqs := range append(badItems(5), make([]int, 61), make([]int, 100000), append(make([]int, 59), 5), append(make([]int, 59), -1), append(make([]int, 60), math.MaxInt)) {
			if c.reqs {
				refuses(5, 2, 3, reqs)
				refuses(5, 4, 2, reqs)
			}
		}
	}
	if place, ok := impl.InclusionBreak(5, 2, 6, anomalous); ok || place != 0 {
		t.Error("InclusionBreak takes the Size MaxCache", place, ok)
	}
}

func TestChapter4TakesTheSequenceWithoutPlaces(t *testing.T) {
	for n := 1; n <= 8; n++ {
		for policy := 1; policy <= 7; policy++ {
			for size := 1; size <= 6; size++ {
				for name, c := range cacheCalls {
					want := !slices.Contains([]string{"HitShare", "InclusionBreak", "AnomalyOf", "MarkingBreak", "FaultyPart"}, name)
					if _, ok := c.call(n, policy, size, nil); ok != want {
						t.Errorf("%s(%d, %d, %d) returns %v", name, n, policy, size, ok)
					}
				}
			}
		}
	}
}

func TestCacheTexts(t *testing.T) {
	check := func(n int, x impl.Cache) {
		want := plainCacheText(x)
		if s, ok := impl.CacheText(n, x); !ok || s != want {
			t.Fatalf("CacheText(%d, %v) = %q, %v", n, x, s, ok)
		}
		if y, ok := impl.ParseCache(n, want); !isCache(y, ok, x) {
			t.Fatalf("ParseCache(%d, %q) = %v, %v", n, want, y, ok)
		}
		if len(x.Pages) > 0 {
			least := slices.Max(x.Pages)
			if y, ok := impl.ParseCache(least, want); !noCache(y, ok) {
				t.Fatalf("ParseCache(%d, %q) = %v, %v", least, want, y, ok)
			}
		}
	}
	for n := 1; n <= 3; n++ {
		for _, x := range allCaches(n) {
			check(n, x)
		}
	}
	for _, x := range wideCaches {
		check(8, x)
	}
	for mark := 1; mark <= 60; mark++ {
		check(1, impl.Cache{Policy: 5, Size: 1, Pages: []int{0}, Marks: []int{mark}})
	}
}

var (
	plainForm = regexp.MustCompile(`^(lru|fifo|lifo|flush|mru)/([1-6])((?: [0-2])*)$`)
	lfuForm   = regexp.MustCompile(`^lfu/([1-6])((?: [0-2]:(?:[1-9]|[1-5][0-9]|60))*)$`)
	clockForm = regexp.MustCompile(`^clock/([1-6])@([0-5])((?: [0-2]:[01])*)$`)
)

// isCacheText says whether s is the CacheText of a Cache for 3 items.
func isCacheText(s string) bool {
	pages, size, hand := "", "", "0"
	if m := plainForm.FindStringSubmatch(s); m != nil {
		size, pages = m[2], m[3]
	} else if m := lfuForm.FindStringSubmatch(s); m != nil {
		size, pages = m[1], m[2]
	} else if m := clockForm.FindStringSubmatch(s); m != nil {
		size, hand, pages = m[1], m[2], m[3]
	} else {
		return false
	}
	words := strings.Fields(pages)
	items := map[byte]bool{}
	for _, word := range words {
		items[word[0]] = true
	}
	most := int(size[0] - '0')
	if len(items) < len(words) || len(words) > most {
		return false
	}
	return hand == "0" || len(words) == most && hand < size
}

func TestParseCacheTakesJustWhatCacheTextWrites(t *testing.T) {
	accepted := 0
	check := func(s string) {
		want := isCacheText(s)
		x, ok := impl.ParseCache(3, s)
		if ok != want || !ok && !noCache(x, ok) {
			t.Fatalf("ParseCache(3, %q) = %v, %v", s, x, ok)
		}
		if ok {
			accepted++
			if back, fine := impl.CacheText(3, x); !fine || back != s {
				t.Fatalf("ParseCache(3, %q) = %v", s, x)
			}
		}
	}
	for _, x := range allCaches(3) {
		if x.Size > 4 || x.Policy == 5 && slices.Contains(x.Marks, 2) {
			continue
		}
		s := plainCacheText(x)
		for i := range len(s) + 1 {
			for _, c := range " 0123456789:@/-+cfklu\t\x00\xff" {
				check(s[:i] + string(c) + s[i:])
				if i < len(s) {
					check(s[:i] + string(c) + s[i+1:])
				}
			}
			check(s[:i] + s[min(i+1, len(s)):])
			check(s[:i])
			check(s[i:])
		}
	}
	for _, tail := range stringsOver("012 :@", 6) {
		for _, head := range []string{"lru/2", "lfu/1", "lfu/2", "clock/2", "clock/2@", "clock/1@0", ""} {
			check(head + tail)
		}
	}
	if accepted == 0 {
		t.Error("no text is accepted")
	}
}

func TestParseCacheRefuses(t *testing.T) {
	for _, s := range []string{
		"", " ", "/", "@", ":", "lru", "lru/", "/2", "lru/0", "lru/7", "lru/-1", "lru/+2", "lru/02", "lru/2.0", "lru/2/2", "lru2", "lru 2", "lru//2", "LRU/2", "1/2", "x/2", "lru/2 ", " lru/2", "lru/2  0", "lru/2 0 ",
		"lru/2 0  1", "lru/2 00", "lru/2 +0", "lru/2 -0", "lru/2 -1", "lru/2 01", "lru/2 8", "lru/2 10", "lru/2 x", "lru/2 0 0", "lru/2 1 0 1", "lru/1 0 1", "lru/2 0 1 2", "lru/2 0,1", "lru/2\t0", "lru/2 0\n", "lru/2 none",
		"lru/2 18446744073709551616", "lru/18446744073709551618", "lru/4294967298", "lru/2@0", "lru/2@0 0 1", "lru/2 0:1", "lru/2 0:1 1:1", "mru/2 0:0", "fifo/2@1 0 1", "flush/3@0", "lifo/2 0 1:1",
		"lfu/2 0", "lfu/2 0:1 1", "lfu/2 0 1:1", "lfu/2@0 0:1", "lfu/2 0:0", "lfu/2 0:61", "lfu/2 0:-1", "lfu/2 0:+1", "lfu/2 0:01", "lfu/2 0:", "lfu/2 :1", "lfu/2 0:1:1", "lfu/2 0::1", "lfu/2 0: 1", "lfu/2 0:1 ", "lfu/2 0:1  1:1",
		"lfu/2 0:9223372036854775808", "lfu/2 0:18446744073709551617", "clock/2", "clock/2 0:1", "clock/2@", "clock/2@ 0:1", "clock/2@1", "clock/2@1 0:1", "clock/2@2 0:1 1:1", "clock/2@-1 0:1 1:1", "clock/2@-0 0:1 1:1", "clock/2@+0", "clock/2@00",
		"clock/2@01 0:1 1:1", "clock/2@0@0", "clock/2@0 0", "clock/2@0 0:2", "clock/2@0 0:1 1", "clock/2@0 0:1 0:1", "clock/2@0 0:00", "clock/2@0 0:1 1:1 2:1", "clock@0/2", "clock/@0", "clock/2@18446744073709551616", "clock/2@1 0:1 1:-1",
		"lru/6 0 1 2 3 4 5 6", "lru/6 0 1 2 3 4 5 ", "lru/6 0 1 2 3 4 5 0", "lru/6  0 1 2 3 4 5", "lru/6 0 1 2 3 4 5 6 7", "lru/6 0 1 2 3 4 5  ",
		"\xff", "lru/2 \xff", "lru/\u0662", "lru/2\u00a00", "lru/2\x00", strings.Repeat("lru/2 ", 200000), "lru/" + strings.Repeat("0", 1000000) + "2", "lru/2" + strings.Repeat(" 0", 500000), strings.Repeat("/", 1000000), "lfu/2 0" + strings.Repeat(":1", 500000),
	} {
		if x, ok := impl.ParseCache(8, s); !noCache(x, ok) {
			t.Errorf("ParseCache(8, %.30q) = %v, %v", s, x, ok)
		}
	}
	for _, n := range otherCounts {
		for _, s := range []string{"lru/2", "lru/2 0", "clock/1@0 0:1", ""} {
			if x, ok := impl.ParseCache(n, s); !noCache(x, ok) {
				t.Errorf("ParseCache(%d, %q) = %v, %v", n, s, x, ok)
			}
		}
	}
}

// scribble overwrites a list with the room behind it.
func scribble(list []int) {
	for i := range list[:cap(list)] {
		list[:cap(list)][i] = 77
	}
}

// Promise 13: neither the Pages nor the Marks of a Cache that is passed in are changed, nor the room behind them, and results have memory of their own.
func TestChapter4ModifiesNoCache(t *testing.T) {
	for _, x := range append(allCaches(3), wideCaches...) {
		kept := append(append([]int{55, 55}, x.Pages...), 44, 44, 44)
		keptMarks := append(append([]int{33, 33}, x.Marks...), 22, 22, 22)
		pages, marks := slices.Clone(kept), slices.Clone(keptMarks)
		x.Pages, x.Marks = pages[2:2+len(x.Pages)], marks[2:2+len(x.Marks)]
		same := func(name string) {
			if !slices.Equal(pages, kept) || !slices.Equal(marks, keptMarks) {
				t.Fatalf("%s leaves %v and %v of %v and %v", name, pages, marks, kept, keptMarks)
			}
		}
		impl.IsCache(8, x)
		impl.CacheText(8, x)
		same("a question")
		for item := range 4 {
			impl.IsHit(8, x, item)
			victims, _ := impl.VictimsOf(8, x, item)
			y, _ := impl.StepCache(8, x, item)
			z, _, _ := impl.RunCache(8, x, []int{item, 3, 5, 6, 7, 0, 1, 2, 4}[:item*3])
			same("a step")
			scribble(victims)
			for _, c := range []impl.Cache{y, z} {
				mine := slices.Clone(c.Marks)
				scribble(c.Pages)
				if !slices.Equal(c.Marks, mine) {
					t.Fatal("the Pages and the Marks of a result share memory")
				}
				scribble(c.Marks)
			}
			same("the result of a step")
		}
	}
}

func TestChapter4ModifiesNoSequence(t *testing.T) {
	kept := []int{6, 0, 2, 2, 1, 0, 3, 1, 6, 6, 6}
	for name, c := range cacheCalls {
		for policy := 1; policy <= 7; policy++ {
			whole := slices.Clone(kept)
			c.call(4, policy, 2, whole[1:8])
			if !slices.Equal(whole, kept) {
				t.Errorf("%s leaves %v", name, whole)
			}
		}
	}
	whole := slices.Clone(kept)
	for _, f := range []func() ([]int, bool){
		func() ([]int, bool) { return impl.FaultPlaces(4, 1, 2, whole[1:8]) },
		func() ([]int, bool) { return impl.FaultsBySize(4, 1, whole[1:8]) },
		func() ([]int, bool) { return impl.LastOrder(4, whole[1:8]) },
		func() ([]int, bool) { return impl.StackDistances(4, whole[1:8]) },
		func() ([]int, bool) { return impl.DistanceCounts(4, whole[1:8]) },
		func() ([]int, bool) { return impl.CurveOf(4, whole[1:8]) },
		func() ([]int, bool) { return impl.PhasesOf(4, 2, whole[1:8]) },
	} {
		l, ok := f()
		first := slices.Clone(l)
		scribble(l)
		if again, fine := f(); !ok || !isList(again, fine, first...) || !slices.Equal(whole, kept) {
			t.Error("a result shares memory", first, again, whole)
		}
	}
	empty, _ := impl.NewCache(4, impl.CacheLRU, 2)
	x, _, _ := impl.RunCache(4, empty, whole[1:8])
	scribble(x.Pages)
	if !slices.Equal(whole, kept) {
		t.Error("the Pages share memory with the sequence")
	}
}

func TestContentsShareNoMemory(t *testing.T) {
	for policy := 1; policy <= 7; policy++ {
		reqs := []int{0, 1, 1, 2, 2, 3, 0, 0, 4}
		l, _ := impl.ContentsOf(5, policy, 3, reqs)
		for i := range l {
			wants := [][]int{}
			for _, row := range l {
				wants = append(wants, slices.Clone(row))
			}
			scribble(l[i])
			for j, row := range l {
				if j != i && !slices.Equal(row, wants[j]) {
					t.Fatalf("the places %d and %d share memory with the Policy %d", i, j, policy)
				}
			}
		}
	}
	text := "clock/2@1 0:1 1:0"
	x := cacheOf(t, text)
	scribble(x.Pages)
	if !slices.Equal(x.Marks, []int{1, 0}) || !isCache(cacheOf(t, text), true, impl.Cache{Policy: 6, Size: 2, Pages: []int{0, 1}, Marks: []int{1, 0}, Hand: 1}) {
		t.Error("a Cache that is read shares memory", x)
	}
}
