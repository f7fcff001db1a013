package tests

import (
	"math"
	"math/rand"
	"slices"
	"testing"

	"loop.example/g00537/impl"
)

const (
	mostRow    = 20
	mostRows   = 4
	mostBest   = 10
	mostHeap   = 60
	mostHeapBy = 10000
)

func TestTopConstants(t *testing.T) {
	if impl.MaxRow != mostRow || impl.MaxRows != mostRows {
		t.Fatal(impl.MaxRow, impl.MaxRows)
	}
}

// slowBetter puts both halves of a score into one number.
func slowBetter(a impl.Score, b impl.Score) bool {
	return a.By*1000-a.Doc > b.By*1000-b.Doc
}

func bestFirst(l []impl.Score) []impl.Score {
	c := slices.Clone(l)
	slices.SortFunc(c, func(a impl.Score, b impl.Score) int { return b.By*1000 - b.Doc - a.By*1000 + a.Doc })
	return c
}

func slowGoodRow(l []impl.Score) bool {
	for i, x := range l {
		if x.Doc < 0 || x.Doc >= 100 || x.By <= 0 || x.By > 1000 {
			return false
		}
		for _, ahead := range l[:i] {
			if ahead.Doc == x.Doc || ahead.By < x.By || ahead.By == x.By && ahead.Doc > x.Doc {
				return false
			}
		}
	}
	return len(l) <= 20
}

func slowGoodRows(rows [][]impl.Score) bool {
	return len(rows) >= 1 && len(rows) <= 4 && !slices.ContainsFunc(rows, func(l []impl.Score) bool { return !slowGoodRow(l) })
}

// slowTotals has the sum of each doc, nought for those that no row has.
func slowTotals(rows [][]impl.Score) [100]int {
	var sums [100]int
	for _, x := range slices.Concat(rows...) {
		sums[x.Doc] += x.By
	}
	return sums
}

// slowBest sorts all docs that rows have.
func slowBest(rows [][]impl.Score, many int) []impl.Score {
	var l []impl.Score
	for doc, sum := range slowTotals(rows) {
		if sum > 0 {
			l = append(l, impl.Score{Doc: doc, By: sum})
		}
	}
	l = bestFirst(l)
	return l[:min(many, len(l))]
}

// placeOf is the score that a row has at a depth, the zero one beyond its end.
func placeOf(l []impl.Score, depth int) impl.Score {
	return append(slices.Clone(l), make([]impl.Score, 21)...)[depth]
}

func slowBound(rows [][]impl.Score, depth int) int {
	sum := 0
	for _, l := range rows {
		sum += placeOf(l, depth).By
	}
	return sum
}

// standing counts the docs ahead of a depth that have at least this total.
func standing(rows [][]impl.Score, depth int, least int) int {
	var docs []int
	sums := slowTotals(rows)
	for _, l := range rows {
		for _, x := range l[:min(depth, len(l))] {
			if sums[x.Doc] >= least {
				docs = append(docs, x.Doc)
			}
		}
	}
	slices.Sort(docs)
	return len(slices.Compact(docs))
}

// slowStops tells whether the search may end: nothing comes any more, or many of the docs ahead have more than the bound.
func slowStops(rows [][]impl.Score, many int, depth int) bool {
	next := slowBound(rows, depth)
	return next == 0 || standing(rows, depth, next+1) >= many
}

func slowIsHeap(h []impl.Score) bool {
	for k := range h {
		for _, below := range []int{2*k + 1, 2*k + 2} {
			if below < len(h) && slowBetter(h[below], h[k]) {
				return false
			}
		}
	}
	return true
}

// slowPush has the scores from the front down to the new place in order: the new one comes in behind those that it is not better than.
func slowPush(h []impl.Score, x impl.Score) []impl.Score {
	c := append(slices.Clone(h), x)
	var way []int
	for k := len(h); k > 0; {
		k = (k - 1) / 2
		way = append([]int{k}, way...)
	}
	var l []impl.Score
	for _, k := range way {
		if !slowBetter(x, h[k]) {
			l = append(l, h[k])
		}
	}
	behind := len(l)
	l = append(l, x)
	for _, k := range way[behind:] {
		l = append(l, h[k])
	}
	for i, k := range append(way, len(h)) {
		c[k] = l[i]
	}
	return c
}

// slowFill puts x at a free place k, or what is better below, and x further down.
func slowFill(h []impl.Score, k int, x impl.Score) {
	best, at := x, k
	for _, below := range []int{2*k + 1, 2*k + 2} {
		if below < len(h) && slowBetter(h[below], best) {
			best, at = h[below], below
		}
	}
	h[k] = best
	if at != k {
		slowFill(h, at, x)
	}
}

func slowPop(h []impl.Score) ([]impl.Score, impl.Score) {
	rest := slices.Clone(h[:len(h)-1])
	if len(rest) > 0 {
		slowFill(rest, 0, h[len(h)-1])
	}
	return rest, h[0]
}

func copyRows(rows [][]impl.Score) [][]impl.Score {
	c := slices.Clone(rows)
	for i := range c {
		c[i] = slices.Clone(c[i])
	}
	return c
}

func sameRows(a [][]impl.Score, b [][]impl.Score) bool {
	return slices.EqualFunc(a, b, slices.Equal)
}

// drawnRow has many scores of docs below docs, with By up to most.
func drawnRow(source *rand.Rand, many int, docs int, most int) []impl.Score {
	var l []impl.Score
	for _, doc := range source.Perm(docs)[:many] {
		l = append(l, impl.Score{Doc: doc, By: 1 + source.Intn(most)})
	}
	return bestFirst(l)
}

// steppedRow has many scores, of docs from first on, each with by less than the one ahead.
func steppedRow(first int, many int, most int, by int) []impl.Score {
	var l []impl.Score
	for i := range many {
		l = append(l, impl.Score{Doc: first + i, By: most - i*by})
	}
	return l
}

// edgeRows meet the limits.
func edgeRows() [][][]impl.Score {
	alike := [][]impl.Score{steppedRow(0, 20, 1000, 0), steppedRow(20, 20, 1000, 0), steppedRow(40, 20, 1000, 0), steppedRow(80, 20, 1000, 0)}
	steep := [][]impl.Score{steppedRow(0, 20, 1000, 50), steppedRow(20, 20, 1000, 52), steppedRow(40, 20, 999, 50), steppedRow(80, 20, 20, 1)}
	same := slices.Repeat([][]impl.Score{steppedRow(80, 20, 1000, 1)}, 4)
	// The best one stands at the last place alone.
	lastBest := [][]impl.Score{append(steppedRow(0, 19, 500, 0), impl.Score{Doc: 99, By: 500}), append(steppedRow(20, 19, 500, 0), impl.Score{Doc: 99, By: 500})}
	back := steppedRow(0, 20, 500, 10)
	for i := range back {
		back[i].Doc = 19 - i
	}
	return [][][]impl.Score{
		{nil}, {nil, nil}, {nil, nil, nil}, {nil, nil, nil, nil}, {{}},
		{{{Doc: 0, By: 1}}}, {{{Doc: 99, By: 1000}}}, {{{Doc: 0, By: 1000}, {Doc: 99, By: 1}}},
		{nil, nil, nil, {{Doc: 99, By: 1}}}, {{{Doc: 0, By: 1}}, nil, nil, {{Doc: 0, By: 1000}}},
		slices.Repeat([][]impl.Score{{{Doc: 99, By: 1000}}}, 4), slices.Repeat([][]impl.Score{{{Doc: 0, By: 1}}}, 4),
		{{{Doc: 3, By: 1}}, {{Doc: 2, By: 1}}, {{Doc: 1, By: 1}}, {{Doc: 0, By: 1}}},
		lastBest, alike, alike[:1], {alike[0], nil, alike[3]}, steep, steep[:1], steep[1:3], same, same[:2],
		{steppedRow(0, 20, 500, 10), back}, {back, steppedRow(0, 20, 500, 10), back, nil}, {alike[0], back},
		{steppedRow(0, 20, 1000, 1), steppedRow(80, 1, 1, 0)}, {append(steppedRow(0, 19, 500, 0), impl.Score{Doc: 50, By: 499})}, {steppedRow(0, 10, 10, 1), steppedRow(0, 20, 20, 1), steppedRow(5, 5, 5, 1)},
	}
}

// rowLists are edges, and drawn rows of all sizes, of many docs and of few, with few alike and with many.
func rowLists() [][][]impl.Score {
	source := rand.New(rand.NewSource(10))
	l := edgeRows()
	for _, kind := range [][2]int{{100, 1000}, {100, 3}, {100, 40}, {20, 1000}, {20, 2}, {20, 20}, {30, 60}, {6, 4}, {3, 2}} {
		for size := 1; size <= mostRows; size++ {
			for range 40 {
				var rows [][]impl.Score
				for range size {
					rows = append(rows, drawnRow(source, source.Intn(min(kind[0], mostRow)+1), kind[0], kind[1]))
				}
				l = append(l, rows)
			}
		}
	}
	return l
}

func checkRow(t *testing.T, l []impl.Score) {
	t.Helper()
	if good := impl.GoodRow(l); good != slowGoodRow(l) {
		t.Fatalf("GoodRow(%v) = %v", l, good)
	}
}

func checkTotals(t *testing.T, rows [][]impl.Score) {
	t.Helper()
	for doc, want := range slowTotals(rows) {
		if n, ok := impl.TotalOf(rows, doc); n != want || !ok {
			t.Fatalf("TotalOf(%v, %d) = %d, %v; want %d", rows, doc, n, ok, want)
		}
	}
}

func checkBest(t *testing.T, rows [][]impl.Score, many int) {
	t.Helper()
	want := slowBest(rows, many)
	if l, ok := impl.BestFew(rows, many); !slices.Equal(l, want) || !ok {
		t.Fatalf("BestFew(%v, %d) = %v, %v; want %v", rows, many, l, ok, want)
	}
}

func checkBounds(t *testing.T, rows [][]impl.Score) {
	t.Helper()
	for depth := 0; depth <= mostRow; depth++ {
		want := slowBound(rows, depth)
		if n, ok := impl.BoundAt(rows, depth); n != want || !ok {
			t.Fatalf("BoundAt(%v, %d) = %d, %v; want %d", rows, depth, n, ok, want)
		}
	}
}

// checkThreshold tells how deep the search goes.
func checkThreshold(t *testing.T, rows [][]impl.Score, many int) int {
	t.Helper()
	want := slowBest(rows, many)
	l, depth, ok := impl.Threshold(rows, many)
	if !slices.Equal(l, want) || !ok || depth < 0 || depth > mostRow {
		t.Fatalf("Threshold(%v, %d) = %v, %d, %v; want %v", rows, many, l, depth, ok, want)
	}
	for ahead := range depth {
		if slowStops(rows, many, ahead) {
			t.Fatalf("Threshold(%v, %d) goes to %d depths, but could stop after %d", rows, many, depth, ahead)
		}
	}
	if !slowStops(rows, many, depth) {
		t.Fatalf("Threshold(%v, %d) stops after %d depths: the bound does not bid so", rows, many, depth)
	}
	return depth
}

func checkIsHeap(t *testing.T, h []impl.Score) bool {
	t.Helper()
	want := slowIsHeap(h)
	if is, ok := impl.IsHeap(h); is != want || !ok {
		t.Fatalf("IsHeap(%v) = %v, %v; want %v", h, is, ok, want)
	}
	return want
}

func checkPush(t *testing.T, h []impl.Score, x impl.Score) []impl.Score {
	t.Helper()
	want := slowPush(h, x)
	got, ok := impl.HeapPush(h, x)
	if !slices.Equal(got, want) || !ok {
		t.Fatalf("HeapPush(%v, %v) = %v, %v; want %v", h, x, got, ok, want)
	}
	if !checkIsHeap(t, got) || got[0] != bestFirst(append(slices.Clone(h), x))[0] {
		t.Fatalf("HeapPush(%v, %v) = %v: the best is not in front", h, x, got)
	}
	return got
}

func checkPop(t *testing.T, h []impl.Score) ([]impl.Score, impl.Score) {
	t.Helper()
	want, first := slowPop(h)
	got, x, ok := impl.HeapPop(h)
	if !slices.Equal(got, want) || x != first || !ok {
		t.Fatalf("HeapPop(%v) = %v, %v, %v; want %v, %v", h, got, x, ok, want, first)
	}
	if !checkIsHeap(t, got) || x != bestFirst(h)[0] || !slices.Equal(bestFirst(got), bestFirst(h)[1:]) {
		t.Fatalf("HeapPop(%v) = %v, %v: not the best, or not all others", h, got, x)
	}
	return got, x
}

// checkPopAll pops till nothing is left: all scores, from the best down.
func checkPopAll(t *testing.T, h []impl.Score) {
	t.Helper()
	var l []impl.Score
	rest := h
	for len(rest) > 0 {
		var x impl.Score
		rest, x = checkPop(t, rest)
		l = append(l, x)
	}
	if !slices.Equal(l, bestFirst(h)) {
		t.Fatalf("popped of %v, in order: %v", h, l)
	}
	noPop(t, "nothing is left", rest)
}

func noPop(t *testing.T, why string, h []impl.Score) {
	t.Helper()
	if rest, x, ok := impl.HeapPop(h); len(rest) != 0 || x != (impl.Score{}) || ok {
		t.Fatalf("%s: HeapPop(%v) = %v, %v, %v", why, h, rest, x, ok)
	}
}

func noPush(t *testing.T, why string, h []impl.Score, x impl.Score) {
	t.Helper()
	if got, ok := impl.HeapPush(h, x); len(got) != 0 || ok {
		t.Fatalf("%s: HeapPush(%v, %v) = %v, %v", why, h, x, got, ok)
	}
}

// Promise 10, from here on.
func TestGoodRows(t *testing.T) {
	source := rand.New(rand.NewSource(1))
	for many := 0; many <= mostRow; many++ {
		for _, most := range []int{1, 2, 5, 1000} {
			l := drawnRow(source, many, 100, most)
			if !impl.GoodRow(l) || !slowGoodRow(l) {
				t.Fatalf("%v is no good row", l)
			}
		}
		for _, l := range [][]impl.Score{steppedRow(0, many, 1000, 0), steppedRow(100-many, many, 1, 0), steppedRow(3, many, 20, 1), steppedRow(80, many, 1000, 52)} {
			if !impl.GoodRow(l) {
				t.Fatalf("%v is no good row", l)
			}
		}
	}
	if !impl.GoodRow(nil) || !impl.GoodRow([]impl.Score{}) {
		t.Error("the empty row is not good")
	}
	for _, l := range slices.Concat(rowLists()...) {
		if !impl.GoodRow(l) {
			t.Fatalf("%v is no good row", l)
		}
	}
}

// spoilRow changes one thing of a good row, so that it is none any more.
func spoilRow(l []impl.Score, do func(why string, spoilt []impl.Score)) {
	long := slices.Clone(l)
	for doc := 99; len(long) <= mostRow; doc-- {
		if !slices.ContainsFunc(long, func(x impl.Score) bool { return x.Doc == doc }) {
			long = bestFirst(append(long, impl.Score{Doc: doc, By: 1}))
		}
	}
	do("one score more than MaxRow", long)
	at := func(why string, i int, x impl.Score) {
		c := slices.Clone(l)
		c[i] = x
		do(why, c)
	}
	for i, x := range l {
		for _, doc := range []int{-1, 100, 101, -100, math.MinInt, math.MaxInt} {
			at("a Doc beyond", i, impl.Score{Doc: doc, By: x.By})
		}
		for _, by := range []int{0, 1001, -1, -x.By, 10000, math.MinInt, math.MaxInt} {
			at("a By beyond", i, impl.Score{Doc: x.Doc, By: by})
		}
		for k := range i {
			at("a Doc twice", i, impl.Score{Doc: l[k].Doc, By: x.By})
			at("a score twice", i, l[k])
			c := slices.Clone(l)
			c[i], c[k] = c[k], c[i]
			do("two scores in each other's place", c)
		}
		if i > 0 && l[i-1].By < 1000 {
			at("By rises", i, impl.Score{Doc: x.Doc, By: l[i-1].By + 1})
		}
		if i > 0 && l[i-1].Doc > x.Doc {
			at("alike By's, Doc falls", i, impl.Score{Doc: x.Doc, By: l[i-1].By})
		}
	}
}

func TestRowsWithOneThingChanged(t *testing.T) {
	source := rand.New(rand.NewSource(2))
	times := map[string]int{}
	for many := 0; many <= mostRow; many++ {
		for _, most := range []int{1, 3, 30, 1000} {
			l := drawnRow(source, many, 100, most)
			if !impl.GoodRow(l) {
				t.Fatalf("%v is no good row", l)
			}
			spoilRow(l, func(why string, spoilt []impl.Score) {
				times[why]++
				if impl.GoodRow(spoilt) || slowGoodRow(spoilt) {
					t.Fatalf("%s: %v is a good row", why, spoilt)
				}
			})
		}
	}
	for why, n := range times {
		if n < 80 {
			t.Errorf("%s: %d times alone", why, n)
		}
	}
	if len(times) != 8 {
		t.Error(times)
	}
}

// smallScoreLists has all lists of up to size scores of these.
func smallScoreLists(of []impl.Score, size int) [][]impl.Score {
	lists := [][]impl.Score{nil}
	for from := 0; size > 0; size-- {
		to := len(lists)
		for _, l := range lists[from:to] {
			for _, x := range of {
				lists = append(lists, append(slices.Clone(l), x))
			}
		}
		from = to
	}
	return lists
}

func scoresOf(docs []int, bys []int) []impl.Score {
	var l []impl.Score
	for _, doc := range docs {
		for _, by := range bys {
			l = append(l, impl.Score{Doc: doc, By: by})
		}
	}
	return l
}

func TestAllSmallRows(t *testing.T) {
	good := 0
	for _, l := range smallScoreLists(scoresOf([]int{0, 1, 99}, []int{1, 2, 1000}), 4) {
		checkRow(t, l)
		if impl.GoodRow(l) {
			good++
		}
	}
	// Each set of the three docs, with any By's, stands in one order.
	if good != 1+9+27+27 {
		t.Errorf("%d small rows are good", good)
	}
	for _, l := range smallScoreLists(scoresOf([]int{-1, 0, 100}, []int{0, 1, 1001}), 3) {
		checkRow(t, l)
	}
}

func TestTotalsAndBounds(t *testing.T) {
	for _, rows := range rowLists() {
		checkTotals(t, rows)
		checkBounds(t, rows)
	}
	rows := [][]impl.Score{{{Doc: 7, By: 1000}, {Doc: 0, By: 4}}, {{Doc: 99, By: 1000}, {Doc: 7, By: 30}, {Doc: 1, By: 1}}, nil, {{Doc: 7, By: 2}}}
	for doc, want := range map[int]int{7: 1032, 0: 4, 99: 1000, 1: 1, 2: 0, 98: 0} {
		if n, ok := impl.TotalOf(rows, doc); n != want || !ok {
			t.Errorf("doc %d has %d, %v; want %d", doc, n, ok, want)
		}
	}
	for depth, want := range map[int]int{0: 2002, 1: 34, 2: 1, 3: 0, 20: 0} {
		if n, ok := impl.BoundAt(rows, depth); n != want || !ok {
			t.Errorf("at depth %d: %d, %v; want %d", depth, n, ok, want)
		}
	}
}

func TestBestFew(t *testing.T) {
	all, fewer := 0, 0
	for _, rows := range rowLists() {
		for many := 1; many <= mostBest; many++ {
			checkBest(t, rows, many)
			if len(slowBest(rows, mostRow*mostRows)) < many {
				fewer++
			} else {
				all++
			}
		}
	}
	if all < 1000 || fewer < 1000 {
		t.Error(all, fewer)
	}
	rows := [][]impl.Score{{{Doc: 4, By: 9}, {Doc: 1, By: 5}, {Doc: 2, By: 5}, {Doc: 0, By: 1}}, {{Doc: 2, By: 6}}, {{Doc: 1, By: 6}}}
	want := []impl.Score{{Doc: 1, By: 11}, {Doc: 2, By: 11}, {Doc: 4, By: 9}, {Doc: 0, By: 1}}
	for many := 1; many <= mostBest; many++ {
		if l, ok := impl.BestFew(rows, many); !slices.Equal(l, want[:min(many, 4)]) || !ok {
			t.Errorf("the best %d are %v, %v", many, l, ok)
		}
	}
	for _, rows := range edgeRows()[:5] {
		if l, ok := impl.BestFew(rows, 1); len(l) != 0 || !ok {
			t.Errorf("the best of empty rows: %v, %v", l, ok)
		}
	}
}

func TestThreshold(t *testing.T) {
	early, wholly, justBound := 0, 0, 0
	var depths [mostRow + 1]int
	for _, rows := range rowLists() {
		for many := 1; many <= mostBest; many++ {
			depth := checkThreshold(t, rows, many)
			depths[depth]++
			if slowBound(rows, depth) > 0 {
				early++
			} else {
				wholly++
			}
			for ahead := range depth {
				if standing(rows, ahead, slowBound(rows, ahead)) >= many {
					justBound++
				}
			}
		}
	}
	if early < 2000 || wholly < 2000 || justBound < 500 {
		t.Errorf("%d stop early, %d do not, %d times the worst has just the bound", early, wholly, justBound)
	}
	for depth, n := range depths {
		if n == 0 {
			t.Errorf("none stops after %d depths", depth)
		}
	}
}

func depthIs(t *testing.T, rows [][]impl.Score, many int, want int) {
	t.Helper()
	if depth := checkThreshold(t, rows, many); depth != want {
		t.Errorf("Threshold(%v, %d) goes to %d depths; want %d", rows, many, depth, want)
	}
}

func TestThresholdByHand(t *testing.T) {
	for many := 1; many <= mostBest; many++ {
		for _, rows := range edgeRows()[:5] {
			depthIs(t, rows, many, 0)
		}
		depthIs(t, [][]impl.Score{{{Doc: 0, By: 1}}}, many, 1)
		depthIs(t, [][]impl.Score{nil, nil, nil, {{Doc: 99, By: 1}}}, many, 1)
		// Scores that are all alike never have more than the bound.
		depthIs(t, [][]impl.Score{steppedRow(0, mostRow, 1000, 0)}, many, mostRow)
		depthIs(t, [][]impl.Score{steppedRow(0, mostRow, 1, 0), steppedRow(20, 3, 1, 0)}, many, mostRow)
		// In one row many depths are enough for as many docs.
		depthIs(t, [][]impl.Score{steppedRow(0, mostRow, 1000, 1)}, many, many)
		// So they are in rows that are alike.
		depthIs(t, slices.Repeat([][]impl.Score{steppedRow(80, mostRow, 1000, 1)}, 4), many, many)
	}
	// Alike ones down to each depth, and less behind it.
	for depth := 1; depth < mostRow; depth++ {
		l := append(steppedRow(30, depth, 500, 0), steppedRow(0, mostRow-depth, 499, 0)...)
		for many := 1; many <= mostBest; many++ {
			if many <= depth {
				depthIs(t, [][]impl.Score{nil, l}, many, depth)
			} else {
				depthIs(t, [][]impl.Score{nil, l}, many, mostRow)
			}
		}
	}
	// Two docs a depth, none of which ever has more than both rows have next.
	a, b := steppedRow(0, mostRow, 100, 1), steppedRow(50, mostRow, 100, 1)
	depthIs(t, [][]impl.Score{a, b}, 1, mostRow)
	// Two docs, and then none, so that there are fewer than many to the end.
	depthIs(t, [][]impl.Score{{{Doc: 0, By: 1000}, {Doc: 1, By: 1}}, {{Doc: 1, By: 1}}}, 3, 2)
	depthIs(t, [][]impl.Score{{{Doc: 0, By: 1000}, {Doc: 1, By: 1}}}, 1, 1)
	depthIs(t, [][]impl.Score{{{Doc: 0, By: 1000}, {Doc: 1, By: 2}, {Doc: 2, By: 1}}}, 2, 2)
}

// A worst that has just the bound does not end it, one that has 1 more does.
func TestWorstAtTheBound(t *testing.T) {
	// The doc behind has just the bound, and is better by its number.
	rows := [][]impl.Score{{{Doc: 9, By: 6}, {Doc: 0, By: 3}}, {{Doc: 8, By: 6}, {Doc: 0, By: 3}}}
	depthIs(t, rows, 1, 2)
	if l, depth, ok := impl.Threshold(rows, 1); len(l) != 1 || l[0] != (impl.Score{Doc: 0, By: 6}) || depth != 2 || !ok {
		t.Error(l, depth, ok)
	}
	rows[0][0].By = 7
	depthIs(t, rows, 1, 1)
	depthIs(t, rows, 2, 2)
	rows[1][0].By = 7
	depthIs(t, rows, 2, 1)
	for next := 2; next < 1000; next += 7 {
		// One row, where the bound is the next By.
		for many := 1; many <= mostBest; many++ {
			l := append(steppedRow(0, many-1, 1000, 0), impl.Score{Doc: 50, By: next}, impl.Score{Doc: 60, By: next}, impl.Score{Doc: 70, By: 1})
			depthIs(t, [][]impl.Score{l}, many, many+1)
			l[many-1].By++
			depthIs(t, [][]impl.Score{l}, many, many)
		}
	}
	// Four rows, whose bound at depth 1 is 40 in all.
	for by := 11; by <= 100; by++ {
		var rows [][]impl.Score
		for i := range mostRows {
			rows = append(rows, []impl.Score{{Doc: 10 + i, By: by}, {Doc: 20 + i, By: 10}})
		}
		stops := 1
		if by <= 40 {
			stops = 2
		}
		depthIs(t, rows, 4, stops)
	}
}

// heapsOf has heaps of each size: drawn ones, rising and falling ones, and ones with many alike.
func heapsOf(source *rand.Rand, size int) [][]impl.Score {
	var l [][]impl.Score
	for _, most := range [][2]int{{100, mostHeapBy + 1}, {100, 4}, {4, 100}, {2, 2}, {1, 1}} {
		var drawn []impl.Score
		for range size {
			drawn = append(drawn, impl.Score{Doc: source.Intn(most[0]), By: source.Intn(most[1])})
		}
		falling := bestFirst(drawn)
		rising := slices.Clone(falling)
		slices.Reverse(rising)
		l = append(l, falling)
		for _, order := range [][]impl.Score{drawn, rising} {
			var h []impl.Score
			for _, x := range order {
				h = slowPush(h, x)
			}
			l = append(l, h)
		}
	}
	return l
}

func TestAllSmallHeaps(t *testing.T) {
	pool := scoresOf([]int{0, 1}, []int{0, 5})
	more := append(scoresOf([]int{0, 99}, []int{0, 6, mostHeapBy}), pool...)
	heaps := 0
	for _, h := range smallScoreLists(pool, 7) {
		if !checkIsHeap(t, h) {
			noPop(t, "no heap", h)
			noPush(t, "no heap", h, more[len(h)])
			continue
		}
		heaps++
		for _, x := range more {
			checkPush(t, h, x)
		}
		if len(h) > 0 {
			checkPop(t, h)
		}
	}
	if heaps < 500 {
		t.Errorf("%d of them are heaps", heaps)
	}
}

func TestIsHeap(t *testing.T) {
	source := rand.New(rand.NewSource(3))
	for size := 0; size <= mostHeap; size++ {
		for _, h := range heapsOf(source, size) {
			if is, ok := impl.IsHeap(h); !is || !ok || !slowIsHeap(h) {
				t.Fatalf("IsHeap(%v) = %v, %v", h, is, ok)
			}
			for k := 1; k < size; k++ {
				above := h[(k-1)/2]
				c := slices.Clone(h)
				c[k] = above
				if is, ok := impl.IsHeap(c); !is || !ok {
					t.Fatalf("%v is no heap, as it has a score twice", c)
				}
				for _, x := range []impl.Score{{Doc: above.Doc, By: above.By + 1}, {Doc: above.Doc - 1, By: above.By}} {
					if x.Doc < 0 || x.By > mostHeapBy {
						continue
					}
					c[k] = x
					if is, ok := impl.IsHeap(c); is || !ok || slowIsHeap(c) {
						t.Fatalf("IsHeap(%v) = %v, %v: place %d is better than the one above", c, is, ok, k)
					}
					noPop(t, "no heap", c)
					noPush(t, "no heap", c, impl.Score{})
				}
			}
		}
	}
	// Other ways to tell the place above would have it otherwise.
	for _, one := range []struct {
		h  []impl.Score
		is bool
	}{
		{nil, true},
		{[]impl.Score{{}}, true},
		{[]impl.Score{{Doc: 99, By: mostHeapBy}}, true},
		{[]impl.Score{{By: 9}, {By: 1}, {By: 8}, {By: 1}, {By: 1}, {By: 7}}, true},
		{[]impl.Score{{By: 9}, {By: 8}, {By: 1}, {By: 7}, {By: 6}, {By: 1}, {By: 0}}, true},
		{[]impl.Score{{By: 9}, {By: 1}, {By: 8}, {By: 1}, {By: 2}}, false},
		{[]impl.Score{{By: 9}, {By: 8}, {By: 1}, {By: 1}, {By: 1}, {By: 2}}, false},
		{[]impl.Score{{By: 9}, {By: 8}, {By: 1}, {By: 1}, {By: 1}, {By: 1}, {By: 2}}, false},
		{[]impl.Score{{Doc: 3, By: 9}, {Doc: 4, By: 9}, {Doc: 3, By: 9}}, true},
		{[]impl.Score{{Doc: 3, By: 9}, {Doc: 4, By: 9}, {Doc: 2, By: 9}}, false},
		{[]impl.Score{{Doc: 3, By: 9}, {Doc: 2, By: 9}}, false},
		{[]impl.Score{{By: 0}, {By: 1}}, false},
	} {
		if is, ok := impl.IsHeap(one.h); is != one.is || !ok {
			t.Errorf("IsHeap(%v) = %v, %v", one.h, is, ok)
		}
	}
}

func TestPushesAndPopsByHand(t *testing.T) {
	var h []impl.Score
	for _, one := range []struct {
		x    impl.Score
		want []impl.Score
	}{
		{impl.Score{Doc: 5, By: 3}, []impl.Score{{Doc: 5, By: 3}}},
		{impl.Score{Doc: 6, By: 3}, []impl.Score{{Doc: 5, By: 3}, {Doc: 6, By: 3}}},
		{impl.Score{Doc: 4, By: 3}, []impl.Score{{Doc: 4, By: 3}, {Doc: 6, By: 3}, {Doc: 5, By: 3}}},
		{impl.Score{Doc: 9, By: 8}, []impl.Score{{Doc: 9, By: 8}, {Doc: 4, By: 3}, {Doc: 5, By: 3}, {Doc: 6, By: 3}}},
		{impl.Score{Doc: 1, By: 0}, []impl.Score{{Doc: 9, By: 8}, {Doc: 4, By: 3}, {Doc: 5, By: 3}, {Doc: 6, By: 3}, {Doc: 1, By: 0}}},
		{impl.Score{Doc: 4, By: 3}, []impl.Score{{Doc: 9, By: 8}, {Doc: 4, By: 3}, {Doc: 4, By: 3}, {Doc: 6, By: 3}, {Doc: 1, By: 0}, {Doc: 5, By: 3}}},
	} {
		if h = checkPush(t, h, one.x); !slices.Equal(h, one.want) {
			t.Fatalf("with %v: %v; want %v", one.x, h, one.want)
		}
	}
	// The two below are alike: the first one comes up.
	h, x := checkPop(t, h)
	if want := []impl.Score{{Doc: 4, By: 3}, {Doc: 5, By: 3}, {Doc: 4, By: 3}, {Doc: 6, By: 3}, {Doc: 1, By: 0}}; !slices.Equal(h, want) || x != (impl.Score{Doc: 9, By: 8}) {
		t.Fatal(h, x)
	}
	h, x = checkPop(t, h)
	if want := []impl.Score{{Doc: 4, By: 3}, {Doc: 5, By: 3}, {Doc: 1, By: 0}, {Doc: 6, By: 3}}; !slices.Equal(h, want) || x != (impl.Score{Doc: 4, By: 3}) {
		t.Fatal(h, x)
	}
	checkPopAll(t, h)
}

func TestWhateverComesAndGoes(t *testing.T) {
	source := rand.New(rand.NewSource(4))
	for _, most := range [][2]int{{100, mostHeapBy + 1}, {100, 3}, {3, 3}, {1, 2}, {1, 1}} {
		for leaning := 1; leaning <= 4; leaning++ {
			var h, has []impl.Score
			for range 300 {
				if len(h) > 0 && (len(h) == mostHeap || source.Intn(5) >= leaning) {
					var x impl.Score
					h, x = checkPop(t, h)
					if x != has[0] {
						t.Fatalf("%v goes, but %v is the best", x, has[0])
					}
					has = has[1:]
				} else {
					x := impl.Score{Doc: source.Intn(most[0]), By: source.Intn(most[1])}
					h = checkPush(t, h, x)
					has = bestFirst(append(has, x))
				}
				if !slices.Equal(bestFirst(h), has) {
					t.Fatalf("%v is not what came and did not go: %v", h, has)
				}
			}
			checkPopAll(t, h)
		}
	}
}

func TestPushesInManyOrders(t *testing.T) {
	source := rand.New(rand.NewSource(5))
	for size := 0; size <= mostHeap; size++ {
		for _, h := range heapsOf(source, size) {
			checkPopAll(t, h)
			var again []impl.Score
			for _, x := range h {
				again = checkPush(t, again, x)
			}
			// It comes in order, so that nothing changes places.
			if !slices.Equal(again, h) {
				t.Fatalf("%v pushed in order gives %v", h, again)
			}
			if size == mostHeap {
				continue
			}
			for _, x := range scoresOf([]int{0, 99, source.Intn(100)}, []int{0, 1, source.Intn(mostHeapBy), mostHeapBy}) {
				checkPush(t, h, x)
			}
			if size > 0 {
				checkPush(t, h, h[source.Intn(size)])
			}
		}
	}
}

// Promise 19, from here on.
func farNumbers() []int {
	return []int{math.MinInt, math.MinInt + 1, -1 << 32, -101, 1 << 31, 1 << 32, 1<<32 + 1, math.MaxInt - 1, math.MaxInt}
}

// badRowLists are no good rows: too few, too many, one that is not good at each place.
func badRowLists() map[string][][]impl.Score {
	good := [][]impl.Score{steppedRow(0, 3, 9, 1), nil, steppedRow(2, mostRow, 1000, 50), steppedRow(90, 4, 2, 0)}
	m := map[string][][]impl.Score{
		"no rows":                         nil,
		"no rows, not nil":                {},
		"one more than MaxRows":           append(copyRows(good), steppedRow(1, 2, 5, 1)),
		"one more than MaxRows, empty":    make([][]impl.Score, mostRows+1),
		"one more than MaxRows, the last": append(copyRows(good), nil),
		"very many rows":                  make([][]impl.Score, 100000),
		"a very long row":                 {make([]impl.Score, 100000)},
		"all wrong":                       {{{}}, {{Doc: -1}}, {{By: 1001}}, {{Doc: 5, By: 1}, {Doc: 5, By: 1}}, {{}}},
	}
	for at := range mostRows {
		spoilRow(steppedRow(30, 6, 500, 7), func(why string, spoilt []impl.Score) {
			for size := at + 1; size <= mostRows; size++ {
				rows := copyRows(good[:size])
				rows[at] = spoilt
				m[why+", in row "+letters[at:at+1]+" of "+letters[size:size+1]] = rows
			}
		})
	}
	return m
}

// noTop asks that nothing is told of these rows.
func noTop(t *testing.T, why string, rows [][]impl.Score, number int) {
	t.Helper()
	if n, ok := impl.TotalOf(rows, number); n != 0 || ok {
		t.Fatalf("%s: TotalOf(%v, %d) = %d, %v", why, rows, number, n, ok)
	}
	if n, ok := impl.BoundAt(rows, number); n != 0 || ok {
		t.Fatalf("%s: BoundAt(%v, %d) = %d, %v", why, rows, number, n, ok)
	}
	noBest(t, why, rows, number)
}

func noBest(t *testing.T, why string, rows [][]impl.Score, many int) {
	t.Helper()
	if l, ok := impl.BestFew(rows, many); len(l) != 0 || ok {
		t.Fatalf("%s: BestFew(%v, %d) = %v, %v", why, rows, many, l, ok)
	}
	if l, depth, ok := impl.Threshold(rows, many); len(l) != 0 || depth != 0 || ok {
		t.Fatalf("%s: Threshold(%v, %d) = %v, %d, %v", why, rows, many, l, depth, ok)
	}
}

func TestScoreRowsThatAreNotAsSaid(t *testing.T) {
	for why, rows := range badRowLists() {
		if slowGoodRows(rows) {
			t.Fatalf("%s: these are good rows", why)
		}
		was := copyRows(rows)
		for _, number := range append(farNumbers(), -1, 0, 1, 2, 5, 10, 11, 20, 21, 32, 99, 100) {
			noTop(t, why, rows, number)
		}
		if !sameRows(rows, was) {
			t.Fatalf("%s: the rows are changed", why)
		}
	}
}

func TestNumbersThatAreNotAsSaid(t *testing.T) {
	for _, rows := range edgeRows() {
		for _, many := range append(farNumbers(), -10, -1, 0, mostBest+1, mostBest+2, mostRow, 100) {
			noBest(t, "many beyond", rows, many)
		}
		for _, doc := range append(farNumbers(), -100, -1, 100, 101, 1000) {
			if n, ok := impl.TotalOf(rows, doc); n != 0 || ok {
				t.Fatalf("TotalOf(%v, %d) = %d, %v", rows, doc, n, ok)
			}
		}
		for _, depth := range append(farNumbers(), -mostRow, -1, mostRow+1, mostRow+2, 100) {
			if n, ok := impl.BoundAt(rows, depth); n != 0 || ok {
				t.Fatalf("BoundAt(%v, %d) = %d, %v", rows, depth, n, ok)
			}
		}
	}
}

func badHeapScores() []impl.Score {
	l := []impl.Score{{Doc: -1, By: 5}, {Doc: 100, By: 5}, {Doc: 5, By: -1}, {Doc: 5, By: mostHeapBy + 1}, {Doc: -1, By: -1}, {Doc: 100, By: mostHeapBy + 1}}
	for _, n := range farNumbers() {
		l = append(l, impl.Score{Doc: n, By: 5}, impl.Score{Doc: 5, By: n}, impl.Score{Doc: n, By: n})
	}
	return l
}

func noHeap(t *testing.T, why string, h []impl.Score) {
	t.Helper()
	was := slices.Clone(h)
	if is, ok := impl.IsHeap(h); is || ok {
		t.Fatalf("%s: IsHeap(%v) = %v, %v", why, h, is, ok)
	}
	noPop(t, why, h)
	for _, x := range append(badHeapScores()[:4], impl.Score{}, impl.Score{Doc: 99, By: mostHeapBy}, impl.Score{Doc: 5, By: 7}) {
		noPush(t, why, h, x)
	}
	if !slices.Equal(h, was) {
		t.Fatalf("%s: %v is changed", why, was)
	}
}

func TestHeapsThatAreNotAsSaid(t *testing.T) {
	source := rand.New(rand.NewSource(6))
	for size := 0; size <= mostHeap; size++ {
		h := heapsOf(source, size)[size%3]
		was := slices.Clone(h)
		for _, x := range badHeapScores() {
			noPush(t, "no score of a heap", h, x)
			for k := range h {
				c := slices.Clone(h)
				c[k] = x
				noHeap(t, "one score is not as said", c)
			}
			noHeap(t, "one score is not as said, at the end", append(slices.Clone(h), x))
		}
		if !slices.Equal(h, was) {
			t.Fatalf("%v is changed", was)
		}
	}
	for _, x := range []impl.Score{{}, {Doc: 99}, {Doc: 99, By: mostHeapBy}, {By: mostHeapBy}, {Doc: 5, By: 7}} {
		for _, size := range []int{mostHeap + 1, mostHeap + 2, 1000, 100000} {
			noHeap(t, "more than 60 scores", slices.Repeat([]impl.Score{x}, size))
		}
		full := slices.Repeat([]impl.Score{x}, mostHeap)
		if is, ok := impl.IsHeap(full); !is || !ok {
			t.Fatalf("60 times %v: %v, %v", x, is, ok)
		}
		for _, more := range []impl.Score{x, {}, {Doc: 99, By: mostHeapBy}, {Doc: 100}} {
			noPush(t, "a push onto 60 scores", full, more)
		}
		checkPopAll(t, full)
		checkPush(t, full[1:], x)
	}
	for _, h := range [][]impl.Score{nil, {}} {
		noPop(t, "an empty heap", h)
		for _, x := range scoresOf([]int{0, 99}, []int{0, mostHeapBy}) {
			checkPush(t, h, x)
		}
	}
}

// spareScores has scores behind its length, which are better than all others.
func spareScores(l []impl.Score) []impl.Score {
	return append(slices.Clone(l), impl.Score{Doc: 98, By: 1000}, impl.Score{Doc: 97, By: 999}, impl.Score{Doc: -1, By: -1})[:len(l)]
}

// spareRows is a copy each list of which has something behind its length; all is the whole memory.
func spareRows(rows [][]impl.Score) ([][]impl.Score, func() [][]impl.Score) {
	whole := append(copyRows(rows), []impl.Score{{Doc: 96, By: 1000}}, []impl.Score{{Doc: -1}})
	for i := range whole {
		whole[i] = spareScores(whole[i])
	}
	return whole[:len(rows)], func() [][]impl.Score {
		c := slices.Clone(whole)
		for i := range c {
			c[i] = slices.Clone(c[i][:cap(c[i])])
		}
		return c
	}
}

func TestScoreRowsAreNotWrittenInto(t *testing.T) {
	for _, rows := range rowLists() {
		spare, all := spareRows(rows)
		were := all()
		for _, l := range spare {
			if !impl.GoodRow(l) {
				t.Fatalf("what lies behind %v is read", l)
			}
			impl.GoodRow(l[:cap(l)])
		}
		checkTotals(t, spare)
		checkBounds(t, spare)
		for many := 0; many <= mostBest+1; many++ {
			if many >= 1 && many <= mostBest {
				checkBest(t, spare, many)
				checkThreshold(t, spare, many)
			}
			impl.BestFew(spare, many)
			impl.Threshold(spare, many)
			impl.BestFew(spare[:cap(spare)], many)
			impl.Threshold(spare[:cap(spare)], many)
		}
		impl.TotalOf(spare, -1)
		impl.BoundAt(spare, -1)
		if !sameRows(all(), were) {
			t.Fatalf("%v, or what lies behind, are changed", rows)
		}
	}
}

func TestHeapsAreNotWrittenInto(t *testing.T) {
	source := rand.New(rand.NewSource(7))
	for size := 0; size <= mostHeap; size++ {
		for _, h := range heapsOf(source, size) {
			spare := spareScores(h)
			was := slices.Clone(spare[:cap(spare)])
			checkIsHeap(t, spare)
			for _, x := range scoresOf([]int{0, 99}, []int{0, 2, mostHeapBy}) {
				if size < mostHeap {
					checkPush(t, spare, x)
				}
				impl.HeapPush(spare, x)
			}
			impl.HeapPush(spare, impl.Score{Doc: -1})
			if size > 0 {
				checkPop(t, spare)
			}
			noPop(t, "nothing in front", spare[:0])
			impl.IsHeap(spare[:cap(spare)])
			impl.HeapPop(spare[:cap(spare)])
			if !slices.Equal(spare[:cap(spare)], was) {
				t.Fatalf("%v, or what lies behind it, is changed", h)
			}
		}
	}
}

// spoilScores writes into all memory of a list, also behind its length, where there must be nothing.
func spoilScores(t *testing.T, l []impl.Score) {
	t.Helper()
	for _, x := range l[len(l):cap(l)] {
		if x != (impl.Score{}) {
			t.Fatalf("%v is handed out behind the length of %v", x, l)
		}
	}
	for i := range l[:cap(l)] {
		l[:cap(l)][i] = impl.Score{Doc: -7, By: -7}
	}
}

func TestBestAnswersAreNewMemory(t *testing.T) {
	for _, rows := range rowLists() {
		given := copyRows(rows)
		for many := 1; many <= mostBest; many++ {
			best, _ := impl.BestFew(given, many)
			found, _, _ := impl.Threshold(given, many)
			spoilScores(t, best)
			if !slices.Equal(found, slowBest(rows, many)) {
				t.Fatalf("two answers for %v share memory", rows)
			}
			spoilScores(t, found)
			if !sameRows(given, rows) {
				t.Fatalf("the answers for %v share memory with their argument", rows)
			}
			checkBest(t, given, many)
			checkThreshold(t, given, many)
		}
		best, _ := impl.BestFew(given, mostBest)
		found, _, _ := impl.Threshold(given, mostBest)
		for _, l := range given {
			clear(l)
		}
		if want := slowBest(rows, mostBest); !slices.Equal(best, want) || !slices.Equal(found, want) {
			t.Fatalf("the answers for %v keep their argument", rows)
		}
	}
}

func TestHeapAnswersAreNewMemory(t *testing.T) {
	source := rand.New(rand.NewSource(8))
	for size := 0; size < mostHeap; size++ {
		for _, h := range heapsOf(source, size) {
			given := slices.Clone(h)
			for _, x := range scoresOf([]int{0, 99}, []int{0, mostHeapBy}) {
				first, _ := impl.HeapPush(given, x)
				second, _ := impl.HeapPush(given, x)
				spoilScores(t, first)
				if !slices.Equal(second, slowPush(h, x)) || !slices.Equal(given, h) {
					t.Fatalf("HeapPush(%v, %v) shares memory", h, x)
				}
				clear(given)
				if !slices.Equal(second, slowPush(h, x)) {
					t.Fatalf("HeapPush(%v, %v) keeps its argument", h, x)
				}
				copy(given, h)
				spoilScores(t, second)
			}
			if size == 0 {
				continue
			}
			want, _ := slowPop(h)
			first, _, _ := impl.HeapPop(given)
			second, _, _ := impl.HeapPop(given)
			spoilScores(t, first)
			if !slices.Equal(second, want) || !slices.Equal(given, h) {
				t.Fatalf("HeapPop(%v) shares memory", h)
			}
			clear(given)
			if !slices.Equal(second, want) {
				t.Fatalf("HeapPop(%v) keeps its argument", h)
			}
			spoilScores(t, second)
		}
	}
}

// The answers hang on the arguments alone, not on what was asked ahead.
func TestBestAnswerTheSameAgain(t *testing.T) {
	rows := [][]impl.Score{steppedRow(0, mostRow, 100, 5), steppedRow(10, mostRow, 90, 3), nil, steppedRow(5, 7, 7, 0)}
	h := heapsOf(rand.New(rand.NewSource(9)), 40)[1]
	for _, other := range badRowLists() {
		impl.BestFew(other, 3)
		impl.Threshold(other, 3)
		impl.TotalOf(other, 3)
		impl.BoundAt(other, 3)
		for _, l := range other[:min(len(other), mostRows)] {
			impl.IsHeap(l)
			impl.HeapPop(l)
			impl.HeapPush(l, impl.Score{Doc: 3, By: 3})
		}
		checkBest(t, rows, 4)
		checkThreshold(t, rows, 4)
		checkPush(t, h, impl.Score{Doc: 3, By: 3})
		checkPop(t, h)
	}
	checkTotals(t, rows)
	checkBounds(t, rows)
}
