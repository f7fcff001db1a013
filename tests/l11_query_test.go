package tests

import (
	"math/rand"
	"slices"
	"strconv"
	"strings"
	"testing"

	"loop.example/g00537/impl"
)

const (
	mostParts   = 24
	mostWordsIn = 5
	mostHeld    = 60
)

func TestQueryConstants(t *testing.T) {
	if impl.MaxParts != mostParts || impl.MaxWordsIn != mostWordsIn {
		t.Fatal(impl.MaxParts, impl.MaxWordsIn)
	}
	if impl.QuWord != 1 || impl.QuAnd != 2 || impl.QuOr != 3 || impl.QuNot != 4 {
		t.Fatal(impl.QuWord, impl.QuAnd, impl.QuOr, impl.QuNot)
	}
}

func wordPart(word string) impl.Part {
	return impl.Part{Kind: impl.QuWord, Word: word}
}

func andPart(a int, b int) impl.Part {
	return impl.Part{Kind: impl.QuAnd, A: a, B: b}
}

func orPart(a int, b int) impl.Part {
	return impl.Part{Kind: impl.QuOr, A: a, B: b}
}

func notPart(a int) impl.Part {
	return impl.Part{Kind: impl.QuNot, A: a}
}

func slowGoodPart(p impl.Part, at int) bool {
	names := map[int][]int{impl.QuWord: {}, impl.QuAnd: {p.A, p.B}, impl.QuOr: {p.A, p.B}, impl.QuNot: {p.A}}
	named, is := names[p.Kind]
	for _, n := range named {
		is = is && n >= 0 && n < at
	}
	switch len(named) {
	case 0:
		return is && slowGoodWord(p.Word) && p == wordPart(p.Word)
	case 1:
		return is && p == notPart(p.A)
	}
	return is && p.Word == ""
}

// slowWordsIn takes all texts of parts that have one.
func slowWordsIn(q []impl.Part) []string {
	var l []string
	for _, p := range q {
		if p.Word != "" {
			l = append(l, p.Word)
		}
	}
	slices.Sort(l)
	return slices.Compact(l)
}

func slowGoodQuery(q []impl.Part) bool {
	for at, p := range q {
		if !slowGoodPart(p, at) {
			return false
		}
	}
	return len(q) >= 1 && len(q) <= 24 && len(slowWordsIn(q)) <= 5
}

// slowTable has a bit for each choice of the query's words, the first word being the lowest bit of a choice: whether the query holds for it.
func slowTable(q []impl.Part) uint64 {
	words := slowWordsIn(q)
	choices := 1 << len(words)
	tables := make([]uint64, len(q))
	for at, p := range q {
		switch p.Kind {
		case impl.QuWord:
			for c := range choices {
				if c>>slices.Index(words, p.Word)&1 == 1 {
					tables[at] |= 1 << c
				}
			}
		case impl.QuAnd:
			tables[at] = tables[p.A] & tables[p.B]
		case impl.QuOr:
			tables[at] = tables[p.A] | tables[p.B]
		case impl.QuNot:
			tables[at] = tables[p.A] ^ (1<<choices - 1)
		}
	}
	return tables[len(q)-1]
}

func slowHolds(q []impl.Part, words []string) bool {
	choice := 0
	for k, word := range slowWordsIn(q) {
		if slices.Contains(words, word) {
			choice |= 1 << k
		}
	}
	return slowTable(q)>>choice&1 == 1
}

func slowDocsFor(docs []string, q []impl.Part) []int {
	var l []int
	all, _ := slowDocs(docs)
	for doc, words := range all {
		if slowHolds(q, words) {
			l = append(l, doc)
		}
	}
	return l
}

// asked is a part with the parts that it names.
type asked struct {
	kind int
	word string
	a    *asked
	b    *asked
}

func treeOfParts(q []impl.Part, at int) *asked {
	p := q[at]
	e := &asked{kind: p.Kind, word: p.Word}
	if p.Kind != impl.QuWord {
		e.a = treeOfParts(q, p.A)
	}
	if p.Kind == impl.QuAnd || p.Kind == impl.QuOr {
		e.b = treeOfParts(q, p.B)
	}
	return e
}

func notOf(e *asked) *asked {
	return &asked{kind: impl.QuNot, a: e}
}

// moved takes one step after the other, from above, until nots stand ahead of words alone.
func (e *asked) moved() *asked {
	switch e.kind {
	case impl.QuWord:
		return e
	case impl.QuAnd, impl.QuOr:
		return &asked{kind: e.kind, a: e.a.moved(), b: e.b.moved()}
	}
	switch in := e.a; in.kind {
	case impl.QuNot:
		return in.a.moved()
	case impl.QuAnd:
		return (&asked{kind: impl.QuOr, a: notOf(in.a), b: notOf(in.b)}).moved()
	case impl.QuOr:
		return (&asked{kind: impl.QuAnd, a: notOf(in.a), b: notOf(in.b)}).moved()
	}
	return e
}

// parts are written so that the numbers that are named are by from further on.
func (e *asked) parts(from int) []impl.Part {
	if e.kind == impl.QuWord {
		return []impl.Part{wordPart(e.word)}
	}
	first := e.a.parts(from)
	if e.kind == impl.QuNot {
		return append(first, notPart(from+len(first)-1))
	}
	second := e.b.parts(from + len(first))
	both := append(first, second...)
	return append(both, impl.Part{Kind: e.kind, A: from + len(first) - 1, B: from + len(both) - 1})
}

// slowSizes counts for each part how many parts it, and its not, come to, up to a thousand.
func slowSizes(q []impl.Part) [][2]int {
	sizes := make([][2]int, len(q))
	for at, p := range q {
		switch p.Kind {
		case impl.QuWord:
			sizes[at] = [2]int{1, 2}
		case impl.QuNot:
			sizes[at] = [2]int{sizes[p.A][1], sizes[p.A][0]}
		default:
			for k := range 2 {
				sizes[at][k] = min(sizes[p.A][k]+sizes[p.B][k]+1, 1000)
			}
		}
	}
	return sizes
}

func slowInwardSize(q []impl.Part) int {
	return slowSizes(q)[len(q)-1][0]
}

func slowInward(q []impl.Part) ([]impl.Part, bool) {
	if slowInwardSize(q) > 24 {
		return nil, false
	}
	return treeOfParts(q, len(q)-1).moved().parts(0), true
}

// slowTerms turns the choices for which the query holds into terms.
func slowTerms(q []impl.Part) [][]int {
	var l [][]int
	many, table := len(slowWordsIn(q)), slowTable(q)
	for c := range 1 << many {
		if table>>c&1 == 0 {
			continue
		}
		term := make([]int, many)
		for k := range term {
			term[k] = 2 - c>>k&1
		}
		l = append(l, term)
	}
	slices.SortFunc(l, slices.Compare)
	return l
}

// slowPutTogether is what two terms are that are unlike in one number alone, which is 0 in neither.
func slowPutTogether(a []int, b []int) ([]int, bool) {
	c, unlike := slices.Clone(a), 0
	for k := range a {
		if a[k] != b[k] {
			unlike++
			c[k] = 0
			if a[k] == 0 || b[k] == 0 {
				return nil, false
			}
		}
	}
	return c, unlike == 1
}

// slowPrimes puts terms together, two by two, as long as it goes (Quine): those that are in no pair are left.
func slowPrimes(q []impl.Part) [][]int {
	var primes [][]int
	for terms := slowTerms(q); len(terms) > 0; {
		var wider [][]int
		for i, a := range terms {
			isLeft := true
			for k, b := range terms {
				if c, ok := slowPutTogether(a, b); ok {
					isLeft = false
					if k > i {
						wider = append(wider, c)
					}
				}
			}
			if isLeft {
				primes = append(primes, a)
			}
		}
		slices.SortFunc(wider, slices.Compare)
		terms = slices.CompactFunc(wider, slices.Equal)
	}
	slices.SortFunc(primes, slices.Compare)
	return primes
}

func sameTerms(a [][]int, b [][]int) bool {
	return slices.EqualFunc(a, b, slices.Equal)
}

// choicesOf are all lists that hold just some of these words.
func choicesOf(words []string) [][]string {
	var l [][]string
	for c := range 1 << len(words) {
		var some []string
		for k, word := range words {
			if c>>k&1 == 1 {
				some = append(some, word)
			}
		}
		l = append(l, some)
	}
	return l
}

func checkHolds(t *testing.T, q []impl.Part, words []string) bool {
	t.Helper()
	want := slowHolds(q, words)
	if is, ok := impl.HoldsFor(q, words); is != want || !ok {
		t.Fatalf("HoldsFor(%v, %q) = %v, %v; want %v", q, words, is, ok, want)
	}
	return want
}

// checkInward tells the answer, too.
func checkInward(t *testing.T, q []impl.Part) ([]impl.Part, bool) {
	t.Helper()
	want, is := slowInward(q)
	l, ok := impl.InwardNots(q)
	if !slices.Equal(l, want) || ok != is {
		t.Fatalf("InwardNots(%v) = %v, %v; want %v, %v", q, l, ok, want, is)
	}
	if !ok {
		return nil, false
	}
	if !impl.GoodQuery(l) {
		t.Fatalf("InwardNots(%v) = %v, which is not good", q, l)
	}
	for _, p := range l {
		if p.Kind == impl.QuNot && l[p.A].Kind != impl.QuWord {
			t.Fatalf("InwardNots(%v) = %v has a not of no word", q, l)
		}
	}
	return l, true
}

// checkTermsAgainstPrimes asks what promise 11 says of both.
func checkTermsAgainstPrimes(t *testing.T, q []impl.Part, terms [][]int, primes [][]int) {
	t.Helper()
	words := slowWordsIn(q)
	for _, some := range choicesOf(words) {
		term := make([]int, len(words))
		for k, word := range words {
			term[k] = 2
			if slices.Contains(some, word) {
				term[k] = 1
			}
		}
		fitsOne := slices.ContainsFunc(primes, func(prime []int) bool {
			for k, n := range prime {
				if n != 0 && n != term[k] {
					return false
				}
			}
			return true
		})
		is := slices.ContainsFunc(terms, func(l []int) bool { return slices.Equal(l, term) })
		if is != fitsOne || is != slowHolds(q, some) {
			t.Fatalf("%v of %v is told by terms: %v, taken in by primes: %v", term, q, is, fitsOne)
		}
	}
}

func checkTerms(t *testing.T, q []impl.Part) ([][]int, [][]int) {
	t.Helper()
	terms, ok := impl.TermsOf(q)
	if want := slowTerms(q); !ok || !sameTerms(terms, want) {
		t.Fatalf("TermsOf(%v) = %v, %v; want %v", q, terms, ok, want)
	}
	primes, ok := impl.PrimesOf(q)
	if want := slowPrimes(q); !ok || !sameTerms(primes, want) {
		t.Fatalf("PrimesOf(%v) = %v, %v; want %v", q, primes, ok, want)
	}
	return terms, primes
}

func checkSame(t *testing.T, a []impl.Part, b []impl.Part) bool {
	t.Helper()
	wantOK := slices.Equal(slowWordsIn(a), slowWordsIn(b))
	want := wantOK && slowTable(a) == slowTable(b)
	if is, ok := impl.SameQuery(a, b); is != want || ok != wantOK {
		t.Fatalf("SameQuery(%v, %v) = %v, %v; want %v, %v", a, b, is, ok, want, wantOK)
	}
	return want
}

func checkDocsFor(t *testing.T, docs []string, q []impl.Part) int {
	t.Helper()
	want := slowDocsFor(docs, q)
	if l, ok := impl.DocsFor(docs, q); !ok || !slices.Equal(l, want) {
		t.Fatalf("DocsFor(%q, %v) = %v, %v; want %v", docs, q, l, ok, want)
	}
	return len(want)
}

// checkQuery asks all of a good query, and that it and the one with its nots inward hold for the same words.
func checkQuery(t *testing.T, q []impl.Part) {
	t.Helper()
	if !slowGoodQuery(q) || !impl.GoodQuery(q) {
		t.Fatalf("GoodQuery(%v) is %v", q, impl.GoodQuery(q))
	}
	words := slowWordsIn(q)
	if l, ok := impl.WordsIn(q); !ok || !slices.Equal(l, words) {
		t.Fatalf("WordsIn(%v) = %q, %v; want %q", q, l, ok, words)
	}
	inward, isInward := checkInward(t, q)
	for _, some := range choicesOf(words) {
		holds := checkHolds(t, q, some)
		if is, ok := impl.HoldsFor(inward, some); isInward && (is != holds || !ok) {
			t.Fatalf("%v holds for %q: %v; with its nots inward: %v, %v", q, some, holds, is, ok)
		}
	}
	terms, primes := checkTerms(t, q)
	checkTermsAgainstPrimes(t, q, terms, primes)
	checkSame(t, q, q)
	if isInward {
		checkSame(t, q, inward)
		checkSame(t, inward, q)
	}
	checkDocsFor(t, []string{"", strings.Join(words, " "), words[0], words[len(words)-1], "Other words", strings.ToUpper(words[0]) + ", others"}, q)
}

// drawnQuery has so many parts, which name those right ahead more often than others.
func drawnQuery(source *rand.Rand, many int, pool []string) []impl.Part {
	var q []impl.Part
	for at := range many {
		name := func() int {
			if source.Intn(2) == 0 {
				return max(at-1-source.Intn(3), 0)
			}
			return source.Intn(at)
		}
		kind := impl.QuWord
		if at > 0 && source.Intn(10) > 2 {
			kind = impl.QuAnd + source.Intn(3)
		}
		switch kind {
		case impl.QuWord:
			q = append(q, wordPart(pool[source.Intn(len(pool))]))
		case impl.QuNot:
			q = append(q, notPart(name()))
		default:
			q = append(q, impl.Part{Kind: kind, A: name(), B: name()})
		}
	}
	return q
}

// drawnTree names each part once.
func drawnTree(source *rand.Rand, leaves int, nots int, pool []string) *asked {
	var l []*asked
	for range leaves {
		l = append(l, &asked{kind: impl.QuWord, word: pool[source.Intn(len(pool))]})
	}
	for len(l) > 1 || nots > 0 {
		at := source.Intn(len(l))
		if nots > 0 && source.Intn(2) == 0 || len(l) == 1 {
			l[at] = notOf(l[at])
			nots--
			continue
		}
		both := &asked{kind: impl.QuAnd + source.Intn(2), a: l[at]}
		l = slices.Delete(l, at, at+1)
		with := source.Intn(len(l))
		both.b = l[with]
		l[with] = both
	}
	return l[0]
}

func queryPools() [][]string {
	return [][]string{
		{"a"},
		{"b", "a"},
		{"red", "blue", "sea"},
		{"a", "ab", "aa", "b"},
		{"e", "d", "c", "b", "a"},
		{"zzzzzzzzzzzz", "aaaaaaaaaaaa", "abcdefghijkl", "z", "zz"},
	}
}

// someQueries are good ones of every number of parts and of words.
func someQueries() [][]impl.Part {
	source := rand.New(rand.NewSource(11))
	l := [][]impl.Part{
		{wordPart("a")},
		{wordPart("abcdefghijkl")},
		{wordPart("red"), wordPart("blue"), andPart(0, 1), notPart(2)},
		{wordPart("a"), notPart(0), andPart(0, 1)},
		{wordPart("a"), notPart(0), orPart(0, 1)},
		{wordPart("e"), wordPart("d"), wordPart("c"), wordPart("b"), wordPart("a")},
		{wordPart("e"), wordPart("d"), wordPart("c"), wordPart("b"), wordPart("a"), andPart(0, 0)},
	}
	for _, pool := range queryPools() {
		for many := 1; many <= mostParts; many++ {
			for range 3 {
				l = append(l, drawnQuery(source, many, pool))
			}
		}
		for leaves := 1; leaves <= 12; leaves++ {
			for range 2 {
				l = append(l, drawnTree(source, leaves, source.Intn(min(mostParts-2*leaves+1, 6)+1), pool).parts(0))
			}
		}
	}
	return l
}

func TestQueriesOfEverySize(t *testing.T) {
	source := rand.New(rand.NewSource(12))
	answers, nothing, everything := map[int]int{}, 0, 0
	words := map[int]int{}
	for many := 1; many <= mostParts; many++ {
		for _, pool := range queryPools() {
			for range 40 {
				q := drawnQuery(source, many, pool)
				checkQuery(t, q)
				answers[slowInwardSize(q)]++
				words[len(slowWordsIn(q))]++
				switch slowTable(q) {
				case 0:
					nothing++
				case 1<<(1<<len(slowWordsIn(q))) - 1:
					everything++
				}
			}
		}
	}
	for size := 1; size <= mostParts+1; size++ {
		if answers[size] == 0 {
			t.Errorf("no query with %d parts, its nots inward", size)
		}
	}
	for many := 1; many <= mostWordsIn; many++ {
		if words[many] == 0 {
			t.Errorf("no query of %d words", many)
		}
	}
	if nothing < 20 || everything < 20 {
		t.Errorf("%d queries that hold for nothing, %d for everything", nothing, everything)
	}
}

func TestQueriesThatNameEachPartOnce(t *testing.T) {
	source := rand.New(rand.NewSource(13))
	sizes := map[int]int{}
	for leaves := 1; leaves <= 12; leaves++ {
		for nots := 0; 2*leaves-1+nots <= mostParts; nots++ {
			for _, pool := range queryPools() {
				for range 5 {
					q := drawnTree(source, leaves, nots, pool).parts(0)
					checkQuery(t, q)
					size := slowInwardSize(q)
					sizes[size]++
					if nots == 0 && size != len(q) {
						t.Fatalf("%v has no nots, and %d parts with them inward", q, size)
					}
				}
			}
		}
	}
	if sizes[mostParts] < 10 || sizes[mostParts+1] < 10 {
		t.Error(sizes)
	}
}

// smallQueries are all good ones of these words and up to so many parts.
func smallQueries(many int, words ...string) [][]impl.Part {
	all, last := [][]impl.Part(nil), [][]impl.Part{nil}
	for at := range many {
		var parts []impl.Part
		for _, word := range words {
			parts = append(parts, wordPart(word))
		}
		for a := range at {
			parts = append(parts, notPart(a))
			for b := range at {
				parts = append(parts, andPart(a, b), orPart(a, b))
			}
		}
		var longer [][]impl.Part
		for _, q := range last {
			for _, p := range parts {
				longer = append(longer, append(slices.Clone(q), p))
			}
		}
		last = longer
		all = append(all, last...)
	}
	return all
}

func TestAllSmallQueries(t *testing.T) {
	if l := smallQueries(3, "a", "b"); len(l) != 2+2*5+2*5*12 {
		t.Fatal(len(l))
	}
	for _, q := range smallQueries(4, "b", "a") {
		checkQuery(t, q)
	}
	for _, q := range smallQueries(3, "b", "c", "a") {
		checkQuery(t, q)
	}
	for _, q := range smallQueries(4, "a") {
		checkQuery(t, q)
	}
}

// questionOf is a query of a, b and c that holds for just the choices with a bit in this table. All three words are in it.
func questionOf(table int) []impl.Part {
	q := []impl.Part{wordPart("a"), wordPart("b"), wordPart("c"), notPart(0), notPart(1), notPart(2)}
	q = append(q, andPart(3, 4), andPart(0, 4), andPart(3, 1), andPart(0, 1), andPart(0, 3))
	whole := len(q) - 1
	for choice := range 4 {
		at := 6 + choice
		switch without, with := table>>choice&1 == 1, table>>(choice+4)&1 == 1; {
		case !without && !with:
			continue
		case !without:
			q = append(q, andPart(at, 2))
			at = len(q) - 1
		case !with:
			q = append(q, andPart(at, 5))
			at = len(q) - 1
		}
		q = append(q, orPart(at, whole))
		whole = len(q) - 1
	}
	return q
}

func TestAllQuestionsOfThreeWords(t *testing.T) {
	var all [][]impl.Part
	primes := map[int]int{}
	for table := range 256 {
		q := questionOf(table)
		if slowTable(q) != uint64(table) {
			t.Fatalf("%v holds for %b instead of %b", q, slowTable(q), table)
		}
		checkQuery(t, q)
		l, _ := impl.PrimesOf(q)
		primes[len(l)]++
		all = append(all, q)
	}
	// No question of three words has more than six.
	if primes[0] != 1 || primes[6] == 0 || primes[7] != 0 {
		t.Error(primes)
	}
	same := 0
	for _, a := range all {
		for _, b := range all {
			if checkSame(t, a, b) {
				same++
			}
		}
	}
	if same != 256 {
		t.Errorf("%d pairs hold for the same words", same)
	}
}

func TestQueriesByHand(t *testing.T) {
	both := []impl.Part{wordPart("red"), wordPart("blue"), andPart(0, 1)}
	one := []impl.Part{wordPart("red"), wordPart("blue"), orPart(0, 1)}
	neither := []impl.Part{wordPart("blue"), wordPart("red"), orPart(0, 1), notPart(2)}
	unlike := []impl.Part{wordPart("a"), wordPart("b"), notPart(0), notPart(1), andPart(0, 3), andPart(2, 1), orPart(4, 5)}
	never := []impl.Part{wordPart("a"), wordPart("b"), notPart(0), andPart(2, 0)}
	always := []impl.Part{wordPart("b"), wordPart("a"), notPart(1), orPart(2, 1)}
	ring := []impl.Part{wordPart("a"), wordPart("b"), wordPart("c"), andPart(0, 1), andPart(3, 2), orPart(0, 1), orPart(5, 2), notPart(4), andPart(6, 7)}
	for _, c := range []struct {
		q      []impl.Part
		terms  [][]int
		primes [][]int
	}{
		{both, [][]int{{1, 1}}, [][]int{{1, 1}}},
		{one, [][]int{{1, 1}, {1, 2}, {2, 1}}, [][]int{{0, 1}, {1, 0}}},
		{neither, [][]int{{2, 2}}, [][]int{{2, 2}}},
		{unlike, [][]int{{1, 2}, {2, 1}}, [][]int{{1, 2}, {2, 1}}},
		{never, nil, nil},
		{always, [][]int{{1, 1}, {1, 2}, {2, 1}, {2, 2}}, [][]int{{0, 0}}},
		{ring, [][]int{{1, 1, 2}, {1, 2, 1}, {1, 2, 2}, {2, 1, 1}, {2, 1, 2}, {2, 2, 1}}, [][]int{{0, 1, 2}, {0, 2, 1}, {1, 0, 2}, {1, 2, 0}, {2, 0, 1}, {2, 1, 0}}},
		{[]impl.Part{wordPart("a")}, [][]int{{1}}, [][]int{{1}}},
		{[]impl.Part{wordPart("a"), notPart(0)}, [][]int{{2}}, [][]int{{2}}},
		// The whole is the last part, whatever b is.
		{[]impl.Part{wordPart("b"), wordPart("a")}, [][]int{{1, 1}, {1, 2}}, [][]int{{1, 0}}},
	} {
		checkQuery(t, c.q)
		if l, ok := impl.TermsOf(c.q); !ok || !sameTerms(l, c.terms) {
			t.Errorf("TermsOf(%v) = %v, %v; want %v", c.q, l, ok, c.terms)
		}
		if l, ok := impl.PrimesOf(c.q); !ok || !sameTerms(l, c.primes) {
			t.Errorf("PrimesOf(%v) = %v, %v; want %v", c.q, l, ok, c.primes)
		}
	}
	if l, ok := impl.WordsIn(ring); !ok || !slices.Equal(l, []string{"a", "b", "c"}) {
		t.Error(l, ok)
	}
	for words, want := range map[string]bool{"": false, "a": true, "a b": true, "a b c": false, "c d": true, "d": false, "A": false, "b b b": true} {
		if is, ok := impl.HoldsFor(ring, strings.Fields(words)); is != want || !ok {
			t.Errorf("HoldsFor(ring, %s) = %v, %v", words, is, ok)
		}
	}
	docs := []string{"Red and blue", "a blue sea", "", "RED, red.", "no colours"}
	for _, c := range []struct {
		q    []impl.Part
		docs []int
	}{{both, []int{0}}, {one, []int{0, 1, 3}}, {neither, []int{2, 4}}, {always, []int{0, 1, 2, 3, 4}}, {never, nil}} {
		if l, ok := impl.DocsFor(docs, c.q); !ok || !slices.Equal(l, c.docs) {
			t.Errorf("DocsFor(docs, %v) = %v, %v; want %v", c.q, l, ok, c.docs)
		}
	}
}

func TestInwardNotsByHand(t *testing.T) {
	a, b, c := wordPart("a"), wordPart("b"), wordPart("c")
	for why, l := range map[string][2][]impl.Part{
		"a word":                           {{a}, {a}},
		"a not":                            {{a, notPart(0)}, {a, notPart(0)}},
		"a not of a not":                   {{a, notPart(0), notPart(1)}, {a}},
		"three nots":                       {{a, notPart(0), notPart(1), notPart(2)}, {a, notPart(0)}},
		"an and under a not":               {{a, b, andPart(0, 1), notPart(2)}, {a, notPart(0), b, notPart(2), orPart(1, 3)}},
		"an or under a not":                {{a, b, orPart(0, 1), notPart(2)}, {a, notPart(0), b, notPart(2), andPart(1, 3)}},
		"an and under two nots":            {{a, b, andPart(0, 1), notPart(2), notPart(3)}, {a, b, andPart(0, 1)}},
		"an or under three nots":           {{a, b, orPart(1, 0), notPart(2), notPart(3), notPart(4)}, {b, notPart(0), a, notPart(2), andPart(1, 3)}},
		"a not of an and with a not":       {{a, notPart(0), b, andPart(1, 2), notPart(3)}, {a, b, notPart(1), orPart(0, 2)}},
		"B ahead of A":                     {{a, b, andPart(1, 0)}, {b, a, andPart(0, 1)}},
		"a word that is named twice":       {{a, andPart(0, 0)}, {a, a, andPart(0, 1)}},
		"a not that is named twice":        {{a, notPart(0), orPart(1, 1)}, {a, notPart(0), a, notPart(2), orPart(1, 3)}},
		"a word and its own not":           {{a, notPart(0), andPart(0, 1)}, {a, a, notPart(1), andPart(0, 2)}},
		"an and, and a not of it":          {{a, b, andPart(0, 1), notPart(2), orPart(3, 2)}, {a, notPart(0), b, notPart(2), orPart(1, 3), a, b, andPart(5, 6), orPart(4, 7)}},
		"a part that the whole has not":    {{a, b, c, andPart(0, 2)}, {a, c, andPart(0, 1)}},
		"a not that the whole has not":     {{a, notPart(0), andPart(0, 1), b}, {b}},
		"a whole that is a word again":     {{a, b, andPart(0, 1), a}, {a}},
		"an or in an and, both under nots": {{a, b, c, orPart(1, 2), andPart(0, 3), notPart(4)}, {a, notPart(0), b, notPart(2), c, notPart(4), andPart(3, 5), orPart(1, 6)}},
		"a not in the midst":               {{a, b, orPart(0, 1), notPart(2), c, andPart(3, 4)}, {a, notPart(0), b, notPart(2), andPart(1, 3), c, andPart(4, 5)}},
	} {
		q, want := l[0], l[1]
		if got, ok := impl.InwardNots(q); !ok || !slices.Equal(got, want) {
			t.Errorf("%s: InwardNots(%v) = %v, %v; want %v", why, q, got, ok, want)
		}
		checkQuery(t, q)
		checkQuery(t, want)
		// What is inward already, and written as the document has it, stays.
		if got, ok := impl.InwardNots(want); !ok || !slices.Equal(got, want) {
			t.Errorf("%s: InwardNots(%v) = %v, %v", why, want, got, ok)
		}
	}
}

// longQuery is an and, or an or, of twelve words, of which some have more parts above them: 23 parts and these.
func longQuery(kind int, above ...impl.Part) []impl.Part {
	q := []impl.Part{wordPart("a"), wordPart("b"), {Kind: kind, B: 1}}
	for _, p := range above {
		p.A = len(q) - 1
		q = append(q, p)
	}
	for k := range 10 {
		at := len(q) - 1
		q = append(q, wordPart(letters[k%5:k%5+1]), impl.Part{Kind: kind, A: at, B: at + 1})
	}
	return q
}

func TestInwardNotsUpToMaxParts(t *testing.T) {
	for _, kind := range []int{impl.QuAnd, impl.QuOr} {
		plain := longQuery(kind)
		if l, ok := impl.InwardNots(plain); !ok || !slices.Equal(l, plain) || len(l) != mostParts-1 {
			t.Errorf("InwardNots(%v) = %v, %v", plain, l, ok)
		}
		// A not of one word: just MaxParts.
		just := []impl.Part{wordPart("a"), notPart(0)}
		for k := range 11 {
			just = append(just, wordPart(letters[k%5:k%5+1]), impl.Part{Kind: kind, A: 2*k + 1, B: 2*k + 2})
		}
		if l, ok := impl.InwardNots(just); !ok || !slices.Equal(l, just) || len(l) != mostParts {
			t.Errorf("InwardNots(%v) = %v, %v", just, l, ok)
		}
		checkQuery(t, just)
		// A not of two words: one more than MaxParts.
		beyond := longQuery(kind, notPart(0))
		if l, ok := impl.InwardNots(beyond); ok || len(l) != 0 || len(beyond) != mostParts || slowInwardSize(beyond) != mostParts+1 {
			t.Errorf("InwardNots(%v) = %v, %v", beyond, l, ok)
		}
		checkQuery(t, beyond)
		// A not of all.
		all := append(slices.Clone(plain), notPart(len(plain)-1))
		if l, ok := impl.InwardNots(all); ok || len(l) != 0 {
			t.Errorf("InwardNots(%v) = %v, %v", all, l, ok)
		}
		checkQuery(t, all)
	}
}

// Each part names the one ahead twice, so that the answer would be twice as long each time.
func TestInwardNotsOfPartsThatAreNamedTwice(t *testing.T) {
	for _, kinds := range [][]int{{impl.QuAnd}, {impl.QuOr}, {impl.QuAnd, impl.QuOr}, {impl.QuAnd, impl.QuNot}, {impl.QuNot, impl.QuOr}, {impl.QuNot, impl.QuNot, impl.QuNot, impl.QuAnd}} {
		q := []impl.Part{wordPart("a")}
		for at := range mostParts - 1 {
			kind := kinds[at%len(kinds)]
			p := impl.Part{Kind: kind, A: at, B: at}
			if kind == impl.QuNot {
				p.B = 0
			}
			q = append(q, p)
			checkQuery(t, q)
		}
		// The answer is given up early: written to its end it would take hours to be asked for as often.
		for range 10000 {
			if l, ok := impl.InwardNots(q); ok || len(l) != 0 {
				t.Fatalf("InwardNots(%v) = %v, %v", q, l, ok)
			}
		}
	}
	for nots := range mostParts {
		q := []impl.Part{wordPart("a")}
		for at := range nots {
			q = append(q, notPart(at))
		}
		want := q[:1+nots%2]
		if l, ok := impl.InwardNots(q); !ok || !slices.Equal(l, want) {
			t.Errorf("%d nots: %v, %v", nots, l, ok)
		}
		checkQuery(t, q)
	}
}

// oddTexts are words of no query, or not in the way that it has them.
func oddTexts() []string {
	l := append(badWords(), "other", "aab", "zzzzzzzzzzz", "rea")
	return slices.DeleteFunc(l, func(s string) bool { return len(s) > 1000 })
}

func TestQueriesHoldForJustTheirWords(t *testing.T) {
	source := rand.New(rand.NewSource(14))
	odd := oddTexts()
	for _, q := range someQueries() {
		words := slowWordsIn(q)
		for _, some := range choicesOf(words) {
			// In any order, twice, among others, and up to 60.
			mixed := append(slices.Clone(some), some...)
			for range 5 {
				mixed = append(mixed, odd[source.Intn(len(odd))])
			}
			source.Shuffle(len(mixed), func(i int, k int) { mixed[i], mixed[k] = mixed[k], mixed[i] })
			if checkHolds(t, q, mixed) != slowHolds(q, some) {
				t.Fatalf("%v holds for %q otherwise than for %q", q, mixed, some)
			}
			many := slices.Clone(some)
			for len(many) < mostHeld {
				many = append(many, odd[len(many)%len(odd)])
			}
			source.Shuffle(len(many), func(i int, k int) { many[i], many[k] = many[k], many[i] })
			if checkHolds(t, q, many) != slowHolds(q, some) {
				t.Fatalf("%v holds for 60 texts otherwise than for %q", q, some)
			}
			if is, ok := impl.HoldsFor(q, append(many, "more")); is || ok {
				t.Fatalf("HoldsFor(%v, 61 texts) = %v, %v", q, is, ok)
			}
		}
		for _, word := range words {
			checkHolds(t, q, slices.Repeat([]string{word}, mostHeld))
		}
		checkHolds(t, q, nil)
		checkHolds(t, q, []string{})
		checkHolds(t, q, []string{""})
		checkHolds(t, q, []string{strings.Join(words, " "), strings.Join(words, "")})
		checkHolds(t, q, []string{strings.Repeat("a", 100000)})
	}
}

func TestSameQuery(t *testing.T) {
	source := rand.New(rand.NewSource(15))
	same, other, unlike := 0, 0, 0
	queries := someQueries()
	for i, a := range queries {
		for range 40 {
			b := queries[source.Intn(len(queries))]
			switch {
			case !slices.Equal(slowWordsIn(a), slowWordsIn(b)):
				unlike++
			case checkSame(t, a, b):
				same++
			default:
				other++
			}
			checkSame(t, a, b)
			checkSame(t, b, a)
		}
		if slices.Equal(slowWordsIn(a), slowWordsIn(queries[(i+1)%len(queries)])) {
			checkSame(t, a, queries[(i+1)%len(queries)])
		}
	}
	if same < 100 || other < 100 || unlike < 100 {
		t.Errorf("%d pairs hold for the same, %d do not, %d have other words", same, other, unlike)
	}
	a, b := wordPart("a"), wordPart("b")
	// The whole is alike, the words are not.
	for _, pair := range [][2][]impl.Part{{{a}, {b, a}}, {{a}, {b}}, {{a, b}, {b}}, {{a, b, andPart(0, 1)}, {a, wordPart("c"), andPart(0, 1)}}, {{a, notPart(0), andPart(0, 1)}, {b, notPart(0), andPart(0, 1)}}} {
		for range 2 {
			if is, ok := impl.SameQuery(pair[0], pair[1]); is || ok {
				t.Errorf("SameQuery(%v, %v) = %v, %v", pair[0], pair[1], is, ok)
			}
			pair[0], pair[1] = pair[1], pair[0]
		}
	}
	if is, ok := impl.SameQuery([]impl.Part{a, b, a}, []impl.Part{b, a}); !is || !ok {
		t.Error(is, ok)
	}
	if is, ok := impl.SameQuery([]impl.Part{a, b}, []impl.Part{b, a}); is || !ok {
		t.Error(is, ok)
	}
}

func TestDocsFor(t *testing.T) {
	source := rand.New(rand.NewSource(16))
	some, none, all := 0, 0, 0
	for _, docs := range someDocs() {
		pool := askedWords(docs)
		source.Shuffle(len(pool), func(i int, k int) { pool[i], pool[k] = pool[k], pool[i] })
		for words := 1; words <= mostWordsIn; words++ {
			for _, many := range []int{1, 2, 5, 12, mostParts} {
				switch checkDocsFor(t, docs, drawnQuery(source, many, pool[:words])) {
				case 0:
					none++
				case len(docs):
					all++
				default:
					some++
				}
			}
		}
		for _, q := range someQueries()[:7] {
			checkDocsFor(t, docs, q)
		}
	}
	if some < 500 || none < 500 || all < 500 {
		t.Error(some, none, all)
	}
	long := strings.Repeat("a", 13)
	docs := []string{long, long[1:], "", "1 2 3", strings.Repeat("b", mostDocText), strings.TrimSpace(strings.Repeat("a ", mostWords)), strings.Repeat(" ", mostDocText-1) + "A"}
	for q, want := range map[string][]int{long[1:]: {1}, "a": {5, 6}, "b": nil} {
		if l, ok := impl.DocsFor(docs, []impl.Part{wordPart(q)}); !ok || !slices.Equal(l, want) {
			t.Errorf("DocsFor %q: %v, %v", q, l, ok)
		}
	}
	full := slices.Repeat([]string{"Red sea"}, mostDocs)
	if l, ok := impl.DocsFor(full, []impl.Part{wordPart("sea")}); !ok || !slices.Equal(l, steppedList(0, mostDocs, 1)) {
		t.Error(l, ok)
	}
	if l, ok := impl.DocsFor(nil, []impl.Part{wordPart("sea"), notPart(0)}); !ok || len(l) != 0 {
		t.Error(l, ok)
	}
}

// Promise 19, from here on.

// noQuery asks that nothing is told of these parts.
func noQuery(t *testing.T, why string, q []impl.Part) {
	t.Helper()
	was := slices.Clone(q)
	if slowGoodQuery(q) || impl.GoodQuery(q) {
		t.Fatalf("%s: GoodQuery(%v) is %v", why, q, impl.GoodQuery(q))
	}
	if l, ok := impl.WordsIn(q); len(l) != 0 || ok {
		t.Fatalf("%s: WordsIn(%v) = %q, %v", why, q, l, ok)
	}
	for _, words := range [][]string{nil, {"a"}, {"red", "blue"}, {""}, make([]string, mostHeld+1)} {
		if is, ok := impl.HoldsFor(q, words); is || ok {
			t.Fatalf("%s: HoldsFor(%v, %q) = %v, %v", why, q, words, is, ok)
		}
	}
	if l, ok := impl.InwardNots(q); len(l) != 0 || ok {
		t.Fatalf("%s: InwardNots(%v) = %v, %v", why, q, l, ok)
	}
	if l, ok := impl.TermsOf(q); len(l) != 0 || ok {
		t.Fatalf("%s: TermsOf(%v) = %v, %v", why, q, l, ok)
	}
	if l, ok := impl.PrimesOf(q); len(l) != 0 || ok {
		t.Fatalf("%s: PrimesOf(%v) = %v, %v", why, q, l, ok)
	}
	for _, other := range [][]impl.Part{q, {wordPart("a")}, {wordPart("red")}, nil} {
		if is, ok := impl.SameQuery(q, other); is || ok {
			t.Fatalf("%s: SameQuery(%v, %v) = %v, %v", why, q, other, is, ok)
		}
		if is, ok := impl.SameQuery(other, q); is || ok {
			t.Fatalf("%s: SameQuery(%v, %v) = %v, %v", why, other, q, is, ok)
		}
	}
	for _, docs := range [][]string{nil, {"red sea"}, {""}, make([]string, mostDocs+1)} {
		if l, ok := impl.DocsFor(docs, q); len(l) != 0 || ok {
			t.Fatalf("%s: DocsFor(%q, %v) = %v, %v", why, docs, q, l, ok)
		}
	}
	if !slices.Equal(q, was) {
		t.Fatalf("%s: %v is changed", why, was)
	}
}

// spoilPart changes one thing of a good part, so that it is good no more; none of these texts is a word.
func spoilPart(p impl.Part, at int, noWords []string, spoilt func(why string, p impl.Part)) {
	change := func(why string, set func(p *impl.Part)) {
		c := p
		set(&c)
		spoilt(why, c)
	}
	for _, n := range append(farNumbers(), -1, 0, 5, 6) {
		change("no kind", func(p *impl.Part) { p.Kind = n })
	}
	beyond := append(farNumbers(), -1, at, at+1, at+2, mostParts)
	if p.Kind == impl.QuWord {
		for _, word := range noWords {
			change("no word", func(p *impl.Part) { p.Word = word })
		}
		beyond = append(farNumbers(), -1, 1, 2)
	} else {
		for _, word := range []string{"a", "red", " ", "A", strings.Repeat("a", 13)} {
			change("a word in a part that is none", func(p *impl.Part) { p.Word = word })
		}
	}
	for _, n := range beyond {
		change("A beyond", func(p *impl.Part) { p.A = n })
	}
	if p.Kind == impl.QuNot {
		beyond = append(farNumbers(), -1, 1, 2, at)
	}
	for _, n := range beyond {
		change("B beyond", func(p *impl.Part) { p.B = n })
	}
}

// behindWords puts words ahead of all parts, which none names.
func behindWords(q []impl.Part, words ...string) []impl.Part {
	var l []impl.Part
	for _, word := range words {
		l = append(l, wordPart(word))
	}
	for _, p := range q {
		if p.Kind != impl.QuWord {
			p.A += len(words)
		}
		if p.Kind == impl.QuAnd || p.Kind == impl.QuOr {
			p.B += len(words)
		}
		l = append(l, p)
	}
	return l
}

func otherWords(many int) []string {
	return []string{"unnamed", "further", "more", "another", "beyond", "last"}[:many]
}

func TestQueriesWithOneThingChanged(t *testing.T) {
	for i, q := range someQueries() {
		noWords := badWords()
		if i > 10 {
			noWords = noWords[:20]
		}
		for at := range q {
			spoilPart(q[at], at, noWords, func(why string, p impl.Part) {
				c := slices.Clone(q)
				c[at] = p
				noQuery(t, why+" at "+strconv.Itoa(at), c)
			})
		}
		for _, p := range []impl.Part{notPart(0), andPart(0, 0), orPart(0, 0), {}} {
			c := slices.Clone(q)
			c[0] = p
			noQuery(t, "no word in front", c)
		}
		noQuery(t, "no part", q[:0])
		for _, p := range []impl.Part{wordPart(q[0].Word), notPart(0), andPart(0, 0), orPart(0, 0)} {
			long := append(slices.Clone(q), slices.Repeat([]impl.Part{p}, mostParts-len(q))...)
			checkQuery(t, long)
			noQuery(t, "one part more than MaxParts", append(long, p))
		}
	}
	noQuery(t, "no part", nil)
	noQuery(t, "a zero part", make([]impl.Part, 1))
	noQuery(t, "many zero parts", make([]impl.Part, mostParts))
	noQuery(t, "very many parts", slices.Repeat([]impl.Part{wordPart("a")}, 10000))
}

func TestQueriesOfMoreWords(t *testing.T) {
	for _, q := range someQueries() {
		free := mostWordsIn - len(slowWordsIn(q))
		if len(q)+free >= mostParts {
			continue
		}
		just := behindWords(q, otherWords(free)...)
		checkQuery(t, just)
		noQuery(t, "one unnamed word more than MaxWordsIn", behindWords(q, otherWords(free+1)...))
		noQuery(t, "one word more than MaxWordsIn, the whole", append(slices.Clone(just), wordPart("six")))
		noQuery(t, "one word more than MaxWordsIn, then named", append(slices.Clone(just), wordPart("six"), orPart(0, len(just))))
		checkQuery(t, append(slices.Clone(just), wordPart(q[0].Word)))
	}
	five := strings.Split(letters[:mostWordsIn], "")
	for at := range mostParts {
		q := behindWords([]impl.Part{wordPart("a")}, slices.Repeat(five, 5)[:mostParts-1]...)
		checkQuery(t, q)
		q[at].Word = "aa"
		noQuery(t, "a sixth word", q)
	}
}

// All small lists of parts, good and other ones.
func TestAllSmallParts(t *testing.T) {
	var parts []impl.Part
	for kind := -1; kind <= 5; kind++ {
		for _, word := range []string{"", "a", "b", "A"} {
			for a := -1; a <= 2; a++ {
				for b := -1; b <= 2; b++ {
					parts = append(parts, impl.Part{Kind: kind, Word: word, A: a, B: b})
				}
			}
		}
	}
	good := 0
	for _, p := range parts {
		for _, q := range [][]impl.Part{{p}, {wordPart("a"), p}, {wordPart("a"), notPart(0), p}, {p, wordPart("a")}} {
			if is := impl.GoodQuery(q); is != slowGoodQuery(q) {
				t.Fatalf("GoodQuery(%v) is %v", q, is)
			}
		}
		for _, next := range parts {
			q := []impl.Part{p, next}
			is := impl.GoodQuery(q)
			if is != slowGoodQuery(q) {
				t.Fatalf("GoodQuery(%v) is %v", q, is)
			}
			if is {
				good++
			}
		}
	}
	if good != 2*5 {
		t.Errorf("%d small queries are good", good)
	}
}

func TestTextsAndDocumentsOfQueriesThatAreNotAsSaid(t *testing.T) {
	queries := someQueries()
	for i, q := range queries {
		for _, size := range []int{mostHeld + 1, mostHeld + 2, 1000} {
			for _, word := range []string{"", q[0].Word, "other"} {
				if is, ok := impl.HoldsFor(q, slices.Repeat([]string{word}, size)); is || ok {
					t.Fatalf("HoldsFor(%v, %d texts) = %v, %v", q, size, is, ok)
				}
			}
		}
		if i%20 > 0 {
			continue
		}
		for why, docs := range badDocs() {
			was := slices.Clone(docs)
			if l, ok := impl.DocsFor(docs, q); len(l) != 0 || ok {
				t.Fatalf("%s: DocsFor(docs, %v) = %v, %v", why, q, l, ok)
			}
			if !slices.Equal(docs, was) {
				t.Fatalf("%s: the documents are changed", why)
			}
		}
	}
}

// spareQuery has parts behind its length that would change all.
func spareQuery(q []impl.Part) []impl.Part {
	return append(slices.Clone(q), notPart(len(q)-1), wordPart("behind"), impl.Part{Kind: 9, A: -1})[:len(q)]
}

func TestQueriesAreNotWrittenInto(t *testing.T) {
	for i, q := range someQueries() {
		spare := spareQuery(q)
		all := spare[:cap(spare)]
		was := slices.Clone(all)
		checkQuery(t, spare)
		checkSame(t, spare, spare)
		words := append(slices.Clone(slowWordsIn(q)), "other", q[0].Word, "behind")
		wordsWere := slices.Clone(words)
		for size := range words {
			checkHolds(t, spare, words[:size])
		}
		docs := []string{"A b c red blue sea", "", q[0].Word, "behind"}
		docsWere := slices.Clone(docs)
		for size := range docs {
			checkDocsFor(t, docs[:size], spare)
		}
		if i%10 == 0 {
			noQuery(t, "with what lies behind", all)
		}
		if !slices.Equal(all, was) || !slices.Equal(words, wordsWere) || !slices.Equal(docs, docsWere) {
			t.Fatalf("%v, or what lies behind, are changed", q)
		}
		if is, ok := impl.SameQuery(spare, q); !is || !ok {
			t.Fatalf("SameQuery(%v, itself) = %v, %v", q, is, ok)
		}
		checkSame(t, q, []impl.Part{wordPart("behind")})
	}
}

// spoilTerms writes into all memory of one term after the other, also behind its length, and asks that no other is changed by it.
func spoilTerms(t *testing.T, l [][]int) {
	t.Helper()
	was := slices.Clone(l)
	for i, term := range was {
		was[i] = slices.Clone(term)
	}
	for _, term := range l[len(l):cap(l)] {
		if term != nil {
			t.Fatalf("%v is handed out behind the length of %v", term, was)
		}
	}
	for i, term := range l {
		for _, n := range term[len(term):cap(term)] {
			if n != 0 {
				t.Fatalf("%d is handed out behind term %d of %v", n, i, was)
			}
		}
		l[i] = was[i]
		spoilNumbers(term)
		if !sameTerms(l, was) {
			t.Fatalf("term %d of %v shares memory with others", i, was)
		}
		l[i] = term
		copy(term, was[i])
	}
	for i := range l {
		spoilNumbers(l[i])
	}
	clear(l[:cap(l)])
}

func textsOfParts(q []impl.Part) []string {
	var l []string
	for _, p := range q {
		l = append(l, p.Word)
	}
	return l
}

// clonedQuery has texts of its own.
func clonedQuery(q []impl.Part) []impl.Part {
	c := slices.Clone(q)
	for i := range c {
		c[i].Word = strings.Clone(c[i].Word)
	}
	return c
}

func TestQueryAnswersAreNewMemory(t *testing.T) {
	for _, q := range someQueries() {
		given := clonedQuery(q)
		texts := textsOfParts(given)
		words, _ := impl.WordsIn(given)
		if shareTexts(words, texts) || slices.ContainsFunc(words[len(words):cap(words)], func(s string) bool { return s != "" }) {
			t.Fatalf("WordsIn(%v) hands out its texts", q)
		}
		overwrite(words)
		inward, _ := impl.InwardNots(given)
		if shareTexts(textsOfParts(inward), texts) {
			t.Fatalf("InwardNots(%v) hands out its texts", q)
		}
		for _, p := range inward[len(inward):cap(inward)] {
			if p != (impl.Part{}) {
				t.Fatalf("%v is handed out behind the length of InwardNots(%v)", p, q)
			}
		}
		for i := range inward[:cap(inward)] {
			inward[:cap(inward)][i] = impl.Part{Kind: -7, Word: "spoilt", A: -7, B: -7}
		}
		terms, _ := impl.TermsOf(given)
		primes, _ := impl.PrimesOf(given)
		spoilTerms(t, terms)
		if !sameTerms(primes, slowPrimes(q)) {
			t.Fatalf("two answers for %v share memory", q)
		}
		spoilTerms(t, primes)
		docs, _ := impl.DocsFor([]string{"", "a b c", "red", q[0].Word}, given)
		spoilNumbers(docs)
		if !slices.Equal(given, q) {
			t.Fatalf("an answer for %v shares memory with its argument", q)
		}
		checkQuery(t, given)
		words, _ = impl.WordsIn(given)
		inward, _ = impl.InwardNots(given)
		want, _ := slowInward(q)
		clear(given)
		if !slices.Equal(words, slowWordsIn(q)) || !slices.Equal(inward, want) {
			t.Fatalf("an answer for %v keeps its argument", q)
		}
	}
}

// The answers hang on the arguments alone, not on what was asked ahead.
func TestQueriesAnswerTheSameAgain(t *testing.T) {
	queries := someQueries()
	first := queries[2]
	for i, q := range queries {
		checkQuery(t, first)
		checkQuery(t, q)
		bad := slices.Clone(q)
		bad[0].Kind = impl.QuNot
		noQuery(t, "a not in front", bad)
		checkSame(t, first, queries[len(queries)-1-i])
	}
}
