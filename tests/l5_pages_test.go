package tests

import (
	"math"
	"math/rand"
	"runtime/debug"
	"slices"
	"sort"
	"strconv"
	"strings"
	"testing"
	"unsafe"

	"loop.example/g00537/impl"
)

const (
	mostPageKeys = 4
	mostTreeKeys = 40
	mostKeyText  = 12
)

func TestPageConstants(t *testing.T) {
	if impl.Most != mostPageKeys || impl.MaxKeys != mostTreeKeys {
		t.Fatal(impl.Most, impl.MaxKeys)
	}
}

// pagesOf reads a tree as these tests write it down: each page in brackets, its keys and kids in order. A key's value stands behind "=", and is else "v" and the key.
func pagesOf(text string) impl.Tree {
	var tree impl.Tree
	var open []int
	for _, word := range strings.Fields(strings.NewReplacer("(", " ( ", ")", " ) ").Replace(text)) {
		switch word {
		case "(":
			no := len(tree.Pages)
			if len(open) > 0 {
				above := &tree.Pages[open[len(open)-1]]
				above.Kids = append(above.Kids, no)
			}
			tree.Pages = append(tree.Pages, impl.Page{})
			open = append(open, no)
		case ")":
			open = open[:len(open)-1]
		default:
			key, val, told := strings.Cut(word, "=")
			if !told {
				val = "v" + key
			}
			p := &tree.Pages[open[len(open)-1]]
			p.Keys = append(p.Keys, key)
			p.Vals = append(p.Vals, val)
		}
	}
	return tree
}

func samePages(a impl.Tree, b impl.Tree) bool {
	return slices.EqualFunc(a.Pages, b.Pages, func(p impl.Page, q impl.Page) bool {
		return slices.Equal(p.Keys, q.Keys) && slices.Equal(p.Vals, q.Vals) && slices.Equal(p.Kids, q.Kids)
	})
}

func copyTree(tree impl.Tree) impl.Tree {
	var c impl.Tree
	for _, p := range tree.Pages {
		c.Pages = append(c.Pages, impl.Page{Keys: slices.Clone(p.Keys), Vals: slices.Clone(p.Vals), Kids: slices.Clone(p.Kids)})
	}
	return c
}

// sparePages is a copy of a tree each list of which, and of whose pages, has something behind its length; all is the whole memory.
func sparePages(tree impl.Tree) (impl.Tree, func() impl.Tree) {
	c := copyTree(tree)
	for i, p := range c.Pages {
		c.Pages[i].Keys = append(p.Keys, "behind", "more")[:len(p.Keys)]
		c.Pages[i].Vals = append(p.Vals, "behind", "more")[:len(p.Vals)]
		c.Pages[i].Kids = append(p.Kids, 1, 2)[:len(p.Kids)]
	}
	c.Pages = append(c.Pages, impl.Page{Keys: []string{"x", "y"}, Vals: []string{"1", "2"}})[:len(c.Pages)]
	return c, func() impl.Tree {
		var all impl.Tree
		for _, p := range c.Pages[:len(c.Pages)+1] {
			all.Pages = append(all.Pages, impl.Page{Keys: slices.Clone(p.Keys[:cap(p.Keys)]), Vals: slices.Clone(p.Vals[:cap(p.Vals)]), Kids: slices.Clone(p.Kids[:cap(p.Kids)])})
		}
		return all
	}
}

// plainPage is a page that is changed in its place, by one who holds the way down to it.
type plainPage struct {
	keys []string
	vals []string
	kids []*plainPage
}

func (p *plainPage) takeOut(k int) (string, string) {
	key, val := p.keys[k], p.vals[k]
	p.keys, p.vals = slices.Delete(p.keys, k, k+1), slices.Delete(p.vals, k, k+1)
	return key, val
}

func (p *plainPage) putIn(k int, key string, val string) {
	p.keys, p.vals = slices.Insert(p.keys, k, key), slices.Insert(p.vals, k, val)
}

// wayTo goes down to the page that has a key, or to the leaf that it belongs in; nos has which kid each next page is.
func (p *plainPage) wayTo(key string) (way []*plainPage, nos []int, at int, is bool) {
	for {
		way = append(way, p)
		at = sort.SearchStrings(p.keys, key)
		is = at < len(p.keys) && p.keys[at] == key
		if is || len(p.kids) == 0 {
			return way, nos, at, is
		}
		nos = append(nos, at)
		p = p.kids[at]
	}
}

// plainPut gives the whole, which may be a new one.
func plainPut(whole *plainPage, key string, val string) *plainPage {
	way, nos, at, is := whole.wayTo(key)
	p := way[len(way)-1]
	if is {
		p.vals[at] = val
		return whole
	}
	p.putIn(at, key, val)
	for i := len(way) - 1; i >= 0 && len(way[i].keys) == 5; i-- {
		p := way[i]
		next := &plainPage{keys: slices.Clone(p.keys[3:]), vals: slices.Clone(p.vals[3:])}
		if len(p.kids) > 0 {
			next.kids = slices.Clone(p.kids[3:])
			p.kids = p.kids[:3]
		}
		p.keys, p.vals = p.keys[:3], p.vals[:3]
		key, val := p.takeOut(2)
		if i == 0 {
			return &plainPage{keys: []string{key}, vals: []string{val}, kids: []*plainPage{p, next}}
		}
		way[i-1].putIn(nos[i-1], key, val)
		way[i-1].kids = slices.Insert(way[i-1].kids, nos[i-1]+1, next)
	}
	return whole
}

// plainDrop drops a key that is there.
func plainDrop(whole *plainPage, key string) *plainPage {
	way, nos, at, _ := whole.wayTo(key)
	p := way[len(way)-1]
	if len(p.kids) > 0 {
		has := p
		nos = append(nos, at)
		p = p.kids[at]
		way = append(way, p)
		for len(p.kids) > 0 {
			nos = append(nos, len(p.kids)-1)
			p = p.kids[len(p.kids)-1]
			way = append(way, p)
		}
		has.keys[at], has.vals[at] = p.takeOut(len(p.keys) - 1)
	} else {
		p.takeOut(at)
	}
	for i := len(way) - 1; i > 0 && len(way[i].keys) == 1; i-- {
		plainFill(way[i-1], nos[i-1])
	}
	if len(whole.keys) == 0 && len(whole.kids) == 1 {
		return whole.kids[0]
	}
	return whole
}

func plainFill(above *plainPage, k int) {
	p := above.kids[k]
	if k > 0 && len(above.kids[k-1].keys) > 2 {
		from := above.kids[k-1]
		p.putIn(0, above.keys[k-1], above.vals[k-1])
		above.keys[k-1], above.vals[k-1] = from.takeOut(len(from.keys) - 1)
		if n := len(from.kids); n > 0 {
			p.kids = append([]*plainPage{from.kids[n-1]}, p.kids...)
			from.kids = from.kids[:n-1]
		}
		return
	}
	if k+1 < len(above.kids) && len(above.kids[k+1].keys) > 2 {
		from := above.kids[k+1]
		p.putIn(len(p.keys), above.keys[k], above.vals[k])
		above.keys[k], above.vals[k] = from.takeOut(0)
		if len(from.kids) > 0 {
			p.kids = append(p.kids, from.kids[0])
			from.kids = from.kids[1:]
		}
		return
	}
	if k+1 == len(above.kids) {
		k--
	}
	a, b := above.kids[k], above.kids[k+1]
	key, val := above.takeOut(k)
	above.kids = slices.Delete(above.kids, k+1, k+2)
	a.keys = append(append(a.keys, key), b.keys...)
	a.vals = append(append(a.vals, val), b.vals...)
	a.kids = append(a.kids, b.kids...)
}

// plainTree writes a page and all within as these tests write trees down, and reads that.
func plainTree(whole *plainPage) impl.Tree {
	var b strings.Builder
	var write func(p *plainPage)
	write = func(p *plainPage) {
		b.WriteString("(")
		for i := 0; i <= len(p.keys); i++ {
			if len(p.kids) > 0 {
				write(p.kids[i])
			}
			if i < len(p.keys) {
				b.WriteString(" " + p.keys[i] + "=" + p.vals[i] + " ")
			}
		}
		b.WriteString(")")
	}
	write(whole)
	return pagesOf(b.String())
}

// slowGoodTree asks for one thing after the other that the document says of a good tree.
func slowGoodTree(tree impl.Tree) bool {
	pages := tree.Pages
	if len(pages) == 0 {
		return false
	}
	above := make([]int, len(pages))
	for i := range above {
		above[i] = -1
	}
	many := 0
	for i, p := range pages {
		if len(p.Keys) > 4 || len(p.Vals) != len(p.Keys) || len(p.Kids) != 0 && len(p.Kids) != len(p.Keys)+1 {
			return false
		}
		if i > 0 && len(p.Keys) < 2 || i == 0 && len(p.Keys) == 0 && len(p.Kids) != 0 {
			return false
		}
		for k := range p.Keys {
			if len(p.Keys[k]) < 1 || len(p.Keys[k]) > 12 || len(p.Vals[k]) > 12 || k > 0 && p.Keys[k-1] >= p.Keys[k] {
				return false
			}
		}
		many += len(p.Keys)
		for _, kid := range p.Kids {
			if kid <= i || kid >= len(pages) || above[kid] >= 0 {
				return false
			}
			above[kid] = i
		}
	}
	for i := 1; i < len(pages); i++ {
		if above[i] < 0 {
			return false
		}
	}
	return many <= 40 && slowOrder(pages) && slowDepths(pages, above) && slowBetween(pages, 0, "", "")
}

// slowOrder follows the kids from the first page on, and asks that this meets the pages as they stand.
func slowOrder(pages []impl.Page) bool {
	work := []int{0}
	for i := 0; i < len(pages); i++ {
		if len(work) == 0 || work[len(work)-1] != i {
			return false
		}
		work = work[:len(work)-1]
		kids := slices.Clone(pages[i].Kids)
		slices.Reverse(kids)
		work = append(work, kids...)
	}
	return true
}

// slowDepths goes from each leaf up.
func slowDepths(pages []impl.Page, above []int) bool {
	first := 0
	for i, p := range pages {
		if len(p.Kids) > 0 {
			continue
		}
		depth := 1
		for up := above[i]; up >= 0; up = above[up] {
			depth++
		}
		if first == 0 {
			first = depth
		}
		if depth != first {
			return false
		}
	}
	return true
}

// slowBetween asks whether all keys within a page are between two others, none for an empty one.
func slowBetween(pages []impl.Page, no int, low string, high string) bool {
	p := pages[no]
	for _, key := range p.Keys {
		if key <= low || high != "" && key >= high {
			return false
		}
	}
	for k, kid := range p.Kids {
		from, to := low, high
		if k > 0 {
			from = p.Keys[k-1]
		}
		if k < len(p.Keys) {
			to = p.Keys[k]
		}
		if !slowBetween(pages, kid, from, to) {
			return false
		}
	}
	return true
}

func mustPut(t *testing.T, tree impl.Tree, key string, val string) impl.Tree {
	t.Helper()
	next, ok := impl.PutKey(tree, key, val)
	if !ok {
		t.Fatalf("PutKey(%v, %q, %q) is false", tree, key, val)
	}
	return next
}

func mustDrop(t *testing.T, tree impl.Tree, key string) impl.Tree {
	t.Helper()
	next, ok := impl.DropKey(tree, key)
	if !ok {
		t.Fatalf("DropKey(%v, %q) is false", tree, key)
	}
	return next
}

// checkTree holds a tree against what must be in it, and asks for other keys, too.
func checkTree(t *testing.T, tree impl.Tree, has map[string]string, others []string) {
	t.Helper()
	if !impl.GoodTree(tree) || !slowGoodTree(tree) {
		t.Fatalf("the tree is not good: %v, by GoodTree %v", tree, impl.GoodTree(tree))
	}
	var want []string
	for key, val := range has {
		want = append(want, key)
		if got, ok := impl.GetKey(tree, key); got != val || !ok {
			t.Fatalf("GetKey(%v, %q) = %q, %v, want %q", tree, key, got, ok, val)
		}
	}
	for _, key := range others {
		if _, is := has[key]; is {
			continue
		}
		if got, ok := impl.GetKey(tree, key); got != "" || ok {
			t.Fatalf("GetKey(%v, %q) = %q, %v, but it is not there", tree, key, got, ok)
		}
	}
	slices.Sort(want)
	if got, ok := impl.KeysIn(tree); !slices.Equal(got, want) || !ok {
		t.Fatalf("KeysIn(%v) = %q, %v, want %q", tree, got, ok, want)
	}
	checkDepth(t, tree, len(has))
}

// checkDepth counts along the first kids, as slowGoodTree tells that all leaves are equally deep.
func checkDepth(t *testing.T, tree impl.Tree, keys int) {
	t.Helper()
	want := 1
	for p := tree.Pages[0]; len(p.Kids) > 0; p = tree.Pages[p.Kids[0]] {
		want++
	}
	depth, ok := impl.DepthOf(tree)
	if depth != want || !ok {
		t.Fatalf("DepthOf(%v) = %d, %v, want %d", tree, depth, ok, want)
	}
	if keys == 0 && depth != 1 || keys > 0 && depth > keys {
		t.Fatalf("%d pages deep, of %d keys", depth, keys)
	}
	if least := []int{0, 0, 5, 17}; depth >= len(least) || keys < least[depth] {
		t.Fatalf("%d pages deep, of only %d keys", depth, keys)
	}
}

// treeKeys has keys of all lengths, of bytes 0 and 255, and beginnings of one another; rising.
func treeKeys(many int) []string {
	l := []string{"\x00", "\x00\x00", "\x00\xff", "\xff", "\xff\x00", strings.Repeat("\xff", 12), strings.Repeat("\x00", 12), "a", "ab", "abc", "twelve bytes", "twelve byte", "\u00e9", " ", "A", "a\x00", "a\xff"}
	for i := 0; len(l) < many; i++ {
		l = append(l, sampleText(1+i%12, uint32(i+7)))
		slices.Sort(l)
		l = slices.Compact(l)
	}
	slices.Sort(l)
	return l[:many]
}

// plainKeys are rising, of letters and digits alone.
func plainKeys(many int) []string {
	var l []string
	for i := range many {
		l = append(l, "k"+strconv.Itoa(100+i))
	}
	return l
}

// keyOrders has orders in which keys come or go.
func keyOrders(keys []string) [][]string {
	falling := slices.Clone(keys)
	slices.Reverse(falling)
	var ends, middle []string
	for i := range keys {
		if i%2 == 0 {
			ends = append(ends, keys[i/2])
		} else {
			ends = append(ends, keys[len(keys)-1-i/2])
		}
	}
	middle = slices.Clone(ends)
	slices.Reverse(middle)
	l := [][]string{keys, falling, ends, middle}
	source := rand.New(rand.NewSource(5))
	for range 4 {
		mixed := slices.Clone(keys)
		source.Shuffle(len(mixed), func(i int, j int) { mixed[i], mixed[j] = mixed[j], mixed[i] })
		l = append(l, mixed)
	}
	return l
}

func emptyTree(t *testing.T) impl.Tree {
	t.Helper()
	tree, ok := impl.BuildTree(nil, nil)
	if !ok || !samePages(tree, pagesOf("()")) {
		t.Fatalf("BuildTree of no keys = %v, %v", tree, ok)
	}
	return tree
}

func valueOf(key string, n int) string {
	return strings.Repeat(string(rune('a'+n%26)), (len(key)+n)%13)
}

// Promise 5: up to MaxKeys keys and down to none, in each order.
func TestWhatIsPutIsThereAndWhatIsDroppedIsNot(t *testing.T) {
	keys := treeKeys(mostTreeKeys)
	asked := append(treeKeys(60), "", "no", "k", strings.Repeat("a", 13))
	for _, coming := range keyOrders(keys) {
		for _, going := range keyOrders(keys) {
			tree, has := emptyTree(t), map[string]string{}
			for i, key := range coming {
				has[key] = valueOf(key, i)
				tree = mustPut(t, tree, key, has[key])
				checkTree(t, tree, has, asked)
			}
			for _, key := range going {
				delete(has, key)
				tree = mustDrop(t, tree, key)
				checkTree(t, tree, has, asked)
			}
			if !samePages(tree, pagesOf("()")) {
				t.Fatalf("without keys the tree is %v", tree)
			}
		}
	}
}

// Promise 5, and the pages field by field, held against pages that are changed in their place.
func TestMixedRunsAgainstPlainPages(t *testing.T) {
	source := rand.New(rand.NewSource(55))
	for run := range 150 {
		keys := plainKeys(6 + source.Intn(60))
		tree, plain, has := emptyTree(t), &plainPage{}, map[string]string{}
		for step := range 160 {
			key := keys[source.Intn(len(keys))]
			_, is := has[key]
			putting := source.Intn(10) < []int{5, 7, 3}[(step/40+run)%3]
			if putting {
				val := strconv.Itoa(step)
				next, ok := impl.PutKey(tree, key, val)
				if room := is || len(has) < mostTreeKeys; ok != room {
					t.Fatalf("PutKey among %d keys = %v", len(has), ok)
				} else if !room {
					continue
				}
				tree, plain, has[key] = next, plainPut(plain, key, val), val
			} else if is {
				delete(has, key)
				tree, plain = mustDrop(t, tree, key), plainDrop(plain, key)
			} else if none, ok := impl.DropKey(tree, key); ok || len(none.Pages) != 0 {
				t.Fatalf("DropKey of a key that is not there = %v, %v", none, ok)
			}
			if want := plainTree(plain); !samePages(tree, want) {
				t.Fatalf("run %d step %d %q: %v, want %v", run, step, key, tree, want)
			}
			checkTree(t, tree, has, keys)
		}
	}
}

// Every key of trees of each size is dropped, and every other one put, so that each case is met at each place.
func TestEachKeyOfManyTreesAgainstPlainPages(t *testing.T) {
	keys := plainKeys(mostTreeKeys)
	for _, coming := range keyOrders(keys) {
		for many := 0; many <= mostTreeKeys; many++ {
			build := func() *plainPage {
				plain := &plainPage{}
				for _, key := range coming[:many] {
					plain = plainPut(plain, key, "v")
				}
				return plain
			}
			tree := plainTree(build())
			for k, key := range coming {
				if k < many {
					if want := plainTree(plainDrop(build(), key)); !samePages(mustDrop(t, tree, key), want) {
						t.Fatalf("DropKey(%v, %q), want %v", tree, key, want)
					}
				}
				if want := plainTree(plainPut(build(), key, "new")); !samePages(mustPut(t, tree, key, "new"), want) {
					t.Fatalf("PutKey(%v, %q), want %v", tree, key, want)
				}
			}
		}
	}
}

// pageStep is a tree, what is put or dropped, and the tree that comes of it.
type pageStep struct {
	what string
	tree string
	key  string
	want string
}

// put takes a key with its value behind "=", as pagesOf does.
func (s pageStep) put() (impl.Tree, bool) {
	pair := pagesOf("(" + s.key + ")").Pages[0]
	return impl.PutKey(pagesOf(s.tree), pair.Keys[0], pair.Vals[0])
}

func checkSteps(t *testing.T, steps []pageStep, do func(s pageStep) (impl.Tree, bool)) {
	t.Helper()
	for _, s := range steps {
		if !slowGoodTree(pagesOf(s.tree)) || !slowGoodTree(pagesOf(s.want)) {
			t.Errorf("%s: the test itself has a tree that is not good", s.what)
		}
		if !impl.GoodTree(pagesOf(s.tree)) {
			t.Errorf("%s: GoodTree(%s) is false", s.what, s.tree)
		}
		if got, ok := do(s); !ok || !samePages(got, pagesOf(s.want)) {
			t.Errorf("%s: %s and %s = %v, %v, want %s", s.what, s.tree, s.key, got, ok, s.want)
		}
	}
}

func TestPagesThatAKeyIsPutInto(t *testing.T) {
	checkSteps(t, []pageStep{
		{"the first key", "()", "a", "(a)"},
		{"at the front", "(b c)", "a", "(a b c)"},
		{"between", "(a c)", "b", "(a b c)"},
		{"at the end", "(a b c)", "d", "(a b c d)"},
		{"an empty value", "(a)", "b=", "(a b=)"},
		{"the whole leaf is full, at the end", "(a b c d)", "e", "((a b) c (d e))"},
		{"the whole leaf is full, at the front", "(b c d e)", "a", "((a b) c (d e))"},
		{"the whole leaf is full, the third", "(a b d e)", "c", "((a b) c (d e))"},
		{"the whole leaf is full, the second", "(a c d e)", "b", "((a b) c (d e))"},
		{"the whole leaf is full, the fourth", "(a b c e)", "d", "((a b) c (d e))"},
		{"into the first leaf", "((a b) d (e f))", "c", "((a b c) d (e f))"},
		{"into the last leaf", "((a b) d (e f))", "g", "((a b) d (e f g))"},
		{"right behind a key of the whole", "((a b) d (f g))", "e", "((a b) d (e f g))"},
		{"the first leaf is full", "((a b d e) g (h i))", "c", "((a b) c (d e) g (h i))"},
		{"the last leaf is full", "((a b) c (d e f g))", "h", "((a b) c (d e) f (g h))"},
		{"a leaf between is full", "((a b) c (d e f h) i (j k))", "g", "((a b) c (d e) f (g h) i (j k))"},
		{"the whole with kids is full, last leaf", "((a b) c (d e) f (g h) i (j k) l (m n o p))", "q", "(((a b) c (d e) f (g h)) i ((j k) l (m n) o (p q)))"},
		{"the whole with kids is full, first leaf", "((a b c d) f (g h) i (j k) l (m n) o (p q))", "e", "(((a b) c (d e) f (g h)) i ((j k) l (m n) o (p q)))"},
		{"the whole with kids is full, leaf in the middle", "((a b) c (d e) f (g h j k) l (m n) o (p q))", "i", "(((a b) c (d e) f (g h)) i ((j k) l (m n) o (p q)))"},
		{"the page within is full, the last", "(((a b) c (d e) f (g h)) i ((j k) l (m n) o (p q) r (s t) u (v w x y)))", "z", "(((a b) c (d e) f (g h)) i ((j k) l (m n) o (p q)) r ((s t) u (v w) x (y z)))"},
		{"the page within is full, the first", "(((a b c d) f (g h) i (j k) l (m n) o (p q)) r ((s t) u (v w) x (y z)))", "e", "(((a b) c (d e) f (g h)) i ((j k) l (m n) o (p q)) r ((s t) u (v w) x (y z)))"},
		{"the page within has room", "(((a b) c (d e) f (g h)) i ((j k) l (m n) o (p q r s)))", "t", "(((a b) c (d e) f (g h)) i ((j k) l (m n) o (p q) r (s t)))"},
	}, pageStep.put)
}

func TestKeyThatIsPutAgainChangesItsValueAlone(t *testing.T) {
	checkSteps(t, []pageStep{
		{"the only key", "(a)", "a=9", "(a=9)"},
		{"the same value", "(a b=9 c)", "b=9", "(a b=9 c)"},
		{"an empty value", "(a b)", "b=", "(a b=)"},
		{"in a full page", "(a b c d)", "d=9", "(a b c d=9)"},
		{"in the whole", "((a b) c (d e))", "c=9", "((a b) c=9 (d e))"},
		{"in a leaf", "((a b) c (d e f g))", "g=9", "((a b) c (d e f g=9))"},
		{"in a page within", "(((a b) c (d e) f (g h)) i ((j k) l (m n) o (p q)))", "o=9", "(((a b) c (d e) f (g h)) i ((j k) l (m n) o=9 (p q)))"},
	}, pageStep.put)
}

func TestPagesThatAKeyIsDroppedOutOf(t *testing.T) {
	drop := func(s pageStep) (impl.Tree, bool) { return impl.DropKey(pagesOf(s.tree), s.key) }
	low, three, more := "(((a b) c (d e) f (g h)) i ((j k) l (m n) o (p q)))", "(((a b) c (d e) f (g h)) i ((j k) l (m n) o (p q)) r ((s t) u (v w) x (y z)))", "(((a b) c (d e) f (g h) i (j k)) l ((m n) o (p q) r (s t)))"
	checkSteps(t, []pageStep{
		{"the only key", "(a)", "a", "()"},
		{"the first", "(a b c)", "a", "(b c)"},
		{"the second", "(a b c)", "b", "(a c)"},
		{"the last", "(a b c d)", "d", "(a b c)"},
		{"a leaf that has enough", "((a b c) d (e f))", "a", "((b c) d (e f))"},
		{"out of the whole, the leaf ahead has enough", "((a b c=7) d (e f))", "d", "((a b) c=7 (e f))"},
		{"out of the whole, the second key", "((a b) c (d e f) g (h i))", "g", "((a b) c (d e) f (h i))"},
		{"out of the whole, the leaf ahead takes from behind", "((a b) c (d e f))", "c", "((a b) d (e f))"},
		{"out of the whole, the leaf ahead is joined", "((a b) c (d e) f (g h))", "c", "((a b d e) f (g h))"},
		{"out of the whole, which goes", "((a b) c (d e))", "c", "(a b d e)"},
		{"from the leaf ahead", "((a b c) d (e f))", "e", "((a b) c (d f))"},
		{"from the leaf ahead, the last key of four", "((a b c d) e (f g))", "g", "((a b c) d (e f))"},
		{"from the leaf ahead, though the one behind has more", "((a b c) d (e f) g (h i j k))", "e", "((a b) c (d f) g (h i j k))"},
		{"from the leaf behind", "((a b) c (d e f))", "a", "((b c) d (e f))"},
		{"from the leaf behind, which has four", "((a b) c (d e f g))", "b", "((a c) d (e f g))"},
		{"from the leaf behind, the one ahead having two", "((a b) c (d e) f (g h i))", "d", "((a b) c (e f) g (h i))"},
		{"one page with the leaf behind, the first", "((a b) c (d e) f (g h))", "a", "((b c d e) f (g h))"},
		{"one page with the leaf behind, between", "((a b) c (d e) f (g h))", "d", "((a b) c (e f g h))"},
		{"one page with the leaf ahead, the last", "((a b) c (d e) f (g h))", "h", "((a b) c (d e f g))"},
		{"the whole goes for one leaf", "((a b) c (d e))", "e", "(a b c d)"},
		{"the whole goes for one leaf, of the first", "((a b) c (d e))", "a", "(b c d e)"},
		{"from the page ahead", more, "m", "(((a b) c (d e) f (g h)) i ((j k) l (n o p q) r (s t)))"},
		{"from the page ahead, though the one behind has more", "(((a b) c (d e) f (g h) i (j k)) l ((m n) o (p q) r (s t)) u ((v w) x (y z) za (zb zc) zd (ze zf)))", "m", "(((a b) c (d e) f (g h)) i ((j k) l (n o p q) r (s t)) u ((v w) x (y z) za (zb zc) zd (ze zf)))"},
		{"from the page behind", "(((a b) c (d e) f (g h)) i ((j k) l (m n) o (p q) r (s t)))", "a", "(((b c d e) f (g h) i (j k)) l ((m n) o (p q) r (s t)))"},
		{"one page with the page behind, the first", three, "a", "(((b c d e) f (g h) i (j k) l (m n) o (p q)) r ((s t) u (v w) x (y z)))"},
		{"one page with the page behind, between", three, "j", "(((a b) c (d e) f (g h)) i ((k l m n) o (p q) r (s t) u (v w) x (y z)))"},
		{"one page with the page ahead, the last", three, "z", "(((a b) c (d e) f (g h)) i ((j k) l (m n) o (p q) r (s t) u (v w x y)))"},
		{"the whole goes for one page", low, "q", "((a b) c (d e) f (g h) i (j k) l (m n o p))"},
		{"out of a page within", low, "c", "((a b d e) f (g h) i (j k) l (m n) o (p q))"},
		{"out of a page within that has enough", more, "f", "(((a b) c (d e g h) i (j k)) l ((m n) o (p q) r (s t)))"},
		{"out of a page within, the leaf ahead having enough", "(((a b) c (d e) f (g h)) i ((j k) l (m n o) p (q r)))", "p", "(((a b) c (d e) f (g h)) i ((j k) l (m n) o (q r)))"},
		{"out of the whole, two pages down", low, "i", "((a b) c (d e f g) h (j k) l (m n) o (p q))"},
		{"out of the whole, two pages down, the leaf having enough", "(((a b) c (d e) f (g h hh)) i ((j k) l (m n) o (p q)))", "i", "(((a b) c (d e) f (g h)) hh ((j k) l (m n) o (p q)))"},
		{"out of the whole, the page ahead having enough", more, "l", "(((a b) c (d e) f (g h i j)) k ((m n) o (p q) r (s t)))"},
	}, drop)
}

func TestNewTreeIsOnePage(t *testing.T) {
	for _, key := range []string{"a", "\x00", "\xff", "twelve bytes", strings.Repeat("\x00", 12)} {
		for _, val := range []string{"", "v", "\x00", "twelve bytes", strings.Repeat("\xff", 12)} {
			want := impl.Tree{Pages: []impl.Page{{Keys: []string{key}, Vals: []string{val}}}}
			if tree, ok := impl.NewTree(key, val); !ok || !samePages(tree, want) {
				t.Errorf("NewTree(%q, %q) = %v, %v", key, val, tree, ok)
			}
			checkTree(t, want, map[string]string{key: val}, []string{"", "b", key + "\x00", key[1:]})
		}
	}
}

func TestBuildTreeIsPutKeyOfEach(t *testing.T) {
	for _, all := range [][]string{treeKeys(mostTreeKeys), plainKeys(mostTreeKeys)} {
		tree, vals := emptyTree(t), []string(nil)
		for n := 0; n <= mostTreeKeys; n++ {
			if got, ok := impl.BuildTree(all[:n], vals); !ok || !samePages(got, tree) {
				t.Fatalf("BuildTree of %d keys = %v, %v, want %v", n, got, ok, tree)
			}
			if n < mostTreeKeys {
				vals = append(vals, valueOf(all[n], n))
				tree = mustPut(t, tree, all[n], vals[n])
			}
		}
	}
	keys := strings.Fields("a b c d e f g h i j k l m n o p q")
	vals := make([]string, len(keys))
	for i, key := range keys {
		vals[i] = "v" + key
	}
	if tree, ok := impl.BuildTree(keys, vals); !ok || !samePages(tree, pagesOf("(((a b) c (d e) f (g h)) i ((j k) l (m n) o (p q)))")) {
		t.Errorf("BuildTree of %q = %v, %v", keys, tree, ok)
	}
}

func TestBuildTreeThatIsNotAsSaid(t *testing.T) {
	many := plainKeys(mostTreeKeys + 1)
	long := strings.Repeat("a", 13)
	for i, c := range []struct{ keys, vals []string }{
		{[]string{"a"}, nil}, {nil, []string{"1"}}, {nil, []string{""}},
		{[]string{"a", "b"}, []string{"1"}}, {[]string{"a", "b"}, []string{"1", "2", "3"}},
		{[]string{"b", "a"}, []string{"1", "2"}}, {[]string{"a", "a"}, []string{"1", "1"}}, {[]string{"a", "a"}, []string{"1", "2"}},
		{[]string{"a", "c", "b"}, []string{"1", "2", "3"}}, {[]string{"a", "b", "a"}, []string{"1", "2", "3"}},
		{[]string{"ab", "a"}, []string{"1", "2"}}, {[]string{"a", "B"}, []string{"1", "2"}},
		{[]string{""}, []string{"1"}}, {[]string{"", "a"}, []string{"1", "2"}}, {[]string{"a", ""}, []string{"1", "2"}},
		{[]string{long}, []string{"1"}}, {[]string{"a", long}, []string{"1", "2"}}, {[]string{"a"}, []string{long}}, {[]string{"a", "b"}, []string{"1", long}},
		{many, many}, {make([]string, 100000), make([]string, 100000)}, {plainKeys(1000), plainKeys(1000)},
	} {
		if tree, ok := impl.BuildTree(c.keys, c.vals); ok || len(tree.Pages) != 0 {
			t.Errorf("BuildTree of bad lists %d = %v, %v", i, tree, ok)
		}
	}
	if _, ok := impl.BuildTree(many[:mostTreeKeys], many[:mostTreeKeys]); !ok {
		t.Error("BuildTree of MaxKeys keys is false")
	}
}

// A key more than MaxKeys is refused wherever it would come, while one that is there is put again, and dropped.
func TestTreeOfMaxKeys(t *testing.T) {
	keys := plainKeys(mostTreeKeys)
	for _, order := range keyOrders(keys) {
		tree := emptyTree(t)
		for _, key := range order {
			tree = mustPut(t, tree, key, "v")
		}
		was := copyTree(tree)
		for _, key := range append([]string{"a", "z", "k", "\x00", "twelve bytes"}, plainKeys(60)[mostTreeKeys:]...) {
			if none, ok := impl.PutKey(tree, key, ""); ok || len(none.Pages) != 0 {
				t.Fatalf("PutKey of a key more than MaxKeys = %v, %v", none, ok)
			}
		}
		for i, key := range keys {
			again := mustPut(t, tree, key, "new")
			if val, ok := impl.GetKey(again, key); val != "new" || !ok {
				t.Fatal(key, val, ok)
			}
			less := mustDrop(t, tree, key)
			more := mustPut(t, less, key+"+", strconv.Itoa(i))
			if l, ok := impl.KeysIn(more); !ok || len(l) != mostTreeKeys {
				t.Fatal(l, ok)
			}
		}
		if !samePages(tree, was) {
			t.Fatal("what was refused has changed the tree", tree)
		}
	}
}

// fullTree has more than forty keys, if many is so, in two pages deep below the whole.
func fullTree(many int) impl.Tree {
	plain := &plainPage{}
	for _, key := range plainKeys(many) {
		plain = plainPut(plain, key, "v")
	}
	return plainTree(plain)
}

// badTrees are not good for one reason each.
func badTrees() map[string]impl.Tree {
	l := map[string]impl.Tree{
		"no page":         {},
		"no page, no nil": {Pages: []impl.Page{}},
	}
	low, deep := "((a b) c (d e))", "(((a b) c (d e) f (g h)) i ((j k) l (m n) o (p q)))"
	for why, text := range map[string]string{
		"five keys in the whole":                                 "(a b c d e)",
		"five keys in a leaf":                                    "((a b) c (d e f g h))",
		"five keys in a whole with kids":                         "((a b) c (d e) f (g h) i (j k) l (m n) o (p q))",
		"one key in the first leaf":                              "((a) c (d e))",
		"one key in the last leaf":                               "((a b) c (d))",
		"no key in a leaf":                                       "((a b) c ())",
		"one key in a page within":                               "(((a b) c (d e)) i ((j k) l (m n) o (p q)))",
		"no key in a page within":                                "(((a b)) i ((j k) l (m n) o (p q)))",
		"a whole without keys that has a kid":                    "((a b))",
		"a whole without keys that has an empty kid":             "(())",
		"a whole without keys that has a page with kids":         "(((a b) c (d e)))",
		"alike keys of a page":                                   "(a a)",
		"falling keys of a page":                                 "(b a)",
		"alike last keys":                                        "(a b c c)",
		"falling keys of a whole with kids":                      "((a b) f (d e) c (g h))",
		"alike keys of a leaf":                                   "((a a) c (d e))",
		"a key of a leaf is that of the whole, ahead":            "((a c) c (d e))",
		"a key of a leaf is that of the whole, behind":           "((a b) c (c e))",
		"a key of the leaf ahead is greater":                     "((a cc) c (d e))",
		"a key of the leaf behind is less":                       "((a b) c (bb e))",
		"a key of the leaf between is too great":                 "((a b) c (d g) f (h i))",
		"leaves in each other's place":                           "((d e) c (a b))",
		"a key two pages down is greater than that of the whole": "(((a b) c (d e) f (g ii)) i ((j k) l (m n) o (p q)))",
		"a key two pages down is less than that of the whole":    "(((a b) c (d e) f (g h)) i ((hh k) l (m n) o (p q)))",
		"a key two pages down is that of the whole":              "(((a b) c (d e) f (g i)) i ((j k) l (m n) o (p q)))",
		"the first leaf is less deep":                            "((a b) c ((d e) f (g h) i (j k)))",
		"the last leaf is less deep":                             "(((a b) c (d e) f (g h)) i (j k))",
		"a leaf between is less deep":                            "(((a b) c (d e) f (g h)) i (j k) l ((m n) o (p q) r (s t)))",
		"the last leaf is deeper":                                "((a b) c (d e) f ((g h) i (j k) l (m n)))",
		"too few kids":                                           "((a b) c)",
		"too many kids":                                          "((a b) c (d e) (f g))",
		"too few kids of a page within":                          "(((a b) c (d e) f) i ((j k) l (m n) o (p q)))",
		"a key of 13 bytes":                                      "(aaaaaaaaaaaaa)",
		"a key of 13 bytes in a leaf":                            "((a b) c (d eeeeeeeeeeeee))",
		"a key of 13 bytes in the whole":                         "((a b) ccccccccccccc (d e))",
		"a value of 13 bytes":                                    "(a=aaaaaaaaaaaaa)",
		"a value of 13 bytes in a leaf":                          "((a b) c (d e=aaaaaaaaaaaaa))",
		"a value of 13 bytes in the whole":                       "((a b) c=aaaaaaaaaaaaa (d e))",
	} {
		l[why] = pagesOf(text)
	}
	edit := func(why string, text string, how func(tree *impl.Tree)) {
		tree := pagesOf(text)
		how(&tree)
		l[why] = tree
	}
	edit("an empty key", "(a b)", func(tree *impl.Tree) { tree.Pages[0].Keys[0] = "" })
	edit("an empty key alone", "(a)", func(tree *impl.Tree) { tree.Pages[0].Keys[0] = "" })
	edit("an empty key in a leaf", low, func(tree *impl.Tree) { tree.Pages[1].Keys[0] = "" })
	edit("a key of very many bytes", "(a b)", func(tree *impl.Tree) { tree.Pages[0].Keys[1] = strings.Repeat("z", 256+1) })
	edit("a value of very many bytes", "(a b)", func(tree *impl.Tree) { tree.Pages[0].Vals[1] = strings.Repeat("z", 256) })
	edit("too few values", "(a b)", func(tree *impl.Tree) { tree.Pages[0].Vals = tree.Pages[0].Vals[:1] })
	edit("no values", "(a)", func(tree *impl.Tree) { tree.Pages[0].Vals = nil })
	edit("too many values", "(a b)", func(tree *impl.Tree) { tree.Pages[0].Vals = append(tree.Pages[0].Vals, "") })
	edit("a value without a key", "()", func(tree *impl.Tree) { tree.Pages[0].Vals = []string{""} })
	edit("too few values in a leaf", low, func(tree *impl.Tree) { tree.Pages[2].Vals = tree.Pages[2].Vals[:1] })
	edit("too many values in a leaf", low, func(tree *impl.Tree) { tree.Pages[1].Vals = append(tree.Pages[1].Vals, "") })
	edit("very many values", low, func(tree *impl.Tree) { tree.Pages[1].Vals = make([]string, 258) })
	edit("very many kids", low, func(tree *impl.Tree) { tree.Pages[0].Kids = make([]int, 258) })
	edit("very many keys", "(a)", func(tree *impl.Tree) { tree.Pages[0] = impl.Page{Keys: plainKeys(260), Vals: plainKeys(260)} })
	edit("a kid of a whole without keys that is itself", "()", func(tree *impl.Tree) { tree.Pages[0].Kids = []int{0} })
	edit("a kid of a whole without keys that is no page", "()", func(tree *impl.Tree) { tree.Pages[0].Kids = []int{1} })
	edit("kids that are all the page itself", "(a b)", func(tree *impl.Tree) { tree.Pages[0].Kids = []int{0, 0, 0} })
	edit("kids that are no pages", "(a b)", func(tree *impl.Tree) { tree.Pages[0].Kids = []int{1, 2, 3} })
	edit("a kid told twice, the first", low, func(tree *impl.Tree) { tree.Pages[0].Kids = []int{1, 1} })
	edit("a kid told twice, the last", low, func(tree *impl.Tree) { tree.Pages[0].Kids = []int{2, 2} })
	edit("a kid told twice, and no page left over", low, func(tree *impl.Tree) { tree.Pages[0].Kids, tree.Pages = []int{1, 1}, tree.Pages[:2] })
	edit("the last page is missing", low, func(tree *impl.Tree) { tree.Pages = tree.Pages[:2] })
	edit("all kids are missing", low, func(tree *impl.Tree) { tree.Pages = tree.Pages[:1] })
	edit("a leaf that is no page's kid", "(a b)", func(tree *impl.Tree) { tree.Pages = append(tree.Pages, pagesOf("(c d)").Pages...) })
	edit("a leaf behind all that is no page's kid", low, func(tree *impl.Tree) { tree.Pages = append(tree.Pages, pagesOf("(f g)").Pages...) })
	edit("an empty page behind", low, func(tree *impl.Tree) { tree.Pages = append(tree.Pages, impl.Page{}) })
	edit("very many pages behind", low, func(tree *impl.Tree) { tree.Pages = append(tree.Pages, make([]impl.Page, 100000)...) })
	edit("two pages that are each other's kids", "(a b)", func(tree *impl.Tree) {
		tree.Pages = append(tree.Pages, impl.Page{Keys: []string{"x", "y"}, Vals: []string{"", ""}, Kids: []int{2, 2, 2}}, impl.Page{Keys: []string{"x", "y"}, Vals: []string{"", ""}, Kids: []int{1, 1, 1}})
	})
	edit("leaves in another order", low, func(tree *impl.Tree) {
		tree.Pages[0].Kids = []int{2, 1}
		tree.Pages[1], tree.Pages[2] = tree.Pages[2], tree.Pages[1]
	})
	edit("the pages one level after the other", deep, func(tree *impl.Tree) {
		p := tree.Pages
		tree.Pages = []impl.Page{p[0], p[1], p[5], p[2], p[3], p[4], p[6], p[7], p[8]}
		tree.Pages[0].Kids, tree.Pages[1].Kids, tree.Pages[2].Kids = []int{1, 2}, []int{3, 4, 5}, []int{6, 7, 8}
	})
	edit("the kids ahead of their page", low, func(tree *impl.Tree) {
		p := tree.Pages
		tree.Pages = []impl.Page{p[1], p[2], p[0]}
		tree.Pages[2].Kids = []int{0, 1}
	})
	edit("a page within whose kid is the whole", deep, func(tree *impl.Tree) { tree.Pages[5].Kids[0] = 0 })
	edit("a page within whose kid is itself", deep, func(tree *impl.Tree) { tree.Pages[5].Kids[0] = 5 })
	edit("a page within whose kid lies ahead", deep, func(tree *impl.Tree) { tree.Pages[5].Kids[0] = 2 })
	for _, no := range []int{-1, 0, 1, 3, 4, 256 + 2, 1<<32 + 2, math.MaxInt, math.MinInt, math.MinInt + 2} {
		edit("the second kid's number is "+strconv.Itoa(no), low, func(tree *impl.Tree) { tree.Pages[0].Kids[1] = no })
	}
	for _, no := range []int{-1, 0, 2, 3, 256 + 1, math.MaxInt, math.MinInt} {
		edit("the first kid's number is "+strconv.Itoa(no), low, func(tree *impl.Tree) { tree.Pages[0].Kids[0] = no })
	}
	for _, many := range []int{41, 42, 43, 60, 80, 200, 3000} {
		l["keys: "+strconv.Itoa(many)] = fullTree(many)
	}
	return l
}

// noneOf asks each function of the chapter for the zero answer at a tree that is not good.
func noneOf(t *testing.T, why string, tree impl.Tree) {
	t.Helper()
	if impl.GoodTree(tree) {
		t.Errorf("%s: GoodTree is true", why)
	}
	for _, key := range []string{"a", "b", "c", "e", "k100", "k140", "", "zz", "aaaaaaaaaaaaa"} {
		if val, ok := impl.GetKey(tree, key); val != "" || ok {
			t.Errorf("%s: GetKey of %q = %q, %v", why, key, val, ok)
		}
		if got, ok := impl.PutKey(tree, key, "1"); len(got.Pages) != 0 || ok {
			t.Errorf("%s: PutKey of %q = %v, %v", why, key, got, ok)
		}
		if got, ok := impl.DropKey(tree, key); len(got.Pages) != 0 || ok {
			t.Errorf("%s: DropKey of %q = %v, %v", why, key, got, ok)
		}
	}
	if l, ok := impl.KeysIn(tree); len(l) != 0 || ok {
		t.Errorf("%s: KeysIn = %q, %v", why, l, ok)
	}
	if n, ok := impl.DepthOf(tree); n != 0 || ok {
		t.Errorf("%s: DepthOf = %d, %v", why, n, ok)
	}
}

func TestTreesThatAreNotGood(t *testing.T) {
	for why, tree := range badTrees() {
		if slowGoodTree(tree) {
			t.Errorf("%s: the test itself has a good tree", why)
		}
		was := copyTree(tree)
		noneOf(t, why, tree)
		if !samePages(tree, was) {
			t.Errorf("%s: the tree is changed", why)
		}
	}
}

// Pages that are kids of one another without end are given up before the stack has grown.
func TestVeryDeepTreesThatAreNotGood(t *testing.T) {
	defer debug.SetMaxStack(debug.SetMaxStack(1 << 20))
	const many = 100000
	for _, kids := range []func(i int) []int{
		func(i int) []int { return []int{i + 1, i + 1, i + 1} },
		func(i int) []int { return []int{i + 1, many + 2*i, many + 2*i + 1} },
	} {
		var tree impl.Tree
		for i := range many {
			tree.Pages = append(tree.Pages, impl.Page{Keys: []string{"a", "b"}, Vals: []string{"", ""}, Kids: kids(i)})
		}
		noneOf(t, "very deep", tree)
	}
	one := impl.Tree{}
	for i := range many {
		one.Pages = append(one.Pages, impl.Page{Kids: []int{i + 1}})
	}
	noneOf(t, "very deep, without keys", one)
}

// goodTrees has edges met exactly: empty pages, pages of Most keys, MaxKeys keys, texts of 0, 1 and 12 bytes.
func goodTrees() []impl.Tree {
	twelve := strings.Repeat("m", 12)
	l := []impl.Tree{
		{Pages: []impl.Page{{}}},
		{Pages: []impl.Page{{Keys: []string{}, Vals: []string{}, Kids: []int{}}}},
		pagesOf("(a)"), pagesOf("(a b)"), pagesOf("(a b c d)"), pagesOf("(a= b=1)"),
		pagesOf("((a b) c (d e))"), pagesOf("((a b c d) e (f g h i))"), pagesOf("((a b) c (d e) f (g h) i (j k) l (m n))"),
		pagesOf("((a b) " + twelve + "=" + twelve + " (n o))"), pagesOf("(" + twelve + "=" + twelve + ")"),
		pagesOf("(((a b) c (d e) f (g h)) i ((j k) l (m n) o (p q)))"),
		{Pages: []impl.Page{{Keys: []string{"\x00", "\x00\x00", "\xff"}, Vals: []string{"\x00", "", "\xff"}}}},
	}
	for _, order := range keyOrders(plainKeys(mostTreeKeys)) {
		plain := &plainPage{}
		for _, key := range order {
			plain = plainPut(plain, key, "v")
		}
		l = append(l, plainTree(plain))
	}
	return append(l, fullTree(5), fullTree(17), fullTree(39))
}

func TestTreesThatAreGood(t *testing.T) {
	for i, tree := range goodTrees() {
		if !slowGoodTree(tree) {
			t.Errorf("the test itself has bad tree %d", i)
		}
		has := map[string]string{}
		for _, p := range tree.Pages {
			for k, key := range p.Keys {
				has[key] = p.Vals[k]
			}
		}
		checkTree(t, tree, has, []string{"", "aa", "x", "k", "k9999"})
	}
}

// GoodTree is held against the document's words at good trees with a few small faults, many of which leave them good.
func TestGoodTreeOfSpoiltTrees(t *testing.T) {
	source := rand.New(rand.NewSource(9))
	trees := goodTrees()
	good, bad := 0, 0
	for range 40000 {
		tree := copyTree(trees[source.Intn(len(trees))])
		for range 1 + source.Intn(2) {
			spoilTree(source, &tree)
		}
		want := slowGoodTree(tree)
		if got := impl.GoodTree(tree); got != want {
			t.Fatalf("GoodTree(%v) = %v", tree, got)
		}
		if want {
			good++
			continue
		}
		bad++
		if bad%10 == 0 {
			noneOf(t, "spoilt", tree)
		}
	}
	if good < 1000 || bad < 10000 {
		t.Errorf("%d good, %d bad trees", good, bad)
	}
}

func spoilTree(source *rand.Rand, tree *impl.Tree) {
	if len(tree.Pages) == 0 {
		return
	}
	no := source.Intn(len(tree.Pages))
	p := &tree.Pages[no]
	texts := []string{"", "a", "cc", "k1", "k115+", "k120", "zz", "twelve bytes", "thirteen byte"}
	text := texts[source.Intn(len(texts))]
	switch source.Intn(10) {
	case 0:
		if len(p.Keys) > 0 {
			p.Keys[source.Intn(len(p.Keys))] = text
		}
	case 1:
		if len(p.Vals) > 0 {
			p.Vals[source.Intn(len(p.Vals))] = text
		}
	case 2:
		if k := len(p.Keys); k > 0 {
			p.Keys, p.Vals = p.Keys[:k-1], p.Vals[:min(k-1, len(p.Vals))]
		}
	case 3:
		p.Keys, p.Vals = append(p.Keys, text), append(p.Vals, text)
	case 4:
		if len(p.Kids) > 0 {
			p.Kids[source.Intn(len(p.Kids))] += source.Intn(5) - 2
		}
	case 5:
		if k := len(p.Kids); k > 0 {
			p.Kids = p.Kids[:k-1]
		}
	case 6:
		p.Kids = append(p.Kids, len(tree.Pages)-source.Intn(2))
	case 7:
		tree.Pages = tree.Pages[:len(tree.Pages)-1]
	case 8:
		tree.Pages = append(tree.Pages, impl.Page{Keys: []string{text, text + "+"}, Vals: []string{"", ""}})
	case 9:
		other := source.Intn(len(tree.Pages))
		tree.Pages[no], tree.Pages[other] = tree.Pages[other], tree.Pages[no]
	}
}

// Promise 19, from here on.
func TestKeysAndValuesThatAreNotAsSaid(t *testing.T) {
	long := []string{strings.Repeat("a", 13), strings.Repeat("\x00", 13), strings.Repeat("k", 256+5), strings.Repeat("k", 100000)}
	for _, tree := range goodTrees() {
		was := copyTree(tree)
		for _, key := range append([]string{""}, long...) {
			if val, ok := impl.GetKey(tree, key); val != "" || ok {
				t.Errorf("GetKey of %d bytes = %q, %v", len(key), val, ok)
			}
			if got, ok := impl.PutKey(tree, key, "v"); len(got.Pages) != 0 || ok {
				t.Errorf("PutKey of %d bytes = %v, %v", len(key), got, ok)
			}
			if got, ok := impl.DropKey(tree, key); len(got.Pages) != 0 || ok {
				t.Errorf("DropKey of %d bytes = %v, %v", len(key), got, ok)
			}
			if got, ok := impl.NewTree(key, "v"); len(got.Pages) != 0 || ok {
				t.Errorf("NewTree of %d bytes = %v, %v", len(key), got, ok)
			}
		}
		for _, val := range long {
			for _, key := range []string{"a", "zz", "k100", ""} {
				if got, ok := impl.PutKey(tree, key, val); len(got.Pages) != 0 || ok {
					t.Errorf("PutKey of a value of %d bytes = %v, %v", len(val), got, ok)
				}
				if got, ok := impl.NewTree(key, val); len(got.Pages) != 0 || ok {
					t.Errorf("NewTree of a value of %d bytes = %v, %v", len(val), got, ok)
				}
			}
		}
		for _, key := range []string{"0", "aa", "k1", "k100+", "zz", "twelve bytes"} {
			if got, ok := impl.DropKey(tree, key); len(got.Pages) != 0 || ok {
				t.Errorf("DropKey of %q, which is not there = %v, %v", key, got, ok)
			}
		}
		if !samePages(tree, was) {
			t.Error("what is refused has changed a tree", tree)
		}
	}
}

// The lists of a tree have something behind their length, which is neither read nor written.
func TestPagesAreNotWrittenInto(t *testing.T) {
	for _, plain := range goodTrees() {
		tree, all := sparePages(plain)
		was := all()
		keys, _ := impl.KeysIn(plain)
		for _, key := range append([]string{"a", "aa", "k100+", "k120+", "zz"}, keys...) {
			next, ok := impl.PutKey(tree, key, "new")
			if want, wanted := impl.PutKey(plain, key, "new"); ok != wanted || !samePages(next, want) {
				t.Fatalf("PutKey(%v, %q) hangs on what lies behind its lists", plain, key)
			}
			next, ok = impl.DropKey(tree, key)
			if want, wanted := impl.DropKey(plain, key); ok != wanted || !samePages(next, want) {
				t.Fatalf("DropKey(%v, %q) hangs on what lies behind its lists", plain, key)
			}
			impl.GetKey(tree, key)
		}
		if got, ok := impl.KeysIn(tree); !slices.Equal(got, keys) || !ok || !impl.GoodTree(tree) {
			t.Fatalf("KeysIn(%v) = %q, %v", plain, got, ok)
		}
		impl.DepthOf(tree)
		if !samePages(all(), was) || !samePages(tree, plain) {
			t.Fatalf("a tree, or what lies behind its lists, is changed: %v, was %v", all(), was)
		}
	}
	keys, vals := plainKeys(mostTreeKeys+2), plainKeys(mostTreeKeys+2)
	for n := 0; n <= mostTreeKeys+2; n++ {
		tree, ok := impl.BuildTree(keys[:n], vals[:n])
		if ok != (n <= mostTreeKeys) {
			t.Errorf("BuildTree of the first %d = %v, %v", n, tree, ok)
		}
		if l, _ := impl.KeysIn(tree); ok && !slices.Equal(l, keys[:n]) {
			t.Errorf("BuildTree of the first %d has %q", n, l)
		}
	}
	if !slices.Equal(keys, plainKeys(mostTreeKeys+2)) || !slices.Equal(vals, keys) {
		t.Error("BuildTree has changed its lists")
	}
}

// textsOf are all texts of a tree.
func textsOf(tree impl.Tree) []string {
	var l []string
	for _, p := range tree.Pages {
		l = append(append(l, p.Keys...), p.Vals...)
	}
	return l
}

func shareTexts(a []string, b []string) bool {
	return slices.ContainsFunc(a, func(s string) bool {
		return slices.ContainsFunc(b, func(of string) bool { return liesIn(s, of) })
	})
}

// checkApart writes into all that each list of a tree has, page by page, and asks that no other list is changed by it.
func checkApart(t *testing.T, tree impl.Tree) {
	t.Helper()
	was := copyTree(tree)
	for i := range tree.Pages {
		p := &tree.Pages[i]
		overwrite(p.Keys)
		if !slices.Equal(p.Vals, was.Pages[i].Vals) {
			t.Fatalf("keys and values of page %d share memory", i)
		}
		p.Keys = was.Pages[i].Keys
		overwrite(p.Vals)
		p.Vals = was.Pages[i].Vals
		for k := range p.Kids[:cap(p.Kids)] {
			p.Kids[:cap(p.Kids)][k] = -7
		}
		p.Kids = was.Pages[i].Kids
		if !samePages(tree, was) {
			t.Fatalf("page %d shares memory with another one", i)
		}
	}
}

func TestPagesOfAnAnswerAreNewMemory(t *testing.T) {
	for _, plain := range goodTrees() {
		for _, step := range []struct {
			key  string
			drop bool
		}{{"a", false}, {"aa", false}, {"k100", false}, {"k120+", false}, {"a", true}, {"c", true}, {"k100", true}, {"k120", true}, {"k139", true}} {
			tree := impl.Tree{}
			for _, p := range plain.Pages {
				c := impl.Page{Kids: slices.Clone(p.Kids)}
				for k := range p.Keys {
					c.Keys, c.Vals = append(c.Keys, strings.Clone(p.Keys[k])), append(c.Vals, strings.Clone(p.Vals[k]))
				}
				tree.Pages = append(tree.Pages, c)
			}
			key, val := strings.Clone(step.key), strings.Clone("new")
			next, ok := impl.PutKey(tree, key, val)
			if step.drop {
				next, ok = impl.DropKey(tree, key)
			}
			if !ok {
				continue
			}
			if shareTexts(textsOf(next), append(textsOf(tree), key, val)) {
				t.Fatalf("a text of the answer is that of an argument: %v and %q", plain, key)
			}
			checkApart(t, next)
			next.Pages[0] = impl.Page{}
			if !samePages(tree, plain) {
				t.Fatalf("the answer shares lists with the tree: %v", plain)
			}
		}
	}
}

func TestTextsOfAnAnswerAreNewMemory(t *testing.T) {
	key, val := strings.Clone("key"), strings.Clone("val")
	tree, _ := impl.NewTree(key, val)
	if shareTexts(textsOf(tree), []string{key, val}) {
		t.Error("NewTree hands out its arguments")
	}
	checkApart(t, copyTree(tree))
	keys, vals := plainKeys(mostTreeKeys), plainKeys(mostTreeKeys)
	tree, _ = impl.BuildTree(keys, vals)
	if shareTexts(textsOf(tree), append(slices.Clone(keys), vals...)) {
		t.Error("BuildTree hands out its arguments")
	}
	got, ok := impl.GetKey(tree, "k107")
	if !ok || shareTexts([]string{got}, textsOf(tree)) {
		t.Error("GetKey hands out a text of the tree")
	}
	told, ok := impl.KeysIn(tree)
	if !ok || shareTexts(told, textsOf(tree)) {
		t.Error("KeysIn hands out texts of the tree")
	}
	for _, page := range []string{"()", "(a)", "(a b c d)"} {
		one := pagesOf(page)
		l, _ := impl.KeysIn(one)
		if len(l) > 0 && unsafe.SliceData(l) == unsafe.SliceData(one.Pages[0].Keys) {
			t.Error("KeysIn hands out the list of a page")
		}
		overwrite(l)
		if !samePages(one, pagesOf(page)) {
			t.Error("KeysIn shares memory with the tree")
		}
	}
	overwrite(told)
	if again, ok := impl.KeysIn(tree); !slices.Equal(again, keys) || !ok {
		t.Error("the keys are kept, and were changed from outside", again)
	}
	checkApart(t, tree)
}

// The answers hang on the arguments alone, not on what was asked ahead.
func TestPagesAnswerTheSameAgain(t *testing.T) {
	tree := pagesOf("((a b) c (d e) f (g h i j))")
	put, _ := impl.PutKey(tree, "k", "new")
	drop, _ := impl.DropKey(tree, "a")
	for _, other := range badTrees() {
		impl.PutKey(other, "k", "other")
		impl.DropKey(other, "a")
		again, ok := impl.PutKey(tree, "k", "new")
		if !ok || !samePages(again, put) {
			t.Fatalf("%v, then %v", put, again)
		}
		if again, ok = impl.DropKey(tree, "a"); !ok || !samePages(again, drop) {
			t.Fatalf("%v, then %v", drop, again)
		}
	}
}
