package tests

import (
	"math"
	"math/rand"
	"slices"
	"strings"
	"testing"

	"loop.example/g00537/impl"
)

const mostShownPages = 10

func sameShown(a impl.Shown, b impl.Shown) bool {
	return slices.Equal(a.Keys, b.Keys) && slices.Equal(a.Vals, b.Vals) && slices.Equal(a.Kids, b.Kids) && a.Go == b.Go
}

func sameWay(a []impl.Shown, b []impl.Shown) bool {
	return slices.EqualFunc(a, b, sameShown)
}

func copyShown(p impl.Shown) impl.Shown {
	return impl.Shown{Keys: slices.Clone(p.Keys), Vals: slices.Clone(p.Vals), Kids: slices.Clone(p.Kids), Go: p.Go}
}

func copyWay(l []impl.Shown) []impl.Shown {
	var c []impl.Shown
	for _, p := range l {
		c = append(c, copyShown(p))
	}
	return c
}

func isZeroShown(p impl.Shown) bool {
	return sameShown(p, impl.Shown{})
}

// slowGoodShown asks for one thing after the other that the document says of a good page.
func slowGoodShown(p impl.Shown) bool {
	n := len(p.Keys)
	if n > 4 || len(p.Vals) != n || len(p.Kids) != 0 && len(p.Kids) != n+1 || p.Go < 0 || p.Go > n {
		return false
	}
	for i := range n {
		if len(p.Keys[i]) == 0 || len(p.Keys[i]) > 12 || len(p.Vals[i]) > 12 {
			return false
		}
		for k := range i {
			if p.Keys[k] >= p.Keys[i] {
				return false
			}
		}
	}
	for _, kid := range p.Kids {
		if len(kid) != 4 {
			return false
		}
	}
	return true
}

func slowShownBytes(p impl.Shown) string {
	s := string([]byte{byte(len(p.Keys))})
	for i := range min(len(p.Keys), len(p.Vals)) {
		s += string([]byte{byte(len(p.Keys[i]))}) + p.Keys[i] + string([]byte{byte(len(p.Vals[i]))}) + p.Vals[i]
	}
	return s + string([]byte{byte(len(p.Kids))}) + strings.Join(p.Kids, "")
}

func slowPageDigest(p impl.Shown) string {
	return plainDigest('g', slowShownBytes(p))
}

// slowDigests goes over the pages from the last one on, as all kids stand behind their page.
func slowDigests(tree impl.Tree) []string {
	l := make([]string, len(tree.Pages))
	for no := len(l) - 1; no >= 0; no-- {
		l[no] = slowPageDigest(slowShown(tree, no, l))
	}
	return l
}

func slowShown(tree impl.Tree, no int, digests []string) impl.Shown {
	page := tree.Pages[no]
	p := impl.Shown{Keys: slices.Clone(page.Keys), Vals: slices.Clone(page.Vals)}
	for _, kid := range page.Kids {
		p.Kids = append(p.Kids, digests[kid])
	}
	return p
}

func slowLess(keys []string, key string) int {
	n := 0
	for _, other := range keys {
		if other < key {
			n++
		}
	}
	return n
}

func slowProve(tree impl.Tree, key string) []impl.Shown {
	digests := slowDigests(tree)
	var l []impl.Shown
	for no := 0; ; {
		p := slowShown(tree, no, digests)
		p.Go = slowLess(p.Keys, key)
		l = append(l, p)
		if slices.Contains(p.Keys, key) || len(p.Kids) == 0 {
			return l
		}
		no = tree.Pages[no].Kids[p.Go]
	}
}

// slowCheck asks for one thing after the other that the document says of a proof.
func slowCheck(root string, key string, l []impl.Shown) (string, bool, bool) {
	if len(root) != 4 || len(key) < 1 || len(key) > 12 || len(l) < 1 || len(l) > 10 {
		return "", false, false
	}
	for i, p := range l {
		if !slowGoodShown(p) || p.Go != slowLess(p.Keys, key) {
			return "", false, false
		}
		if i == 0 && slowPageDigest(p) != root {
			return "", false, false
		}
		if i > 0 && slowPageDigest(p) != l[i-1].Kids[l[i-1].Go] {
			return "", false, false
		}
		if i < len(l)-1 && (len(p.Kids) == 0 || slices.Contains(p.Keys, key)) {
			return "", false, false
		}
	}
	last := l[len(l)-1]
	if k := slices.Index(last.Keys, key); k >= 0 {
		return last.Vals[k], true, true
	}
	return "", false, len(last.Kids) == 0
}

func mustRoot(t *testing.T, tree impl.Tree) string {
	t.Helper()
	root, ok := impl.RootOf(tree)
	if !ok || len(root) != 4 {
		t.Fatalf("RootOf(%v) = %x, %v", tree, root, ok)
	}
	return root
}

func mustProve(t *testing.T, tree impl.Tree, key string) []impl.Shown {
	t.Helper()
	l, ok := impl.ProveKey(tree, key)
	if !ok {
		t.Fatalf("ProveKey(%v, %q) is false", tree, key)
	}
	return l
}

func mustPageDigest(t *testing.T, p impl.Shown) string {
	t.Helper()
	d, ok := impl.PageDigest(p)
	if !ok || len(d) != 4 {
		t.Fatalf("PageDigest(%#v) = %x, %v", p, d, ok)
	}
	return d
}

// checkProof holds CheckKey against what must be told, and against the document's words.
func checkProof(t *testing.T, root string, key string, l []impl.Shown, val string, is bool, ok bool) {
	t.Helper()
	gotVal, gotIs, gotOk := impl.CheckKey(root, key, l)
	if gotVal != val || gotIs != is || gotOk != ok {
		t.Fatalf("CheckKey(%x, %q, %#v) = %q, %v, %v, want %q, %v, %v", root, key, l, gotVal, gotIs, gotOk, val, is, ok)
	}
	if slowVal, slowIs, slowOk := slowCheck(root, key, l); slowVal != val || slowIs != is || slowOk != ok {
		t.Fatalf("the test itself is wrong: %x, %q, %#v: %q, %v, %v, but wants %q, %v, %v", root, key, l, slowVal, slowIs, slowOk, val, is, ok)
	}
}

// refused asks CheckKey for the zero answer.
func refused(t *testing.T, why string, root string, key string, l []impl.Shown) {
	t.Helper()
	if val, is, ok := impl.CheckKey(root, key, l); val != "" || is || ok {
		t.Errorf("%s: CheckKey(%x, %q, %#v) = %q, %v, %v", why, root, key, l, val, is, ok)
	}
	if _, _, ok := slowCheck(root, key, l); ok {
		t.Errorf("%s: the test itself has a good proof", why)
	}
}

// proofTrees are all of goodTrees, trees of each number of keys, and trees out of which keys were dropped.
func proofTrees(t *testing.T) []impl.Tree {
	t.Helper()
	l := goodTrees()
	for _, keys := range [][]string{treeKeys(mostTreeKeys), plainKeys(mostTreeKeys)} {
		for many := 0; many <= mostTreeKeys; many++ {
			var vals []string
			for i, key := range keys[:many] {
				vals = append(vals, valueOf(key, i))
			}
			tree, ok := impl.BuildTree(keys[:many], vals)
			if !ok {
				t.Fatal("BuildTree", many)
			}
			l = append(l, tree)
		}
		full := l[len(l)-1]
		for _, going := range keyOrders(keys)[4:6] {
			tree := full
			for _, key := range going {
				tree = mustDrop(t, tree, key)
				l = append(l, tree)
			}
		}
	}
	return l
}

// askedKeys are all keys of a tree, some ahead of each and behind each, the least and the greatest ones.
func askedKeys(tree impl.Tree) []string {
	l := []string{"\x00", strings.Repeat("\xff", 12), "a", "twelve bytes", "k", "zz"}
	for _, p := range tree.Pages {
		for _, key := range p.Keys {
			l = append(l, key, key[:len(key)-1]+string([]byte{key[len(key)-1] - 1}), key[:len(key)-1]+string([]byte{key[len(key)-1] + 1}))
			if len(key) > 1 {
				l = append(l, key[:len(key)-1])
			}
			if len(key) < 12 {
				l = append(l, key+"\x00", key+"\xff")
			}
		}
	}
	slices.Sort(l)
	return slices.Compact(l)
}

// Promise 6: of each key that is there, and of many that are not, the root alone tells what the tree has.
func TestWhoHoldsTheRootIsToldWhatTheTreeHas(t *testing.T) {
	there, not, deepest := 0, 0, 0
	for _, tree := range proofTrees(t) {
		root := mustRoot(t, tree)
		if want := slowDigests(tree)[0]; root != want {
			t.Fatalf("RootOf(%v) = %x, want %x", tree, root, want)
		}
		depth, _ := impl.DepthOf(tree)
		deepest = max(deepest, depth)
		for _, key := range askedKeys(tree) {
			val, is := impl.GetKey(tree, key)
			l := mustProve(t, tree, key)
			if want := slowProve(tree, key); !sameWay(l, want) {
				t.Fatalf("ProveKey(%v, %q) = %#v, want %#v", tree, key, l, want)
			}
			if len(l) > depth || !is && len(l) != depth {
				t.Fatalf("ProveKey(%v, %q) has %d pages", tree, key, len(l))
			}
			checkProof(t, root, key, l, val, is, true)
			if is {
				there++
			} else {
				not++
			}
		}
	}
	if there < 3000 || not < 8000 || deepest != 3 {
		t.Errorf("%d keys are there, %d not, %d pages deep", there, not, deepest)
	}
}

// A proof of one key tells of another one only what is so: where the way is the same.
func TestProofOfAnotherKey(t *testing.T) {
	held := 0
	for _, tree := range []impl.Tree{pagesOf("()"), pagesOf("(a c e g)"), pagesOf("((a b) c (d e) f (g h))"), pagesOf("(((a b) c (d e) f (g h)) i ((j k) l (m n) o (p q)))"), fullTree(40)} {
		root := mustRoot(t, tree)
		keys := askedKeys(tree)
		for _, key := range keys {
			l := mustProve(t, tree, key)
			for _, other := range keys {
				val, is, ok := impl.CheckKey(root, other, l)
				wantVal, wantIs, wantOk := slowCheck(root, other, l)
				if val != wantVal || is != wantIs || ok != wantOk {
					t.Fatalf("CheckKey of %q by the proof of %q = %q, %v, %v", other, key, val, is, ok)
				}
				if !ok {
					continue
				}
				held++
				if has, there := impl.GetKey(tree, other); has != val || there != is {
					t.Fatalf("the proof of %q tells %q, %v of %q", key, val, is, other)
				}
			}
		}
	}
	if held < 500 {
		t.Error("few proofs are held", held)
	}
}

// Promise 6: no proof of one tree is held by the root of another one that tells otherwise.
func TestProofsOfAnotherTree(t *testing.T) {
	tree := pagesOf("((a=1 b=2) c=3 (d=4 e=5))")
	for _, key := range []string{"a", "b", "c", "d", "e", "aa", "f"} {
		for _, other := range []impl.Tree{
			mustPut(t, tree, "a", "9"), mustPut(t, tree, "c", "9"), mustPut(t, tree, "e", ""), mustPut(t, tree, "f", "6"), mustPut(t, tree, "aa", "7"),
			mustDrop(t, tree, "a"), mustDrop(t, tree, "c"), pagesOf("()"), pagesOf("(a)"),
		} {
			refused(t, "another tree's root", mustRoot(t, other), key, mustProve(t, tree, key))
			refused(t, "another tree's proof", mustRoot(t, tree), key, mustProve(t, other, key))
		}
	}
}

func TestRootsOfUnlikeTrees(t *testing.T) {
	seen := map[string]impl.Tree{}
	put := func(tree impl.Tree) {
		root := mustRoot(t, tree)
		if other, is := seen[root]; is && !samePages(other, tree) {
			t.Fatalf("one root %x of %v and %v", root, tree, other)
		}
		seen[root] = copyTree(tree)
	}
	for _, tree := range proofTrees(t) {
		put(tree)
	}
	for _, tree := range goodTrees() {
		for no, p := range tree.Pages {
			for k := range p.Keys {
				next := copyTree(tree)
				next.Pages[no].Vals[k] = "other"
				put(next)
				next = copyTree(tree)
				next.Pages[no].Keys[k] += "!"
				if slowGoodTree(next) {
					put(next)
				}
			}
		}
	}
	if len(seen) < 700 {
		t.Error("few roots", len(seen))
	}
	same := []impl.Tree{pagesOf("((a b) c (d e f))"), pagesOf("((a b c) d (e f))")}
	if mustRoot(t, same[0]) == mustRoot(t, same[1]) {
		t.Error("the order of the pages is not told")
	}
	if mustRoot(t, pagesOf("()")) != plainDigest('g', "\x00\x00") {
		t.Error("root of the tree without keys")
	}
}

// The shown pages, written out by hand.
func TestShownPagesByHand(t *testing.T) {
	tree := pagesOf("(((a b) c (d e) f (g h)) i ((j k) l (m n) o (p q)))")
	digest := func(keys string, kids ...string) string {
		p := impl.Shown{Keys: strings.Fields(keys), Kids: kids}
		for _, key := range p.Keys {
			p.Vals = append(p.Vals, "v"+key)
		}
		return slowPageDigest(p)
	}
	left := []string{digest("a b"), digest("d e"), digest("g h")}
	right := []string{digest("j k"), digest("m n"), digest("p q")}
	top := []string{digest("c f", left...), digest("l o", right...)}
	if root := mustRoot(t, tree); root != digest("i", top...) {
		t.Fatalf("root %x", root)
	}
	whole := impl.Shown{Keys: []string{"i"}, Vals: []string{"vi"}, Kids: top}
	first := impl.Shown{Keys: []string{"c", "f"}, Vals: []string{"vc", "vf"}, Kids: left}
	second := impl.Shown{Keys: []string{"l", "o"}, Vals: []string{"vl", "vo"}, Kids: right}
	leaf := func(keys string) impl.Shown {
		l := strings.Fields(keys)
		return impl.Shown{Keys: l, Vals: []string{"v" + l[0], "v" + l[1]}}
	}
	at := func(p impl.Shown, n int) impl.Shown {
		p.Go = n
		return p
	}
	for key, want := range map[string][]impl.Shown{
		"a":  {at(whole, 0), at(first, 0), at(leaf("a b"), 0)},
		"b":  {at(whole, 0), at(first, 0), at(leaf("a b"), 1)},
		"bb": {at(whole, 0), at(first, 0), at(leaf("a b"), 2)},
		"A":  {at(whole, 0), at(first, 0), at(leaf("a b"), 0)},
		"c":  {at(whole, 0), at(first, 0)},
		"cc": {at(whole, 0), at(first, 1), at(leaf("d e"), 0)},
		"e":  {at(whole, 0), at(first, 1), at(leaf("d e"), 1)},
		"f":  {at(whole, 0), at(first, 1)},
		"hh": {at(whole, 0), at(first, 2), at(leaf("g h"), 2)},
		"i":  {at(whole, 0)},
		"ii": {at(whole, 1), at(second, 0), at(leaf("j k"), 0)},
		"l":  {at(whole, 1), at(second, 0)},
		"o":  {at(whole, 1), at(second, 1)},
		"q":  {at(whole, 1), at(second, 2), at(leaf("p q"), 1)},
		"z":  {at(whole, 1), at(second, 2), at(leaf("p q"), 2)},
	} {
		if got := mustProve(t, tree, key); !sameWay(got, want) {
			t.Errorf("ProveKey of %q = %#v, want %#v", key, got, want)
		}
	}
	if got := mustProve(t, pagesOf("()"), "k"); !sameWay(got, []impl.Shown{{}}) {
		t.Errorf("ProveKey of the tree without keys = %#v", got)
	}
	checkProof(t, mustRoot(t, pagesOf("()")), "k", []impl.Shown{{}}, "", false, true)
}

func TestShownBytesByHand(t *testing.T) {
	twelve, other := "twelve bytes", "\x00\xff\x00\xff\x00\xff\x00\xff\x00\xff\x00\xff"
	for _, c := range []struct {
		p    impl.Shown
		want string
	}{
		{impl.Shown{}, "\x00\x00"},
		{impl.Shown{Keys: []string{}, Vals: []string{}, Kids: []string{}}, "\x00\x00"},
		{impl.Shown{Kids: []string{"abcd"}}, "\x00\x01abcd"},
		{impl.Shown{Keys: []string{"k"}, Vals: []string{"aca"}}, "\x01\x01k\x03aca\x00"},
		{impl.Shown{Keys: []string{"k"}, Vals: []string{"aca"}, Go: 1}, "\x01\x01k\x03aca\x00"},
		{impl.Shown{Keys: []string{"k"}, Vals: []string{""}}, "\x01\x01k\x00\x00"},
		{impl.Shown{Keys: []string{"\x00"}, Vals: []string{"\x00"}}, "\x01\x01\x00\x01\x00\x00"},
		{impl.Shown{Keys: []string{"a", "b"}, Vals: []string{"1", "22"}, Kids: []string{"abcd", "\x00\x00\x00\x00", "\xff\xff\xff\xff"}, Go: 2},
			"\x02\x01a\x011\x01b\x0222\x03abcd\x00\x00\x00\x00\xff\xff\xff\xff"},
		{impl.Shown{Keys: []string{twelve}, Vals: []string{other}}, "\x01\x0c" + twelve + "\x0c" + other + "\x00"},
		{impl.Shown{Keys: []string{"a", "ab", "abc", "abcd"}, Vals: []string{"4", "3", "2", ""}, Go: 4},
			"\x04\x01a\x014\x02ab\x013\x03abc\x012\x04abcd\x00\x00"},
		{impl.Shown{Keys: []string{"a", "b", "c", "d"}, Vals: []string{"", "", "", ""}, Kids: []string{"1111", "2222", "3333", "4444", "5555"}},
			"\x04\x01a\x00\x01b\x00\x01c\x00\x01d\x00\x0511112222333344445555"},
	} {
		if got, ok := impl.ShownBytes(c.p); got != c.want || !ok {
			t.Errorf("ShownBytes(%#v) = %q, %v, want %q", c.p, got, ok, c.want)
		}
		if got := mustPageDigest(t, c.p); got != plainDigest('g', c.want) {
			t.Errorf("PageDigest(%#v) = %x", c.p, got)
		}
		if want, ok := impl.DigestOf('g', c.want); mustPageDigest(t, c.p) != want || !ok {
			t.Errorf("PageDigest(%#v) is not DigestOf", c.p)
		}
		if !impl.GoodShown(c.p) || !slowGoodShown(c.p) {
			t.Errorf("GoodShown(%#v) is false", c.p)
		}
	}
}

// goodShown has pages of 0 to Most keys, with and without kids, each Go, and texts at their limits.
func goodShown() []impl.Shown {
	keys := []string{"\x00", "a", "twelve bytes", strings.Repeat("\xff", 12)}
	vals := []string{"", strings.Repeat("\xff", 12), "\x00", "v"}
	kids := []string{"\x00\x00\x00\x00", "abcd", "\xff\xff\xff\xff", "abcd", "kid5"}
	var l []impl.Shown
	for n := 0; n <= mostPageKeys; n++ {
		for at := 0; at <= n; at++ {
			l = append(l, impl.Shown{Keys: keys[:n:n], Vals: vals[:n:n], Go: at}, impl.Shown{Keys: keys[4-n:], Vals: vals[4-n:], Kids: kids[: n+1 : n+1], Go: at})
		}
	}
	return l
}

func TestPagesThatAreGood(t *testing.T) {
	for _, p := range goodShown() {
		if !impl.GoodShown(p) {
			t.Errorf("GoodShown(%#v) is false", p)
		}
		if got, ok := impl.ShownBytes(p); got != slowShownBytes(p) || !ok {
			t.Errorf("ShownBytes(%#v) = %q, %v", p, got, ok)
		}
		if got := mustPageDigest(t, p); got != slowPageDigest(p) {
			t.Errorf("PageDigest(%#v) = %x", p, got)
		}
	}
}

// badShown are not good for one reason each.
func badShown() map[string]impl.Shown {
	l := map[string]impl.Shown{}
	edit := func(why string, how func(p *impl.Shown)) {
		p := impl.Shown{Keys: []string{"a", "b", "c"}, Vals: []string{"1", "2", "3"}, Go: 1}
		how(&p)
		l[why] = p
		if len(p.Kids) == 0 {
			p = copyShown(p)
			for range len(p.Keys) + 1 {
				p.Kids = append(p.Kids, "kids")
			}
			l[why+", with kids"] = p
		}
	}
	thirteen := strings.Repeat("m", 13)
	edit("an empty key", func(p *impl.Shown) { p.Keys[0] = "" })
	edit("an empty key alone", func(p *impl.Shown) { p.Keys, p.Vals, p.Go = []string{""}, []string{""}, 0 })
	edit("a key of 13 bytes", func(p *impl.Shown) { p.Keys[2] = thirteen })
	edit("a first key of 13 bytes", func(p *impl.Shown) { p.Keys[0] = strings.Repeat("a", 13) })
	edit("a key of 257 bytes", func(p *impl.Shown) { p.Keys[2] = strings.Repeat("m", 257) })
	edit("a value of 13 bytes", func(p *impl.Shown) { p.Vals[0] = thirteen })
	edit("a last value of 13 bytes", func(p *impl.Shown) { p.Vals[2] = thirteen })
	edit("a value of 256 bytes", func(p *impl.Shown) { p.Vals[1] = strings.Repeat("v", 256) })
	edit("a value of very many bytes", func(p *impl.Shown) { p.Vals[1] = strings.Repeat("v", 100000) })
	edit("alike keys", func(p *impl.Shown) { p.Keys[1] = "a" })
	edit("alike last keys", func(p *impl.Shown) { p.Keys[2] = "b" })
	edit("falling keys", func(p *impl.Shown) { p.Keys[0] = "bb" })
	edit("falling last keys", func(p *impl.Shown) { p.Keys[2] = "aa" })
	edit("five keys", func(p *impl.Shown) { p.Keys, p.Vals = plainKeys(5), plainKeys(5) })
	edit("very many keys", func(p *impl.Shown) { p.Keys, p.Vals = plainKeys(258), plainKeys(258) })
	edit("too few values", func(p *impl.Shown) { p.Vals = p.Vals[:2] })
	edit("no values", func(p *impl.Shown) { p.Vals = nil })
	edit("too many values", func(p *impl.Shown) { p.Vals = append(p.Vals, "4") })
	edit("very many values", func(p *impl.Shown) { p.Vals = make([]string, 259) })
	edit("values without keys", func(p *impl.Shown) { p.Keys, p.Go = nil, 0 })
	edit("one kid", func(p *impl.Shown) { p.Kids = []string{"kids"} })
	edit("as many kids as keys", func(p *impl.Shown) { p.Kids = []string{"kids", "kids", "kids"} })
	edit("two kids more than keys", func(p *impl.Shown) { p.Kids = []string{"kids", "kids", "kids", "kids", "kids"} })
	edit("very many kids", func(p *impl.Shown) { p.Kids = slices.Repeat([]string{"kids"}, 260) })
	edit("two kids without keys", func(p *impl.Shown) { *p = impl.Shown{Kids: []string{"kids", "kids"}} })
	edit("a kid of 3 bytes", func(p *impl.Shown) { p.Kids = []string{"kid", "kids", "kids", "kids"} })
	edit("a last kid of 5 bytes", func(p *impl.Shown) { p.Kids = []string{"kids", "kids", "kids", "kids5"} })
	edit("an empty kid", func(p *impl.Shown) { p.Kids = []string{"kids", "", "kids", "kids"} })
	edit("kids as long only together", func(p *impl.Shown) { p.Kids = []string{"kids", "kid", "skids", "kids"} })
	edit("an empty kid without keys", func(p *impl.Shown) { *p = impl.Shown{Kids: []string{""}} })
	for why, at := range map[string]int{"Go below 0": -1, "Go one too great": 4, "Go very small": math.MinInt, "Go very great": math.MaxInt, "Go of 256 too many": 257} {
		edit(why, func(p *impl.Shown) { p.Go = at })
	}
	edit("Go of a page without keys", func(p *impl.Shown) { *p = impl.Shown{Go: 1} })
	edit("Go below 0 of a page without keys", func(p *impl.Shown) { *p = impl.Shown{Go: -1} })
	return l
}

func TestPagesThatAreNotGood(t *testing.T) {
	good := impl.Shown{Keys: []string{"a", "b"}, Vals: []string{"1", "2"}, Kids: []string{"kids", "kids", "kids"}, Go: 1}
	for why, p := range badShown() {
		was := copyShown(p)
		if impl.GoodShown(p) || slowGoodShown(p) {
			t.Errorf("%s: GoodShown is %v", why, impl.GoodShown(p))
		}
		if s, ok := impl.ShownBytes(p); s != "" || ok {
			t.Errorf("%s: ShownBytes = %q, %v", why, s, ok)
		}
		if s, ok := impl.PageDigest(p); s != "" || ok {
			t.Errorf("%s: PageDigest = %q, %v", why, s, ok)
		}
		// The digests are right, so that nothing but the page itself is wrong.
		root := slowPageDigest(p)
		for _, key := range []string{"a", "b", "aa", "ab", "c", "d", "m", strings.Repeat("m", 12)} {
			refused(t, why, root, key, []impl.Shown{p})
			refused(t, why, root, key, []impl.Shown{p, p})
			above := copyShown(good)
			above.Kids, above.Go = []string{root, root, root}, slowLess(above.Keys, key)
			refused(t, why, slowPageDigest(above), key, []impl.Shown{above, p})
			for _, l := range [][]impl.Shown{{p}, {above, p}} {
				a, b, ok := impl.UnlikeShown(root, key, l, []impl.Shown{good})
				if !isZeroShown(a) || !isZeroShown(b) || ok {
					t.Errorf("%s: UnlikeShown = %#v, %#v, %v", why, a, b, ok)
				}
				a, b, ok = impl.UnlikeShown(root, key, []impl.Shown{good}, l)
				if !isZeroShown(a) || !isZeroShown(b) || ok {
					t.Errorf("%s: UnlikeShown = %#v, %#v, %v", why, a, b, ok)
				}
			}
		}
		if !sameShown(p, was) {
			t.Errorf("%s: the page is changed", why)
		}
	}
}

func TestProofsOfTreesThatAreNotGood(t *testing.T) {
	for why, tree := range badTrees() {
		was := copyTree(tree)
		if root, ok := impl.RootOf(tree); root != "" || ok {
			t.Errorf("%s: RootOf = %x, %v", why, root, ok)
		}
		for _, key := range []string{"a", "c", "k100", "zz"} {
			if l, ok := impl.ProveKey(tree, key); len(l) != 0 || ok {
				t.Errorf("%s: ProveKey of %q = %#v, %v", why, key, l, ok)
			}
		}
		if !samePages(tree, was) {
			t.Errorf("%s: the tree is changed", why)
		}
	}
}

func TestProofsOfWrongKeys(t *testing.T) {
	wrong := []string{"", strings.Repeat("k", 13), strings.Repeat("\x00", 13), strings.Repeat("\xff", 256+5), strings.Repeat("k", 100000)}
	for _, tree := range goodTrees() {
		root := mustRoot(t, tree)
		for _, key := range wrong {
			if l, ok := impl.ProveKey(tree, key); len(l) != 0 || ok {
				t.Errorf("ProveKey of %d bytes = %#v, %v", len(key), l, ok)
			}
			for _, asked := range []string{"\x00", "k", "a", strings.Repeat("k", 12), strings.Repeat("\xff", 12)} {
				refused(t, "a wrong key", root, key, mustProve(t, tree, asked))
			}
		}
	}
	one := impl.Shown{}
	for _, key := range wrong {
		refused(t, "a wrong key", slowPageDigest(one), key, []impl.Shown{one})
		if a, b, ok := impl.UnlikeShown(slowPageDigest(one), key, []impl.Shown{one}, []impl.Shown{one}); !isZeroShown(a) || !isZeroShown(b) || ok {
			t.Errorf("UnlikeShown of a key of %d bytes = %#v, %#v, %v", len(key), a, b, ok)
		}
	}
	checkProof(t, slowPageDigest(one), "k", []impl.Shown{one}, "", false, true)
	checkProof(t, slowPageDigest(one), "twelve bytes", []impl.Shown{one}, "", false, true)
}

func TestProofsWithAnotherRoot(t *testing.T) {
	tree := pagesOf("((a b) c (d e) f (g h))")
	root := mustRoot(t, tree)
	for _, key := range []string{"a", "c", "cc", "z"} {
		l := mustProve(t, tree, key)
		for _, other := range []string{"", root[:3], root[1:], root + "\x00", root + root, "\x00" + root, "\x00\x00\x00\x00", "\xff\xff\xff\xff", strings.Repeat(root, 10000)} {
			refused(t, "another root", other, key, l)
		}
		for i := range root {
			for add := 1; add < 256; add++ {
				other := []byte(root)
				other[i] += byte(add)
				refused(t, "a spoilt root", string(other), key, l)
			}
		}
		for _, p := range l[1:] {
			refused(t, "the digest of a page within", slowPageDigest(p), key, l)
		}
	}
}

// Each proof with one thing wrong, and all others right.
func TestProofsWithOneThingWrong(t *testing.T) {
	for _, tree := range []impl.Tree{pagesOf("()"), pagesOf("(a)"), pagesOf("(a b c d)"), pagesOf("((a b) c (d e))"), pagesOf("((a b) c (d e) f (g h) i (j k) l (m n))"), pagesOf("(((a b) c (d e) f (g h)) i ((j k) l (m n) o (p q)))"), fullTree(40)} {
		root := mustRoot(t, tree)
		digests := slowDigests(tree)
		for _, key := range askedKeys(tree) {
			l := mustProve(t, tree, key)
			refused(t, "no page", root, key, nil)
			refused(t, "no page, no nil", root, key, []impl.Shown{})
			for i := range l {
				for at := -2; at <= len(l[i].Keys)+2; at++ {
					if at == l[i].Go {
						continue
					}
					c := copyWay(l)
					c[i].Go = at
					refused(t, "another Go", root, key, c)
				}
				if i > 0 {
					refused(t, "the first pages are missing", root, key, l[i:])
					refused(t, "the last pages are missing", root, key, l[:i])
					refused(t, "a page is missing", root, key, slices.Delete(copyWay(l), i-1, i))
				}
				refused(t, "a page is there twice", root, key, slices.Insert(copyWay(l), i, l[i]))
				checkSpoiltPage(t, root, key, l, i)
				for no := range tree.Pages {
					p := slowShown(tree, no, digests)
					p.Go = slowLess(p.Keys, key)
					if sameShown(p, l[i]) {
						continue
					}
					c := copyWay(l)
					c[i] = p
					refused(t, "another page of the tree", root, key, c)
				}
			}
			checkLonger(t, tree, root, key, l)
		}
	}
}

// checkSpoiltPage changes one text of one page after the other.
func checkSpoiltPage(t *testing.T, root string, key string, l []impl.Shown, i int) {
	t.Helper()
	for k := range l[i].Keys {
		c := copyWay(l)
		c[i].Keys[k] += "!"
		refused(t, "another key in a page", root, key, c)
		c = copyWay(l)
		c[i].Vals[k] = "other"
		refused(t, "another value in a page", root, key, c)
		c = copyWay(l)
		c[i].Keys, c[i].Vals = slices.Delete(c[i].Keys, k, k+1), slices.Delete(c[i].Vals, k, k+1)
		c[i].Go = slowLess(c[i].Keys, key)
		refused(t, "a key of a page is missing", root, key, c)
	}
	for k := range l[i].Kids {
		for at := range 4 {
			c := copyWay(l)
			c[i].Kids = spoil(c[i].Kids, k, at)
			refused(t, "another kid in a page", root, key, c)
		}
	}
	c := copyWay(l)
	c[i].Kids = nil
	if len(l[i].Kids) > 0 {
		refused(t, "a page has lost its kids", root, key, c)
	}
}

// checkLonger goes on behind the end of a proof: behind a leaf nothing comes, and behind a page that has the key neither.
func checkLonger(t *testing.T, tree impl.Tree, root string, key string, l []impl.Shown) {
	t.Helper()
	last := l[len(l)-1]
	if len(last.Kids) == 0 {
		refused(t, "a page behind a leaf", root, key, append(copyWay(l), impl.Shown{}))
		return
	}
	for no, d := range slowDigests(tree) {
		if d != last.Kids[last.Go] {
			continue
		}
		p := slowShown(tree, no, slowDigests(tree))
		p.Go = slowLess(p.Keys, key)
		longer := append(copyWay(l), p)
		if len(p.Kids) > 0 {
			refused(t, "a page ahead has the key, and the last one has kids", root, key, longer)
			continue
		}
		refused(t, "a page ahead has the key, and the last one is a leaf", root, key, longer)
	}
}

// wayAbove has many pages, each but the last one with the next one as a kid, so that it is a proof by its root.
func wayAbove(many int, key string, last impl.Shown, above func(i int, kid string) impl.Shown) (string, []impl.Shown) {
	last = copyShown(last)
	last.Go = slowLess(last.Keys, key)
	l := []impl.Shown{last}
	for i := 1; i < many; i++ {
		p := above(i, slowPageDigest(l[0]))
		p.Go = slowLess(p.Keys, key)
		l = append([]impl.Shown{p}, l...)
	}
	return slowPageDigest(l[0]), l
}

// 1 to 10 pages are held, 11 are not; a shown page with kids may have no keys at all.
func TestProofsOfManyPages(t *testing.T) {
	last := impl.Shown{Keys: []string{"k", "l"}, Vals: []string{"val", ""}}
	shapes := []func(i int, kid string) impl.Shown{
		func(i int, kid string) impl.Shown { return impl.Shown{Kids: []string{kid}} },
		func(i int, kid string) impl.Shown {
			return impl.Shown{Keys: []string{"a", "b", "c", "z"}, Vals: []string{"1", "2", "3", "4"}, Kids: []string{"1111", "2222", "3333", kid, "5555"}}
		},
		func(i int, kid string) impl.Shown {
			keys := []string{"a", "b", "c", "d"}[:i%5]
			return impl.Shown{Keys: keys, Vals: keys, Kids: append(slices.Repeat([]string{"none"}, i%5), kid)}
		},
	}
	for _, above := range shapes {
		for many := 1; many <= 13; many++ {
			for key, want := range map[string]string{"k": "val", "l": "", "j": "", "kk": "", "m": ""} {
				is := key == "k" || key == "l"
				root, l := wayAbove(many, key, last, above)
				if many <= mostShownPages {
					checkProof(t, root, key, l, want, is, true)
				} else {
					refused(t, "too many pages", root, key, l)
				}
				// The last one may have kids where it has the key, and only there.
				kids := copyShown(last)
				kids.Kids = []string{"none", "none", "none"}
				root, l = wayAbove(many, key, kids, above)
				if many <= mostShownPages && is {
					checkProof(t, root, key, l, want, true, true)
				} else {
					refused(t, "a last page with kids and not the key, or too many pages", root, key, l)
				}
			}
		}
	}
	root, l := wayAbove(1, "k", impl.Shown{}, nil)
	refused(t, "very many pages", root, "k", slices.Repeat(l, 100000))
	root, l = wayAbove(10, "k", impl.Shown{}, shapes[1])
	checkProof(t, root, "k", l, "", false, true)
}

// CheckKey is held against the document's words at proofs with a few faults, some of which leave them right.
func TestCheckKeyOfSpoiltProofs(t *testing.T) {
	source := rand.New(rand.NewSource(66))
	trees := []impl.Tree{pagesOf("(a b c)"), pagesOf("((a b) c (d e))"), pagesOf("((a b c) d (e f) g (h i j k))"), pagesOf("(((a b) c (d e) f (g h)) i ((j k) l (m n) o (p q)))")}
	held := 0
	for range 60000 {
		tree := trees[source.Intn(len(trees))]
		keys := askedKeys(tree)
		key := keys[source.Intn(len(keys))]
		l := slowProve(tree, key)
		for range source.Intn(3) {
			l = spoilWay(source, l, keys)
		}
		root := slowDigests(tree)[0]
		if source.Intn(2) == 0 {
			// Digests that are made anew, from the last page on, leave the other faults alone.
			root = remadeDigests(l)
		}
		val, is, ok := impl.CheckKey(root, key, l)
		wantVal, wantIs, wantOk := slowCheck(root, key, l)
		if val != wantVal || is != wantIs || ok != wantOk {
			t.Fatalf("CheckKey(%x, %q, %#v) = %q, %v, %v, want %q, %v, %v", root, key, l, val, is, ok, wantVal, wantIs, wantOk)
		}
		if ok {
			held++
		}
	}
	if held < 10000 || held > 55000 {
		t.Error(held, "are held")
	}
}

func spoilWay(source *rand.Rand, l []impl.Shown, keys []string) []impl.Shown {
	if len(l) == 0 {
		return l
	}
	l = copyWay(l)
	i := source.Intn(len(l))
	p := &l[i]
	text := append(keys, "", "thirteen byte")[source.Intn(len(keys)+2)]
	switch source.Intn(9) {
	case 0:
		if len(p.Keys) > 0 {
			p.Keys[source.Intn(len(p.Keys))] = text
		}
	case 1:
		if len(p.Vals) > 0 {
			p.Vals[source.Intn(len(p.Vals))] = text
		}
	case 2:
		p.Go += 1 - 2*source.Intn(2)
	case 3:
		if k := len(p.Kids); k > 0 {
			p.Kids = p.Kids[:k-1]
		}
	case 4:
		p.Keys, p.Vals = append(p.Keys, text), append(p.Vals, text)
	case 5:
		p.Kids = nil
	case 6:
		return slices.Delete(l, i, i+1)
	case 7:
		return slices.Insert(l, i, *p)
	case 8:
		if len(p.Keys) > 0 {
			p.Keys, p.Vals = p.Keys[1:], p.Vals[1:]
		}
	}
	return l
}

// remadeDigests puts the digest of each page into the one ahead, where its Go leads, and gives that of the first one.
func remadeDigests(l []impl.Shown) string {
	root := "none"
	for i := len(l) - 1; i >= 0; i-- {
		if i < len(l)-1 && l[i].Go >= 0 && l[i].Go < len(l[i].Kids) {
			l[i].Kids = slices.Clone(l[i].Kids)
			l[i].Kids[l[i].Go] = root
		}
		root = slowPageDigest(l[i])
	}
	return root
}

// slowUnlike looks at place after place for pages that are unlike, but have one digest.
func slowUnlike(root string, key string, a []impl.Shown, b []impl.Shown) (impl.Shown, impl.Shown, bool) {
	valA, isA, okA := slowCheck(root, key, a)
	valB, isB, okB := slowCheck(root, key, b)
	if !okA || !okB || valA == valB && isA == isB {
		return impl.Shown{}, impl.Shown{}, false
	}
	for i := 0; i < len(a) && i < len(b); i++ {
		if p, q := slowShownBytes(a[i]), slowShownBytes(b[i]); p != q && plainDigest('g', p) == plainDigest('g', q) {
			return a[i], b[i], true
		}
	}
	return impl.Shown{}, impl.Shown{}, false
}

// checkUnlike asks in both orders; at is the place of the pages that must be told, -1 for none.
func checkUnlike(t *testing.T, why string, root string, key string, a []impl.Shown, b []impl.Shown, at int) {
	t.Helper()
	for range 2 {
		p, q, ok := impl.UnlikeShown(root, key, a, b)
		wantP, wantQ, want := slowUnlike(root, key, a, b)
		if want != (at >= 0) || want && (!sameShown(wantP, a[at]) || !sameShown(wantQ, b[at])) {
			t.Fatalf("%s: the test itself is wrong: %#v and %#v, %v", why, wantP, wantQ, want)
		}
		if !sameShown(p, wantP) || !sameShown(q, wantQ) || ok != want {
			t.Fatalf("%s: UnlikeShown(%x, %q, %#v, %#v) = %#v, %#v, %v, want place %d", why, root, key, a, b, p, q, ok, at)
		}
		a, b = b, a
	}
}

// checkClash also asks that two pages are unlike, but have one digest.
func checkClash(t *testing.T, why string, root string, key string, a []impl.Shown, b []impl.Shown, at int) {
	t.Helper()
	if p, q := slowShownBytes(a[at]), slowShownBytes(b[at]); p == q || mustPageDigest(t, a[at]) != mustPageDigest(t, b[at]) {
		t.Fatalf("%s: no clash: %x and %x", why, p, q)
	}
	checkUnlike(t, why, root, key, a, b, at)
	checkUnlike(t, why+", the first alone", root, key, a, a, -1)
	checkUnlike(t, why+", the second alone", root, key, b, b, -1)
}

// Promise 6: two unlike answers of one root show two unlike pages with one digest, whichever field they are unlike in.
func TestUnlikeAnswersShowUnlikePages(t *testing.T) {
	one := func(keys string, vals string, kids string) impl.Shown {
		return impl.Shown{Keys: strings.Fields(keys), Vals: strings.Split(vals, " ")[:len(strings.Fields(keys))], Kids: strings.Fields(kids)}
	}
	for _, c := range []struct {
		why, key string
		p, q     impl.Shown
	}{
		{"unlike values", "k", one("k", "aca", ""), one("k", "bab", "")},
		{"unlike values at a page with kids", "k", one("k", "aca", "kid1 kid2"), one("k", "bab", "kid1 kid2")},
		{"only one has the key, in a leaf", "aca", one("aca", "v", ""), one("bab", "v", "")},
		{"only one has the key, with an empty value", "aca", one("aca", " ", ""), one("bab", " ", "")},
		{"only one has the key, behind", "bab", one("aca", "v", ""), one("bab", "v", "")},
		{"only one has the key, the first", "aca", one("aca bzz", "1 2", ""), one("bab bzz", "1 2", "")},
		{"only one has the key, the last", "zca", one("a b c zca", "1 2 3 4", ""), one("a b c {ab", "1 2 3 4", "")},
		{"unlike values of the last key", "d", one("a b c d", "1 2 3 aca", "kid1 kid2 kid3 kid4 kid5"), one("a b c d", "1 2 3 bab", "kid1 kid2 kid3 kid4 kid5")},
		{"unlike values, and unlike kids", "k", one("k", "aca", "aca1 kid2"), one("k", "bab", "bab1 kid2")},
	} {
		c.p.Go, c.q.Go = slowLess(c.p.Keys, c.key), slowLess(c.q.Keys, c.key)
		if slowPageDigest(c.p) != slowPageDigest(c.q) {
			t.Fatalf("%s: no clash", c.why)
		}
		for many := 1; many <= mostShownPages; many++ {
			above := func(i int, kid string) impl.Shown {
				return impl.Shown{Keys: []string{"!", "~"}, Vals: []string{"", "v"}, Kids: []string{"none", kid, "none"}}
			}
			rootA, a := wayAbove(many, c.key, c.p, above)
			rootB, b := wayAbove(many, c.key, c.q, above)
			if rootA != rootB {
				t.Fatalf("%s: unlike roots", c.why)
			}
			valA, isA, okA := impl.CheckKey(rootA, c.key, a)
			valB, isB, okB := impl.CheckKey(rootA, c.key, b)
			if !okA || !okB {
				t.Fatalf("%s: CheckKey is %v, %v", c.why, okA, okB)
			}
			if valA == valB && isA == isB {
				t.Fatalf("%s: alike answers", c.why)
			}
			checkClash(t, c.why, rootA, c.key, a, b, many-1)
		}
	}
}

// The pages part at the first place, though others behind it are unlike, too.
func TestUnlikeShownTellsTheFirstPlace(t *testing.T) {
	leafA := impl.Shown{Keys: []string{"k"}, Vals: []string{"aca"}}
	leafB := impl.Shown{Keys: []string{"k"}, Vals: []string{"bab"}}
	kid := slowPageDigest(leafA)
	for why, c := range map[string][2]impl.Shown{
		"in a kid that is not on the way": {
			{Keys: []string{"m"}, Vals: []string{"v"}, Kids: []string{kid, "aca."}},
			{Keys: []string{"m"}, Vals: []string{"v"}, Kids: []string{kid, "bab."}}},
		"in the first kid": {
			{Keys: []string{"c"}, Vals: []string{"v"}, Kids: []string{"aca.", kid}, Go: 1},
			{Keys: []string{"c"}, Vals: []string{"v"}, Kids: []string{"bab.", kid}, Go: 1}},
		"in another key's value": {
			{Keys: []string{"m"}, Vals: []string{"aca"}, Kids: []string{kid, "none"}},
			{Keys: []string{"m"}, Vals: []string{"bab"}, Kids: []string{kid, "none"}}},
		"in another key": {
			{Keys: []string{"mca"}, Vals: []string{"v"}, Kids: []string{kid, "none"}},
			{Keys: []string{"nab"}, Vals: []string{"v"}, Kids: []string{kid, "none"}}},
		"in the last of four keys": {
			{Keys: []string{"a", "b", "c", "zca"}, Vals: []string{"", "", "", ""}, Kids: []string{"1111", "2222", "3333", kid, "5555"}, Go: 3},
			{Keys: []string{"a", "b", "c", "{ab"}, Vals: []string{"", "", "", ""}, Kids: []string{"1111", "2222", "3333", kid, "5555"}, Go: 3}},
		"in the last of five kids": {
			{Keys: []string{"a", "b", "c", "z"}, Vals: []string{"", "", "", ""}, Kids: []string{"1111", "2222", "3333", kid, ".aca"}, Go: 3},
			{Keys: []string{"a", "b", "c", "z"}, Vals: []string{"", "", "", ""}, Kids: []string{"1111", "2222", "3333", kid, ".bab"}, Go: 3}},
		"in the kids, and Go": {
			{Keys: []string{"jcb"}, Vals: []string{""}, Kids: []string{kid, kid}, Go: 1},
			{Keys: []string{"kac"}, Vals: []string{""}, Kids: []string{kid, kid}, Go: 0}},
	} {
		root := slowPageDigest(c[0])
		checkClash(t, why, root, "k", []impl.Shown{c[0], leafA}, []impl.Shown{c[1], leafB}, 0)
		checkUnlike(t, why+", but alike answers", root, "k", []impl.Shown{c[0], leafA}, []impl.Shown{c[1], leafA}, -1)
		checkClash(t, why+", but behind alone", root, "k", []impl.Shown{c[0], leafA}, []impl.Shown{c[0], leafB}, 1)
		above := impl.Shown{Kids: []string{root}}
		root = slowPageDigest(above)
		checkClash(t, why+", one lower", root, "k", []impl.Shown{above, c[0], leafA}, []impl.Shown{above, c[1], leafB}, 1)
	}
}

// One way may end where the other one goes on.
func TestUnlikeShownOfUnlikeLengths(t *testing.T) {
	leaf := impl.Shown{Keys: []string{"abb"}, Vals: []string{"v"}}
	kid := slowPageDigest(leaf)
	has := impl.Shown{Keys: []string{"aca"}, Vals: []string{"v"}, Kids: []string{kid, "none"}}
	goes := impl.Shown{Keys: []string{"bab"}, Vals: []string{"v"}, Kids: []string{kid, "none"}}
	end := copyShown(leaf)
	end.Go = 1
	root := slowPageDigest(has)
	checkClash(t, "a page with kids has the key, and the other one leads on", root, "aca", []impl.Shown{has}, []impl.Shown{goes, end}, 0)
	checkProof(t, root, "aca", []impl.Shown{has}, "v", true, true)
	checkProof(t, root, "aca", []impl.Shown{goes, end}, "", false, true)

	// A leaf whose value has the bytes that the other page's kids have, with the lengths weighed out.
	below := impl.Shown{Keys: []string{"k"}, Vals: []string{"x"}}
	kid = slowPageDigest(below)
	lead := impl.Shown{Keys: []string{"m"}, Vals: []string{""}, Kids: []string{kid, "abc\x08"}}
	found := false
	for x := range 256 {
		for y := range 256 {
			val := []byte("\x02" + kid + "abc")
			val[5] += byte(x)
			val[7] += byte(y)
			stop := impl.Shown{Keys: []string{"m"}, Vals: []string{string(val)}}
			if slowPageDigest(stop) != slowPageDigest(lead) {
				continue
			}
			found = true
			checkClash(t, "a leaf, and a page with kids", slowPageDigest(stop), "k", []impl.Shown{stop}, []impl.Shown{lead, below}, 0)
		}
	}
	if !found {
		t.Error("no clash of a leaf and a page with kids")
	}
}

// Clashes found by search among pages of many shapes.
func TestUnlikeShownOfFoundClashes(t *testing.T) {
	source := rand.New(rand.NewSource(67))
	text := func(from int, to int) string {
		b := make([]byte, from+source.Intn(to-from+1))
		for i := range b {
			b[i] = byte(1 + source.Intn(4))
		}
		return string(b)
	}
	byDigest := map[string][]impl.Shown{}
	for range 300000 {
		p := impl.Shown{}
		for range source.Intn(3) {
			p.Keys = append(p.Keys, text(1, 2))
		}
		slices.Sort(p.Keys)
		p.Keys = slices.Compact(p.Keys)
		for range p.Keys {
			p.Vals = append(p.Vals, text(0, 2))
		}
		if source.Intn(2) == 0 {
			for range len(p.Keys) + 1 {
				p.Kids = append(p.Kids, text(4, 4))
			}
		}
		d := slowPageDigest(p)
		if l := byDigest[d]; len(l) < 6 && !slices.ContainsFunc(l, func(q impl.Shown) bool { return sameShown(p, q) }) {
			byDigest[d] = append(l, p)
		}
	}
	shown, not := 0, 0
	for d, l := range byDigest {
		for i := range l {
			for k := range i {
				for _, key := range append(slices.Clone(l[i].Keys), append(l[k].Keys, "\x01\x03\x02")...) {
					p, q := copyShown(l[i]), copyShown(l[k])
					p.Go, q.Go = slowLess(p.Keys, key), slowLess(q.Keys, key)
					_, _, want := slowUnlike(d, key, []impl.Shown{p}, []impl.Shown{q})
					at := -1
					if want {
						at = 0
						shown++
					} else {
						not++
					}
					checkUnlike(t, "found", d, key, []impl.Shown{p}, []impl.Shown{q}, at)
				}
			}
		}
	}
	if shown < 1000 || not < 1000 {
		t.Error(shown, "clashes are shown,", not, "are not")
	}
}

// Of whole trees: one leaf's value is another one with the same digest.
func TestUnlikeShownOfTrees(t *testing.T) {
	for _, text := range []string{"(k=%)", "((a b) c (d k=%))", "((a b) k=% (m n))", "(((a b) c (d e) f (g k=%)) l ((m n) o (p q) r (s t)))", "(((a b) c (d e) k=% (kg kh)) l ((m n) o (p q) r (s t)))"} {
		first := pagesOf(strings.Replace(text, "%", "aca", 1))
		second := pagesOf(strings.Replace(text, "%", "bab", 1))
		other := pagesOf(strings.Replace(text, "%", "abb", 1))
		root := mustRoot(t, first)
		if mustRoot(t, second) != root || mustRoot(t, other) == root {
			t.Fatalf("%s: roots %x, %x, %x", text, root, mustRoot(t, second), mustRoot(t, other))
		}
		a, b, c := mustProve(t, first, "k"), mustProve(t, second, "k"), mustProve(t, other, "k")
		checkClash(t, text, root, "k", a, b, len(a)-1)
		checkUnlike(t, text+", one not told true", root, "k", a, c, -1)
		checkUnlike(t, text+", another root", mustRoot(t, other), "k", a, b, -1)
		checkUnlike(t, text+", one told true", mustRoot(t, other), "k", a, c, -1)
		checkUnlike(t, text+", no page", root, "k", a, nil, -1)
		checkUnlike(t, text+", no pages", root, "k", nil, nil, -1)
		checkUnlike(t, text+", too many pages", root, "k", a, append(copyWay(b), slices.Repeat(b[:1], 10)...), -1)
		checkUnlike(t, text+", one page missing", root, "k", a, b[:len(b)-1], -1)
		checkUnlike(t, text+", a page behind", root, "k", a, append(copyWay(b), impl.Shown{}), -1)
		checkUnlike(t, text+", another key", root, "kk", a, b, -1)
		for i := range b {
			wrong := copyWay(b)
			wrong[i].Go++
			checkUnlike(t, text+", another Go", root, "k", a, wrong, -1)
		}
		for _, bad := range []string{"", root[:3], root + "\x00"} {
			checkUnlike(t, text+", a root that is not as said", bad, "k", a, b, -1)
		}
		absent := mustProve(t, first, "kk")
		checkUnlike(t, text+", alike answers of unlike pages", root, "kk", absent, mustProve(t, second, "kk"), -1)
	}
}

// spareWay is a copy of shown pages each list of which, and they themselves, have something behind their length; all is the whole memory.
func spareWay(l []impl.Shown) ([]impl.Shown, func() []impl.Shown) {
	c := copyWay(l)
	for i, p := range c {
		c[i].Keys = append(p.Keys, "~behind", "~more")[:len(p.Keys)]
		c[i].Vals = append(p.Vals, "behind", "more")[:len(p.Vals)]
		c[i].Kids = append(p.Kids, "kid1", "kid2")[:len(p.Kids)]
	}
	c = append(c, impl.Shown{Keys: []string{"x"}, Vals: []string{"1"}})[:len(c)]
	return c, func() []impl.Shown {
		var all []impl.Shown
		for _, p := range c[:len(c)+1] {
			all = append(all, impl.Shown{Keys: slices.Clone(p.Keys[:cap(p.Keys)]), Vals: slices.Clone(p.Vals[:cap(p.Vals)]), Kids: slices.Clone(p.Kids[:cap(p.Kids)]), Go: p.Go})
		}
		return all
	}
}

func TestShownPagesAreNotWrittenInto(t *testing.T) {
	for _, plain := range goodTrees() {
		tree, allPages := sparePages(plain)
		pagesWere := allPages()
		root := mustRoot(t, tree)
		if root != mustRoot(t, plain) {
			t.Fatal("RootOf hangs on what lies behind the lists of a tree")
		}
		for _, key := range askedKeys(plain) {
			l := mustProve(t, tree, key)
			if !sameWay(l, slowProve(plain, key)) {
				t.Fatal("ProveKey hangs on what lies behind the lists of a tree")
			}
			way, all := spareWay(l)
			was := all()
			val, is := impl.GetKey(plain, key)
			checkProof(t, root, key, way, val, is, true)
			checkUnlike(t, "spare", root, key, way, way, -1)
			for i, p := range way {
				if got, ok := impl.ShownBytes(p); got != slowShownBytes(l[i]) || !ok || !impl.GoodShown(p) || mustPageDigest(t, p) != slowPageDigest(l[i]) {
					t.Fatal("a page's bytes hang on what lies behind its lists")
				}
			}
			if !sameWay(all(), was) || !sameWay(way, l) {
				t.Fatal("shown pages, or what lies behind their lists, are changed")
			}
		}
		if !samePages(allPages(), pagesWere) || !samePages(tree, plain) {
			t.Fatal("a tree, or what lies behind its lists, is changed")
		}
	}
	for why, p := range badShown() {
		way, all := spareWay([]impl.Shown{p})
		was := all()
		impl.GoodShown(way[0])
		impl.ShownBytes(way[0])
		impl.CheckKey("root", "a", way)
		impl.UnlikeShown("root", "a", way, way)
		if _, ok := impl.PageDigest(way[0]); ok || !sameWay(all(), was) {
			t.Errorf("%s: a page is changed, or what lies behind its lists is read", why)
		}
	}
	a, allA := spareWay([]impl.Shown{{Keys: []string{"k"}, Vals: []string{"aca"}, Kids: []string{"kid1", "kid2"}}})
	b, allB := spareWay([]impl.Shown{{Keys: []string{"k"}, Vals: []string{"bab"}, Kids: []string{"kid1", "kid2"}}})
	wasA, wasB := allA(), allB()
	p, q, ok := impl.UnlikeShown(slowPageDigest(a[0]), "k", a, b)
	if !ok || !sameShown(p, a[0]) || !sameShown(q, b[0]) || !sameWay(allA(), wasA) || !sameWay(allB(), wasB) {
		t.Error("UnlikeShown", p, q, ok)
	}
	for _, l := range [][]string{p.Keys, p.Vals, p.Kids, q.Keys, q.Vals, q.Kids} {
		for _, s := range l[:cap(l)] {
			if strings.Contains(s, "behind") || strings.Contains(s, "more") {
				t.Error("what lies behind a list is handed out")
			}
		}
	}
}

// shownTexts are all texts of shown pages.
func shownTexts(l ...impl.Shown) []string {
	var texts []string
	for _, p := range l {
		texts = append(append(append(texts, p.Keys...), p.Vals...), p.Kids...)
	}
	return texts
}

// checkShownApart writes into all that each list has, page by page, and asks that no other list is changed by it.
func checkShownApart(t *testing.T, l []impl.Shown) {
	t.Helper()
	was := copyWay(l)
	for i := range l {
		for _, list := range []*[]string{&l[i].Keys, &l[i].Vals, &l[i].Kids} {
			kept := slices.Clone(*list)
			overwrite(*list)
			*list = kept
			if !sameWay(l, was) {
				t.Fatalf("page %d shares memory with another list", i)
			}
		}
	}
}

func TestProofAnswersAreNewMemory(t *testing.T) {
	tree := impl.Tree{}
	for _, p := range pagesOf("(((a b) c (d e) f (g h)) i ((j k) l (m n) o (p q)))").Pages {
		c := impl.Page{Kids: slices.Clone(p.Kids)}
		for k := range p.Keys {
			c.Keys, c.Vals = append(c.Keys, strings.Clone(p.Keys[k])), append(c.Vals, strings.Clone(p.Vals[k]))
		}
		tree.Pages = append(tree.Pages, c)
	}
	was := copyTree(tree)
	root := mustRoot(t, tree)
	for _, asked := range []string{"a", "c", "i", "dd", "q", "z"} {
		key := strings.Clone(asked)
		l := mustProve(t, tree, key)
		want := copyWay(l)
		if shareTexts(shownTexts(l...), append(textsOf(tree), key)) {
			t.Fatalf("ProveKey of %q hands out a text of the tree, or the key", key)
		}
		val, is, ok := impl.CheckKey(root, key, l)
		if !ok || shareTexts([]string{val}, append(shownTexts(l...), key, root)) {
			t.Fatalf("CheckKey of %q = %q, %v, %v hands out a text of a page", key, val, is, ok)
		}
		checkShownApart(t, l)
		for i := range l {
			overwrite(l[i].Keys)
			overwrite(l[i].Vals)
			overwrite(l[i].Kids)
		}
		clear(l[:cap(l)])
		if !samePages(tree, was) || !sameWay(mustProve(t, tree, key), want) {
			t.Fatalf("the proof of %q shares lists with the tree, or is kept", key)
		}
	}
	long := impl.Shown{Keys: []string{strings.Clone("k")}, Vals: []string{strings.Clone("aca")}, Kids: []string{strings.Clone("kid1"), strings.Clone("kid2")}}
	other := copyShown(long)
	other.Vals = []string{strings.Clone("bab")}
	d := mustPageDigest(t, long)
	p, q, ok := impl.UnlikeShown(d, "k", []impl.Shown{long}, []impl.Shown{other})
	if !ok || shareTexts(shownTexts(p, q), shownTexts(long, other)) || shareTexts(shownTexts(p), shownTexts(q)) {
		t.Error("UnlikeShown hands out texts of its arguments", p, q, ok)
	}
	checkShownApart(t, []impl.Shown{p, q})
	overwrite(p.Keys)
	overwrite(q.Kids)
	if !sameShown(long, impl.Shown{Keys: []string{"k"}, Vals: []string{"aca"}, Kids: []string{"kid1", "kid2"}}) || other.Keys[0] != "k" || other.Kids[0] != "kid1" {
		t.Error("UnlikeShown shares lists with its arguments")
	}
	if s, ok := impl.ShownBytes(long); !ok || shareTexts([]string{s, d}, shownTexts(long)) {
		t.Error("ShownBytes", s)
	}
}

// The answers hang on the arguments alone, not on what was asked ahead.
func TestProofsAnswerTheSameAgain(t *testing.T) {
	tree := pagesOf("((a b) c (d e) f (g h i j))")
	root, l := mustRoot(t, tree), mustProve(t, tree, "e")
	for why, other := range badTrees() {
		impl.RootOf(other)
		impl.ProveKey(other, "e")
		for _, p := range badShown() {
			impl.CheckKey(root, "e", append(copyWay(l), p))
		}
		if mustRoot(t, tree) != root || !sameWay(mustProve(t, tree, "e"), l) {
			t.Fatalf("another answer after: %s", why)
		}
		checkProof(t, root, "e", l, "ve", true, true)
	}
}
