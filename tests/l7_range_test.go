package tests

import (
	"math"
	"math/rand"
	"runtime/debug"
	"slices"
	"strconv"
	"strings"
	"testing"

	"loop.example/g00537/impl"
)

const (
	mostPiecePages = 60
	mostPieceDepth = 10
)

func samePiece(a impl.Piece, b impl.Piece) bool {
	return sameShown(a.Page, b.Page) && slices.Equal(a.Open, b.Open) && slices.EqualFunc(a.Kids, b.Kids, samePiece)
}

func isZeroPiece(p impl.Piece) bool {
	return samePiece(p, impl.Piece{})
}

func copyPiece(p impl.Piece) impl.Piece {
	c := impl.Piece{Page: copyShown(p.Page), Open: slices.Clone(p.Open)}
	for _, kid := range p.Kids {
		c.Kids = append(c.Kids, copyPiece(kid))
	}
	return c
}

// flatPieces are a piece and all within it, each ahead of its kids.
func flatPieces(p *impl.Piece) []*impl.Piece {
	l := []*impl.Piece{p}
	for i := range p.Kids {
		l = append(l, flatPieces(&p.Kids[i])...)
	}
	return l
}

// pieceText tells a piece as these tests write it down: the keys of its page, and in brackets the kids, each behind its number in Open.
func pieceText(p impl.Piece) string {
	s := strings.Join(p.Page.Keys, " ")
	if len(p.Kids) == 0 && len(p.Open) == 0 {
		return s
	}
	var kids []string
	for i := range max(len(p.Kids), len(p.Open)) {
		kid := ""
		if i < len(p.Open) {
			kid = strconv.Itoa(p.Open[i])
		}
		kid += ":"
		if i < len(p.Kids) {
			kid += pieceText(p.Kids[i])
		}
		kids = append(kids, kid)
	}
	return s + "[" + strings.Join(kids, ", ") + "]"
}

func slowGoodRange(from string, to string) bool {
	return len(from) > 0 && len(from) < 13 && len(to) > 0 && len(to) < 13 && strings.Compare(from, to) == -1
}

// slowNeeds asks for the two things that the document says of a kid.
func slowNeeds(p impl.Shown, k int, from string, to string) bool {
	if k > 0 && p.Keys[k-1] >= to {
		return false
	}
	if k < len(p.Keys) && p.Keys[k] <= from {
		return false
	}
	return true
}

func slowPiece(tree impl.Tree, no int, digests []string, from string, to string) impl.Piece {
	p := impl.Piece{Page: slowShown(tree, no, digests)}
	for k, kid := range tree.Pages[no].Kids {
		if slowNeeds(p.Page, k, from, to) {
			p.Open = append(p.Open, k)
			p.Kids = append(p.Kids, slowPiece(tree, kid, digests, from, to))
		}
	}
	return p
}

// slowSize tells how many pages a piece has, and how many lie within one another; of one that has an end.
func slowSize(p impl.Piece) (int, int) {
	many, depth := 1, 1
	for _, kid := range p.Kids {
		n, d := slowSize(kid)
		many += n
		depth = max(depth, 1+d)
	}
	return many, depth
}

// slowHeldPiece asks for one thing after the other that the document says of a piece, and gathers what it tells of the range.
func slowHeldPiece(digest string, from string, to string, p impl.Piece, keys *[]string, vals *[]string) bool {
	if !slowGoodShown(p.Page) || p.Page.Go != 0 || slowPageDigest(p.Page) != digest || len(p.Open) != len(p.Kids) {
		return false
	}
	shown := map[int]impl.Piece{}
	for i, k := range p.Open {
		if k < 0 || k >= len(p.Page.Kids) || i > 0 && k <= p.Open[i-1] {
			return false
		}
		shown[k] = p.Kids[i]
	}
	for k := range len(p.Page.Keys) + 1 {
		kid, is := shown[k]
		if is != (len(p.Page.Kids) > 0 && slowNeeds(p.Page, k, from, to)) {
			return false
		}
		if is && !slowHeldPiece(p.Page.Kids[k], from, to, kid, keys, vals) {
			return false
		}
		if k < len(p.Page.Keys) && p.Page.Keys[k] >= from && p.Page.Keys[k] < to {
			*keys = append(*keys, p.Page.Keys[k])
			*vals = append(*vals, p.Page.Vals[k])
		}
	}
	return true
}

func slowCheckPieces(root string, from string, to string, p impl.Piece) ([]string, []string, bool) {
	many, depth := slowSize(p)
	var keys, vals []string
	if len(root) != 4 || !slowGoodRange(from, to) || many > 60 || depth > 10 || !slowHeldPiece(root, from, to, p, &keys, &vals) {
		return nil, nil, false
	}
	return keys, vals, true
}

// slowRange takes the keys and values one by one from what chapter 5 tells.
func slowRange(t *testing.T, tree impl.Tree, from string, to string) ([]string, []string) {
	t.Helper()
	all, ok := impl.KeysIn(tree)
	if !ok {
		t.Fatal("KeysIn", tree)
	}
	var keys, vals []string
	for _, key := range all {
		if strings.Compare(key, from) < 0 || strings.Compare(key, to) >= 0 {
			continue
		}
		val, ok := impl.GetKey(tree, key)
		if !ok {
			t.Fatal("GetKey", tree, key)
		}
		keys, vals = append(keys, key), append(vals, val)
	}
	return keys, vals
}

func mustPieces(t *testing.T, tree impl.Tree, from string, to string) impl.Piece {
	t.Helper()
	p, ok := impl.PiecesOf(tree, from, to)
	if !ok {
		t.Fatalf("PiecesOf(%v, %q, %q) is false", tree, from, to)
	}
	return p
}

// checkPieces holds CheckPieces against what must be told, and against the document's words.
func checkPieces(t *testing.T, root string, from string, to string, p impl.Piece, keys []string, vals []string) {
	t.Helper()
	gotKeys, gotVals, ok := impl.CheckPieces(root, from, to, p)
	if !slices.Equal(gotKeys, keys) || !slices.Equal(gotVals, vals) || !ok {
		t.Fatalf("CheckPieces(%x, %q, %q, %s) = %q, %q, %v, want %q, %q", root, from, to, pieceText(p), gotKeys, gotVals, ok, keys, vals)
	}
	if slowKeys, slowVals, ok := slowCheckPieces(root, from, to, p); !slices.Equal(slowKeys, keys) || !slices.Equal(slowVals, vals) || !ok {
		t.Fatalf("the test itself is wrong: %x, %q, %q, %s: %q, %q, %v", root, from, to, pieceText(p), slowKeys, slowVals, ok)
	}
}

// refusedPiece asks CheckPieces for the zero answer.
func refusedPiece(t *testing.T, why string, root string, from string, to string, p impl.Piece) {
	t.Helper()
	if keys, vals, ok := impl.CheckPieces(root, from, to, p); len(keys) != 0 || len(vals) != 0 || ok {
		t.Errorf("%s: CheckPieces(%x, %q, %q, %s) = %q, %q, %v", why, root, from, to, pieceText(p), keys, vals, ok)
	}
	if _, _, ok := slowCheckPieces(root, from, to, p); ok {
		t.Errorf("%s: the test itself has a good piece %s", why, pieceText(p))
	}
}

// checkRange asks all of the chapter of one range of a good tree.
func checkRange(t *testing.T, tree impl.Tree, digests []string, from string, to string) int {
	t.Helper()
	keys, vals := slowRange(t, tree, from, to)
	gotKeys, gotVals, ok := impl.RangeOf(tree, from, to)
	if !slices.Equal(gotKeys, keys) || !slices.Equal(gotVals, vals) || !ok {
		t.Fatalf("RangeOf(%v, %q, %q) = %q, %q, %v, want %q, %q", tree, from, to, gotKeys, gotVals, ok, keys, vals)
	}
	if many, ok := impl.CountIn(tree, from, to); many != len(keys) || !ok {
		t.Fatalf("CountIn(%v, %q, %q) = %d, %v, want %d", tree, from, to, many, ok, len(keys))
	}
	p, want := mustPieces(t, tree, from, to), slowPiece(tree, 0, digests, from, to)
	if !samePiece(p, want) {
		t.Fatalf("PiecesOf(%v, %q, %q) = %#v, want %#v", tree, from, to, p, want)
	}
	pages, depth := slowSize(want)
	if many, ok := impl.SizeOf(p); many != pages || !ok {
		t.Fatalf("SizeOf(%s) = %d, %v, want %d", pieceText(p), many, ok, pages)
	}
	if deep, ok := impl.DepthOf(tree); depth != deep || !ok {
		t.Fatalf("the piece %s is %d deep, the tree %d", pieceText(p), depth, deep)
	}
	checkPieces(t, digests[0], from, to, p, keys, vals)
	return len(keys)
}

// rangeEnds are the keys of a tree, some between each two, the least and the greatest texts; rising.
func rangeEnds(tree impl.Tree) []string {
	l := []string{"\x00", "!", "c", "twelve bytes", strings.Repeat("\xff", 12)}
	for _, p := range tree.Pages {
		for _, key := range p.Keys {
			l = append(l, key)
			if len(key) < 12 {
				l = append(l, key+"\x00")
			}
			if len(key) > 1 {
				l = append(l, key[:len(key)-1])
			}
		}
	}
	slices.Sort(l)
	return slices.Compact(l)
}

// Promise 7: over trees of all sizes and depths, each range of neighbours, and many others.
func TestWhoHoldsTheRootIsToldAllKeysOfARange(t *testing.T) {
	source := rand.New(rand.NewSource(7))
	ranges, told, none := 0, 0, 0
	for i, tree := range proofTrees(t) {
		ends, digests := rangeEnds(tree), slowDigests(tree)
		root := mustRoot(t, tree)
		if root != digests[0] {
			t.Fatalf("RootOf(%v) = %x", tree, root)
		}
		ask := func(from string, to string) {
			many := checkRange(t, tree, digests, from, to)
			ranges++
			told += many
			if many == 0 {
				none++
			}
		}
		if len(ends) < 50 && i%3 == 0 {
			for k, to := range ends {
				for _, from := range ends[:k] {
					ask(from, to)
				}
			}
			continue
		}
		ask(ends[0], ends[len(ends)-1])
		for k, to := range ends[1:] {
			ask(ends[k], to)
		}
		for range 20 {
			k := 1 + source.Intn(len(ends)-1)
			ask(ends[source.Intn(k)], ends[k])
		}
	}
	if ranges < 15000 || told < 50000 || none < 3000 {
		t.Errorf("%d ranges, %d keys told, %d ranges without any", ranges, told, none)
	}
}

// The ends that are keys, those between, ahead of all and behind all, and all their pieces, written out by hand.
func TestPiecesByHand(t *testing.T) {
	deep := "(((a b) c (d e) f (g h)) i ((j k) l (m n) o (p q)))"
	for _, c := range []struct {
		tree, from, to, piece, keys string
	}{
		{"()", "a", "b", "", ""},
		{"()", "\x00", "\xff", "", ""},
		{"(b)", "a", "b", "b", ""},
		{"(b)", "b", "c", "b", "b"},
		{"(b)", "b", "b\x00", "b", "b"},
		{"(b)", "b\x00", "c", "b", ""},
		{"(a b c d)", "b", "d", "a b c d", "b c"},
		{"(a b c d)", "A", "z", "a b c d", "a b c d"},
		{"((a b) c (d e))", "b", "c", "c[0:a b]", "b"},
		{"((a b) c (d e))", "b", "c\x00", "c[0:a b, 1:d e]", "b c"},
		{"((a b) c (d e))", "c", "d", "c[1:d e]", "c"},
		{"((a b) c (d e))", "c", "c\x00", "c[1:d e]", "c"},
		{"((a b) c (d e))", "c\x00", "d", "c[1:d e]", ""},
		{"((a b) c (d e))", "bb", "cc", "c[0:a b, 1:d e]", "c"},
		{"((a b) c (d e) f (g h) i (j k) l (m n))", "c", "i", "c f i l[1:d e, 2:g h]", "c d e f g h"},
		{"((a b) c (d e) f (g h) i (j k) l (m n))", "bb", "ii", "c f i l[0:a b, 1:d e, 2:g h, 3:j k]", "c d e f g h i"},
		{"((a b) c (d e) f (g h) i (j k) l (m n))", "l", "z", "c f i l[4:m n]", "l m n"},
		{"((a b) c (d e) f (g h) i (j k) l (m n))", "A", "B", "c f i l[0:a b]", ""},
		{deep, "a", "b", "i[0:c f[0:a b]]", "a"},
		{deep, "c", "d", "i[0:c f[1:d e]]", "c"},
		{deep, "i", "j", "i[1:l o[0:j k]]", "i"},
		{deep, "h", "i", "i[0:c f[2:g h]]", "h"},
		{deep, "h", "i\x00", "i[0:c f[2:g h], 1:l o[0:j k]]", "h i"},
		{deep, "A", "B", "i[0:c f[0:a b]]", ""},
		{deep, "x", "z", "i[1:l o[2:p q]]", ""},
		{deep, "ff", "fg", "i[0:c f[2:g h]]", ""},
		{deep, "e", "m", "i[0:c f[1:d e, 2:g h], 1:l o[0:j k, 1:m n]]", "e f g h i j k l"},
		{deep, "A", "z", "i[0:c f[0:a b, 1:d e, 2:g h], 1:l o[0:j k, 1:m n, 2:p q]]", "a b c d e f g h i j k l m n o p q"},
	} {
		tree := pagesOf(c.tree)
		p := mustPieces(t, tree, c.from, c.to)
		if pieceText(p) != c.piece {
			t.Errorf("PiecesOf(%s, %q, %q) = %s, want %s", c.tree, c.from, c.to, pieceText(p), c.piece)
		}
		for _, q := range flatPieces(&p) {
			if q.Page.Go != 0 || len(q.Page.Kids) == 0 && len(q.Open)+len(q.Kids) > 0 {
				t.Errorf("PiecesOf(%s, %q, %q) has %#v", c.tree, c.from, c.to, q)
			}
		}
		keys := strings.Fields(c.keys)
		var vals []string
		for _, key := range keys {
			vals = append(vals, "v"+key)
		}
		checkPieces(t, mustRoot(t, tree), c.from, c.to, p, keys, vals)
		checkRange(t, tree, slowDigests(tree), c.from, c.to)
	}
}

// A piece of one range tells of another one only what is so: where the same kids are needed.
func TestPieceOfAnotherRange(t *testing.T) {
	held, not := 0, 0
	for _, tree := range []impl.Tree{pagesOf("()"), pagesOf("(a c e)"), pagesOf("((a b) c (d e) f (g h))"), pagesOf("(((a b) c (d e) f (g h)) i ((j k) l (m n) o (p q)))")} {
		root, ends := mustRoot(t, tree), rangeEnds(tree)
		if len(ends) > 25 {
			ends = slices.DeleteFunc(ends, func(s string) bool { return len(s) == 2 })
		}
		for i, to := range ends {
			for _, from := range ends[:i] {
				p := mustPieces(t, tree, from, to)
				for k, otherTo := range ends {
					for _, otherFrom := range ends[:k] {
						keys, vals, ok := impl.CheckPieces(root, otherFrom, otherTo, p)
						slowKeys, slowVals, slowOk := slowCheckPieces(root, otherFrom, otherTo, p)
						if !slices.Equal(keys, slowKeys) || !slices.Equal(vals, slowVals) || ok != slowOk {
							t.Fatalf("CheckPieces(%q, %q) by the piece %s of %q, %q = %q, %q, %v", otherFrom, otherTo, pieceText(p), from, to, keys, vals, ok)
						}
						if !ok {
							not++
							continue
						}
						held++
						if wantKeys, wantVals := slowRange(t, tree, otherFrom, otherTo); !slices.Equal(keys, wantKeys) || !slices.Equal(vals, wantVals) {
							t.Fatalf("the piece %s tells %q of %q, %q", pieceText(p), keys, otherFrom, otherTo)
						}
					}
				}
			}
		}
	}
	if held < 5000 || not < 20000 {
		t.Errorf("%d are held, %d not", held, not)
	}
}

// No piece of one tree is held by the root of another one that tells otherwise of the range or of where it lies.
func TestPiecesOfAnotherTree(t *testing.T) {
	tree := pagesOf("((a=1 b=2) c=3 (d=4 e=5))")
	for _, ends := range [][]string{{"a", "z"}, {"a", "b"}, {"b", "d"}, {"c", "cc"}, {"x", "z"}} {
		for _, other := range []impl.Tree{
			mustPut(t, tree, "a", "9"), mustPut(t, tree, "c", "9"), mustPut(t, tree, "e", ""), mustPut(t, tree, "f", "6"), mustPut(t, tree, "aa", "7"),
			mustDrop(t, tree, "a"), mustDrop(t, tree, "c"), pagesOf("()"), pagesOf("(a)"),
		} {
			refusedPiece(t, "another tree's root", mustRoot(t, other), ends[0], ends[1], mustPieces(t, tree, ends[0], ends[1]))
			refusedPiece(t, "another tree's piece", mustRoot(t, tree), ends[0], ends[1], mustPieces(t, other, ends[0], ends[1]))
		}
	}
}

func TestPiecesWithAnotherRoot(t *testing.T) {
	tree := pagesOf("((a b) c (d e) f (g h))")
	root := mustRoot(t, tree)
	for _, ends := range [][]string{{"a", "b"}, {"b", "g"}, {"x", "z"}} {
		p := mustPieces(t, tree, ends[0], ends[1])
		for _, other := range []string{"", root[:3], root[1:], root + "\x00", root + root, "\x00" + root, "\x00\x00\x00\x00", "\xff\xff\xff\xff", strings.Repeat(root, 10000)} {
			refusedPiece(t, "another root", other, ends[0], ends[1], p)
		}
		for i := range root {
			for add := 1; add < 256; add++ {
				other := []byte(root)
				other[i] += byte(add)
				refusedPiece(t, "a spoilt root", string(other), ends[0], ends[1], p)
			}
		}
		for _, kid := range p.Kids {
			refusedPiece(t, "the digest of a page within", slowPageDigest(kid.Page), ends[0], ends[1], p)
		}
	}
}

// editPiece gives a function that hands on a copy of a piece, changed in its page number i.
func editPiece(p impl.Piece, i int, do func(why string, p impl.Piece)) func(why string, how func(q *impl.Piece)) {
	return func(why string, how func(q *impl.Piece)) {
		c := copyPiece(p)
		how(flatPieces(&c)[i])
		do(why, c)
	}
}

// spoilOpen hands on a piece with one thing wrong in what the page number i of it says of its kids.
func spoilOpen(p impl.Piece, i int, more []impl.Piece, do func(why string, p impl.Piece)) {
	edit, was := editPiece(p, i, do), flatPieces(&p)[i]
	for x, k := range was.Open {
		edit("a kid and its number are left out", func(q *impl.Piece) {
			q.Open, q.Kids = slices.Delete(q.Open, x, x+1), slices.Delete(q.Kids, x, x+1)
		})
		edit("a kid is left out", func(q *impl.Piece) { q.Kids = slices.Delete(q.Kids, x, x+1) })
		edit("a kid's number is left out", func(q *impl.Piece) { q.Open = slices.Delete(q.Open, x, x+1) })
		edit("a kid and its number are there twice", func(q *impl.Piece) {
			q.Open, q.Kids = slices.Insert(q.Open, x, k), slices.Insert(q.Kids, x, q.Kids[x])
		})
		edit("a kid is there twice", func(q *impl.Piece) { q.Kids = slices.Insert(q.Kids, x, q.Kids[x]) })
		edit("a kid's number is there twice", func(q *impl.Piece) { q.Open = slices.Insert(q.Open, x, k) })
		edit("a kid that is empty", func(q *impl.Piece) { q.Kids[x] = impl.Piece{} })
		for no := -1; no <= 6; no++ {
			if no != k {
				edit("another number", func(q *impl.Piece) { q.Open[x] = no })
			}
		}
		for _, no := range []int{k - 256, k + 256, k + 1<<32, math.MinInt, math.MaxInt} {
			edit("a number that is none", func(q *impl.Piece) { q.Open[x] = no })
		}
		for y := range x {
			edit("kids in another order", func(q *impl.Piece) { q.Kids[x], q.Kids[y] = q.Kids[y], q.Kids[x] })
			edit("numbers in another order", func(q *impl.Piece) { q.Open[x], q.Open[y] = q.Open[y], q.Open[x] })
			edit("both in another order", func(q *impl.Piece) {
				q.Kids[x], q.Kids[y] = q.Kids[y], q.Kids[x]
				q.Open[x], q.Open[y] = q.Open[y], q.Open[x]
			})
		}
	}
	if len(was.Open) > 0 {
		edit("no kids and no numbers", func(q *impl.Piece) { q.Open, q.Kids = nil, nil })
		edit("no kids", func(q *impl.Piece) { q.Kids = nil })
		edit("no numbers", func(q *impl.Piece) { q.Open = nil })
	}
	for no := range 6 {
		at, is := slices.BinarySearch(was.Open, no)
		if is {
			continue
		}
		edit("a number that is not needed", func(q *impl.Piece) { q.Open = slices.Insert(q.Open, at, no) })
		for _, kid := range more {
			edit("a number that is not needed, and a kid", func(q *impl.Piece) {
				q.Open, q.Kids = slices.Insert(q.Open, at, no), slices.Insert(q.Kids, at, copyPiece(kid))
			})
		}
	}
	for _, kid := range more {
		for at := range len(was.Kids) + 1 {
			edit("a kid more", func(q *impl.Piece) { q.Kids = slices.Insert(q.Kids, at, copyPiece(kid)) })
		}
	}
}

// spoilFace hands on a piece with one thing wrong in the page number i of it, or with another page in its place.
func spoilFace(p impl.Piece, i int, more []impl.Piece, do func(why string, p impl.Piece)) {
	edit, was := editPiece(p, i, do), flatPieces(&p)[i]
	for k := range was.Page.Keys {
		edit("another key", func(q *impl.Piece) { q.Page.Keys[k] += "!" })
		edit("another key of the same length", func(q *impl.Piece) { q.Page.Keys[k] = "~" + q.Page.Keys[k][1:] })
		edit("another value", func(q *impl.Piece) { q.Page.Vals[k] = "other" })
		edit("a key is missing", func(q *impl.Piece) {
			q.Page.Keys, q.Page.Vals = slices.Delete(q.Page.Keys, k, k+1), slices.Delete(q.Page.Vals, k, k+1)
		})
		edit("a key and the kid behind it are missing", func(q *impl.Piece) {
			q.Page.Keys, q.Page.Vals = slices.Delete(q.Page.Keys, k, k+1), slices.Delete(q.Page.Vals, k, k+1)
			if len(q.Page.Kids) > 0 {
				q.Page.Kids = slices.Delete(q.Page.Kids, k+1, k+2)
			}
		})
	}
	for k := range was.Page.Kids {
		for at := range 4 {
			edit("another kid's digest", func(q *impl.Piece) { q.Page.Kids = spoil(q.Page.Kids, k, at) })
		}
	}
	if len(was.Page.Kids) > 0 {
		edit("no kids' digests", func(q *impl.Piece) { q.Page.Kids = nil })
		edit("no kids' digests, no kids and no numbers", func(q *impl.Piece) { q.Page.Kids, q.Open, q.Kids = nil, nil, nil })
	} else {
		edit("kids' digests in a leaf", func(q *impl.Piece) { q.Page.Kids = slices.Repeat([]string{"kids"}, len(q.Page.Keys)+1) })
	}
	for at := -1; at <= len(was.Page.Keys)+1; at++ {
		if at != 0 {
			edit("a Go that is not 0", func(q *impl.Piece) { q.Page.Go = at })
		}
	}
	edit("a key more", func(q *impl.Piece) {
		q.Page.Keys, q.Page.Vals = append(q.Page.Keys, "~~"), append(q.Page.Vals, "")
	})
	for _, other := range more {
		if !sameShown(other.Page, was.Page) {
			edit("another page in its place", func(q *impl.Piece) { *q = copyPiece(other) })
			edit("another page alone in its place", func(q *impl.Piece) { q.Page = copyShown(other.Page) })
		}
	}
}

// Each piece with one thing wrong in one of its pages, and all others right.
func TestPiecesWithOneThingWrong(t *testing.T) {
	spoilt := 0
	for _, tree := range []impl.Tree{pagesOf("()"), pagesOf("(a)"), pagesOf("(a b c d)"), pagesOf("((a b) c (d e))"), pagesOf("((a b) c (d e) f (g h) i (j k) l (m n))"), pagesOf("(((a b) c (d e) f (g h)) i ((j k) l (m n) o (p q)))"), fullTree(40)} {
		root, digests := mustRoot(t, tree), slowDigests(tree)
		for _, ends := range [][]string{{"\x00", "\xff"}, {"a", "b"}, {"c", "d"}, {"e", "m"}, {"i", "i\x00"}, {"k107", "k120"}, {"k1155", "k1165"}, {"x", "z"}} {
			from, to := ends[0], ends[1]
			p := mustPieces(t, tree, from, to)
			keys, vals := slowRange(t, tree, from, to)
			checkPieces(t, root, from, to, p, keys, vals)
			more := []impl.Piece{{}}
			for no := range tree.Pages {
				more = append(more, slowPiece(tree, no, digests, from, to))
			}
			refuse := func(why string, c impl.Piece) {
				spoilt++
				refusedPiece(t, why, root, from, to, c)
			}
			for i := range flatPieces(&p) {
				spoilOpen(p, i, more, refuse)
				spoilFace(p, i, more, refuse)
			}
			checkPieces(t, root, from, to, p, keys, vals)
		}
	}
	if spoilt < 10000 {
		t.Error("few pieces are spoilt", spoilt)
	}
}

// CheckPieces is held against the document's words at pieces with a few faults, whose digests may be right all the same.
func TestCheckPiecesOfSpoiltPieces(t *testing.T) {
	source := rand.New(rand.NewSource(77))
	trees := []impl.Tree{pagesOf("(a b c)"), pagesOf("((a b) c (d e))"), pagesOf("((a b c) d (e f) g (h i j k))"), pagesOf("(((a b) c (d e) f (g h)) i ((j k) l (m n) o (p q)))")}
	held := 0
	for range 60000 {
		tree := trees[source.Intn(len(trees))]
		ends := rangeEnds(tree)
		k := 1 + source.Intn(len(ends)-1)
		from, to := ends[source.Intn(k)], ends[k]
		digests := slowDigests(tree)
		p := slowPiece(tree, 0, digests, from, to)
		for range source.Intn(3) {
			l := flatPieces(&p)
			spoilPiece(source, l[source.Intn(len(l))], ends)
		}
		root := digests[0]
		if source.Intn(4) > 0 {
			// Digests that are made anew, from the leaves on, leave the other faults alone.
			root = remadePieces(&p)
		}
		keys, vals, ok := impl.CheckPieces(root, from, to, p)
		wantKeys, wantVals, wantOk := slowCheckPieces(root, from, to, p)
		if !slices.Equal(keys, wantKeys) || !slices.Equal(vals, wantVals) || ok != wantOk {
			t.Fatalf("CheckPieces(%x, %q, %q, %#v) = %q, %q, %v, want %q, %q, %v", root, from, to, p, keys, vals, ok, wantKeys, wantVals, wantOk)
		}
		if ok {
			held++
		}
	}
	if held < 15000 || held > 50000 {
		t.Error(held, "are held")
	}
}

func spoilPiece(source *rand.Rand, p *impl.Piece, ends []string) {
	*p = copyPiece(*p)
	text := append(slices.Clone(ends), "", "thirteen byte")[source.Intn(len(ends)+2)]
	switch source.Intn(10) {
	case 0, 1:
		if n := len(p.Page.Keys); n > 0 {
			p.Page.Keys[source.Intn(n)] = text
		}
	case 2, 3:
		if n := len(p.Page.Vals); n > 0 {
			p.Page.Vals[source.Intn(n)] = text
		}
	case 4:
		p.Page.Go = source.Intn(3) - 1
	case 5:
		if n := len(p.Open); n > 0 {
			p.Open[source.Intn(n)] += 1 - 2*source.Intn(2)
		}
	case 6:
		if n := len(p.Kids); n > 0 {
			p.Kids[source.Intn(n)] = copyPiece(*p)
		}
	case 7:
		if n := len(p.Kids); n > 0 {
			k := source.Intn(n)
			p.Open, p.Kids = slices.Delete(p.Open, k, k+1), slices.Delete(p.Kids, k, k+1)
		}
	case 8:
		if n := len(p.Page.Keys); n > 0 {
			p.Page.Keys, p.Page.Vals = p.Page.Keys[:n-1], p.Page.Vals[:n-1]
			if len(p.Page.Kids) > 1 {
				p.Page.Kids = p.Page.Kids[:n]
			}
		}
	case 9:
		p.Page.Keys, p.Page.Vals = append(p.Page.Keys, text), append(p.Page.Vals, "")
		if len(p.Page.Kids) > 0 {
			p.Page.Kids = append(p.Page.Kids, "kids")
		}
	}
}

// remadePieces puts the digest of each kid into its page, where Open says, and gives that of the first one.
func remadePieces(p *impl.Piece) string {
	p.Page.Kids = slices.Clone(p.Page.Kids)
	for i := range p.Kids {
		d := remadePieces(&p.Kids[i])
		if i < len(p.Open) && p.Open[i] >= 0 && p.Open[i] < len(p.Page.Kids) {
			p.Page.Kids[p.Open[i]] = d
		}
	}
	return slowPageDigest(p.Page)
}

// The keys are told as the pages have them, where the digests are right, but the tree is not good.
func TestPiecesOfNoGoodTree(t *testing.T) {
	for _, c := range []struct {
		tree, from, to, keys string
	}{
		{"((m n) c (d e))", "b", "z", "m n c d e"},
		{"((a b) c (a b))", "a", "d", "a b c a b"},
		{"((a) c ())", "a", "d", "a c"},
		{"((a b))", "a", "d", "a b"},
		{"(((x)) c (d e))", "a", "d", "c"},
		{"((a b) c ((d e) f (g h)))", "b", "g", "b c d e f"},
	} {
		tree := pagesOf(c.tree)
		digests := slowDigests(tree)
		keys := strings.Fields(c.keys)
		var vals []string
		for _, key := range keys {
			vals = append(vals, "v"+key)
		}
		checkPieces(t, digests[0], c.from, c.to, slowPiece(tree, 0, digests, c.from, c.to), keys, vals)
		if p, ok := impl.PiecesOf(tree, c.from, c.to); !isZeroPiece(p) || ok {
			t.Errorf("PiecesOf(%s) = %s, %v", c.tree, pieceText(p), ok)
		}
	}
}

// leanPiece has a page within the other, each of one kid without keys but the last one, which has a key.
func leanPiece(depth int) impl.Piece {
	p := impl.Piece{Page: impl.Shown{Keys: []string{"k"}, Vals: []string{"val"}}}
	for range depth - 1 {
		p = impl.Piece{Page: kidsPage(), Open: []int{0}, Kids: []impl.Piece{p}}
	}
	return p
}

// widePiece has just so many pages, at most five kids a page, and only as deep as it must be.
func widePiece(many int) impl.Piece {
	p := impl.Piece{}
	for have := 1; have < many; {
		add := min(4, many-have-1) + 1
		for _, q := range flatPieces(&p) {
			if len(q.Kids) > 0 || len(q.Page.Keys) > 0 {
				continue
			}
			shallow, _ := shallowest(&p, 1)
			if q != shallow {
				continue
			}
			for k := range add {
				if k > 0 {
					q.Page.Keys, q.Page.Vals = append(q.Page.Keys, "k"+strconv.Itoa(k)), append(q.Page.Vals, "")
				}
				q.Page.Kids, q.Open, q.Kids = append(q.Page.Kids, "kids"), append(q.Open, k), append(q.Kids, impl.Piece{})
			}
			break
		}
		have += add
	}
	return p
}

// shallowest is a piece without kids that lies within the fewest others.
func shallowest(p *impl.Piece, depth int) (*impl.Piece, int) {
	if len(p.Kids) == 0 {
		return p, depth
	}
	best, least := p, math.MaxInt
	for i := range p.Kids {
		if q, d := shallowest(&p.Kids[i], depth+1); d < least {
			best, least = q, d
		}
	}
	return best, least
}

func checkSize(t *testing.T, why string, p impl.Piece, many int, depth int) {
	t.Helper()
	if n, d := slowSize(p); n != many || d != depth {
		t.Fatalf("%s: the test itself has %d pages, %d deep", why, n, d)
	}
	want, fine := many, true
	if many > mostPiecePages || depth > mostPieceDepth {
		want, fine = 0, false
	}
	if n, ok := impl.SizeOf(p); n != want || ok != fine {
		t.Errorf("%s: SizeOf of %d pages, %d deep = %d, %v", why, many, depth, n, ok)
	}
	// With right digests, all pages are shown that must be, so that nothing but their number hangs on it.
	root := remadePieces(&p)
	keys, vals, ok := impl.CheckPieces(root, "k", "l", p)
	wantKeys, wantVals, wantOk := slowCheckPieces(root, "k", "l", p)
	if !slices.Equal(keys, wantKeys) || !slices.Equal(vals, wantVals) || ok != wantOk || ok != fine {
		t.Errorf("%s: CheckPieces of %d pages, %d deep = %q, %q, %v", why, many, depth, keys, vals, ok)
	}
}

func TestSizeOfPieces(t *testing.T) {
	for depth := 1; depth <= 13; depth++ {
		checkSize(t, "lean", leanPiece(depth), depth, depth)
	}
	for many := 1; many <= 70; many++ {
		p := widePiece(many)
		_, depth := slowSize(p)
		if depth > 4 {
			t.Fatal("the test itself has a deep piece", depth)
		}
		checkSize(t, "wide", p, many, depth)
	}
	// As many pages as may be, as many within one another as may be, and one more of each.
	for _, c := range []struct{ many, depth int }{{60, 10}, {61, 10}, {60, 11}, {61, 11}, {12, 10}, {12, 11}, {59, 9}} {
		p := impl.Piece{Page: kidsPage("kk"), Open: []int{0, 1}}
		p.Kids = []impl.Piece{widePiece(c.many - c.depth), leanPiece(c.depth - 1)}
		checkSize(t, "the deep kid last", p, c.many, c.depth)
		p.Kids = []impl.Piece{leanPiece(c.depth - 1), widePiece(c.many - c.depth)}
		checkSize(t, "the deep kid first", p, c.many, c.depth)
	}
}

// SizeOf counts pages alone, whatever they and Open are.
func TestSizeOfHangsOnTheKidsAlone(t *testing.T) {
	size := func(why string, p impl.Piece, want int) {
		t.Helper()
		if n, ok := impl.SizeOf(p); n != want || ok != (want > 0) {
			t.Errorf("%s: SizeOf = %d, %v, want %d", why, n, ok, want)
		}
	}
	for why, page := range badShown() {
		p := impl.Piece{Page: page, Open: []int{7, -1, 7}}
		size(why, p, 1)
		p.Kids = []impl.Piece{{Page: page}, {Open: []int{math.MinInt}}}
		size(why, p, 3)
	}
	size("nothing", impl.Piece{}, 1)
	size("empty lists", impl.Piece{Open: []int{}, Kids: []impl.Piece{}}, 1)
	size("very many numbers", impl.Piece{Open: make([]int, 100000)}, 1)
	size("59 kids", impl.Piece{Kids: make([]impl.Piece, 59)}, 60)
	size("60 kids", impl.Piece{Kids: make([]impl.Piece, 60)}, 0)
	size("very many kids", impl.Piece{Kids: make([]impl.Piece, 1000000)}, 0)
	size("very many kids of a kid", impl.Piece{Kids: []impl.Piece{{Kids: make([]impl.Piece, 1000000)}}}, 0)
}

// Lists of kids that lie within themselves, or are many kids' at once, are given up before the stack or the time has grown.
func TestPiecesWithoutEnd(t *testing.T) {
	defer debug.SetMaxStack(debug.SetMaxStack(1 << 20))
	one := kidsPage()
	loop := make([]impl.Piece, 1)
	loop[0] = impl.Piece{Page: one, Open: []int{0}, Kids: loop}
	wide := make([]impl.Piece, 50)
	for i := range wide {
		wide[i] = impl.Piece{Page: one, Open: []int{0}, Kids: wide}
	}
	shared := []impl.Piece{{}, {}}
	for range 60 {
		shared = []impl.Piece{{Kids: shared}, {Kids: shared}}
	}
	long := impl.Piece{}
	for range 1000000 {
		long = impl.Piece{Page: one, Open: []int{0}, Kids: []impl.Piece{long}}
	}
	for why, p := range map[string]impl.Piece{"a loop": loop[0], "a wide loop": wide[0], "a loop of the last kid": {Kids: []impl.Piece{{}, {}, loop[0]}}, "shared": {Kids: shared}, "long": long} {
		if n, ok := impl.SizeOf(p); n != 0 || ok {
			t.Errorf("%s: SizeOf = %d, %v", why, n, ok)
		}
		if keys, vals, ok := impl.CheckPieces(slowPageDigest(p.Page), "a", "b", p); len(keys) != 0 || len(vals) != 0 || ok {
			t.Errorf("%s: CheckPieces = %q, %q, %v", why, keys, vals, ok)
		}
	}
	if len(loop[0].Kids) != 1 || len(wide[49].Kids) != 50 {
		t.Error("a piece is changed")
	}
	// A list that is many kids' at once is well, where it is short.
	twice := []impl.Piece{{}, {}}
	if n, ok := impl.SizeOf(impl.Piece{Kids: []impl.Piece{{Kids: twice}, {Kids: twice}}}); n != 7 || !ok {
		t.Error("SizeOf", n, ok)
	}
}

// kidsPage has these keys, and as many kids as they ask for.
func kidsPage(keys ...string) impl.Shown {
	return impl.Shown{Keys: keys, Vals: make([]string, len(keys)), Kids: slices.Repeat([]string{"kids"}, len(keys)+1)}
}

func TestNeedsKidByHand(t *testing.T) {
	page, twelve, last := kidsPage, "twelve bytes", strings.Repeat("\xff", 12)
	for _, c := range []struct {
		p        impl.Shown
		from, to string
		want     string
	}{
		{page(), "a", "b", "y"},
		{page(), "\x00", last, "y"},
		{page("c"), "a", "b", "yn"},
		{page("c"), "b", "c", "yn"},
		{page("c"), "b", "c\x00", "yy"},
		{page("c"), "c", "d", "ny"},
		{page("c"), "b\xff", "d", "yy"},
		{page("c"), "d", "e", "ny"},
		{page("c", "f"), "a", "b", "ynn"},
		{page("c", "f"), "a", "c", "ynn"},
		{page("c", "f"), "a", "cc", "yyn"},
		{page("c", "f"), "a", "f", "yyn"},
		{page("c", "f"), "a", "ff", "yyy"},
		{page("c", "f"), "c", "d", "nyn"},
		{page("c", "f"), "d", "e", "nyn"},
		{page("c", "f"), "c", "f", "nyn"},
		{page("c", "f"), "c", "g", "nyy"},
		{page("c", "f"), "e", "f", "nyn"},
		{page("c", "f"), "f", "g", "nny"},
		{page("c", "f"), "x", "z", "nny"},
		{page("b", "d", "f", "h"), "d", "f", "nnynn"},
		{page("b", "d", "f", "h"), "c", "g", "nyyyn"},
		{page("b", "d", "f", "h"), "b", "h", "nyyyn"},
		{page("b", "d", "f", "h"), "a", "i", "yyyyy"},
		{page("b", "d", "f", "h"), "h", "i", "nnnny"},
		{page("b", "d", "f", "h"), "h\x00", "i", "nnnny"},
		{page("b", "d", "f", "h"), "a", "b", "ynnnn"},
		{page("\x00", twelve, last), "\x00", twelve, "nynn"},
		{page("\x00", twelve, last), twelve, last, "nnyn"},
		{page("\x00", twelve, last), "twelve byte", twelve, "nynn"},
		{page(last), twelve, last, "yn"},
	} {
		for at := range len(c.p.Keys) + 1 {
			c.p.Go = at
			got := ""
			for k := range c.p.Kids {
				is, ok := impl.NeedsKid(c.p, k, c.from, c.to)
				if is {
					got += "y"
				} else {
					got += "n"
				}
				if !ok || is != slowNeeds(c.p, k, c.from, c.to) {
					t.Errorf("NeedsKid(%#v, %d, %q, %q) = %v, %v", c.p, k, c.from, c.to, is, ok)
				}
			}
			if got != c.want {
				t.Errorf("NeedsKid of %q, %q, %q: %s, want %s", c.p.Keys, c.from, c.to, got, c.want)
			}
		}
	}
}

// noKid asks NeedsKid for the zero answer.
func noKid(t *testing.T, why string, p impl.Shown, k int, from string, to string) {
	t.Helper()
	if is, ok := impl.NeedsKid(p, k, from, to); is || ok {
		t.Errorf("%s: NeedsKid(%#v, %d, %q, %q) = %v, %v", why, p, k, from, to, is, ok)
	}
}

func TestNeedsKidOfManyPages(t *testing.T) {
	ends := []string{"\x00", "\x00\x00", "A", "a", "aa", "b", "twelve byte", "twelve bytes", "u", strings.Repeat("\xff", 11), strings.Repeat("\xff", 12)}
	yes, no := 0, 0
	for _, p := range goodShown() {
		for i, to := range ends {
			for _, from := range ends[:i] {
				for k := range p.Kids {
					is, ok := impl.NeedsKid(p, k, from, to)
					if is != slowNeeds(p, k, from, to) || !ok {
						t.Fatalf("NeedsKid(%#v, %d, %q, %q) = %v, %v", p, k, from, to, is, ok)
					}
					if is {
						yes++
					} else {
						no++
					}
				}
				for _, k := range []int{-1, len(p.Kids), len(p.Kids) + 1, -256, 256, 1 << 32, math.MinInt, math.MaxInt} {
					noKid(t, "no such kid", p, k, from, to)
				}
			}
		}
	}
	if yes < 1000 || no < 1000 {
		t.Error(yes, no)
	}
	for why, p := range badShown() {
		for k := -1; k <= 5; k++ {
			noKid(t, why, p, k, "a", "z")
			noKid(t, why, p, k, "\x00", "A")
		}
	}
}

// AtPlace for every number below how many keys there are, and for those around.
func TestAtPlace(t *testing.T) {
	for _, tree := range proofTrees(t) {
		keys, ok := impl.KeysIn(tree)
		if !ok {
			t.Fatal("KeysIn", tree)
		}
		for n, want := range keys {
			key, val, ok := impl.AtPlace(tree, n)
			if has, is := impl.GetKey(tree, want); key != want || val != has || !ok || !is {
				t.Fatalf("AtPlace(%v, %d) = %q, %q, %v, want %q, %q", tree, n, key, val, ok, want, has)
			}
		}
		for _, n := range []int{-1, len(keys), len(keys) + 1, -256, 256, 1 << 32, -len(keys), -1 << 32, math.MinInt, math.MaxInt} {
			if key, val, ok := impl.AtPlace(tree, n); key != "" || val != "" || ok {
				t.Errorf("AtPlace of %d of %d keys = %q, %q, %v", n, len(keys), key, val, ok)
			}
		}
	}
	tree := pagesOf("(((a b) c (d e) f (g h)) i ((j k) l (m n) o (p q)))")
	for n, want := range strings.Fields("a b c d e f g h i j k l m n o p q") {
		if key, val, ok := impl.AtPlace(tree, n); key != want || val != "v"+want || !ok {
			t.Errorf("AtPlace of %d = %q, %q, %v", n, key, val, ok)
		}
	}
	if key, val, ok := impl.AtPlace(pagesOf("()"), 0); key != "" || val != "" || ok {
		t.Error("AtPlace of a tree without keys", key, val, ok)
	}
}

// noRange asks each function that takes a tree and a range for the zero answer.
func noRange(t *testing.T, why string, tree impl.Tree, from string, to string) {
	t.Helper()
	if keys, vals, ok := impl.RangeOf(tree, from, to); len(keys) != 0 || len(vals) != 0 || ok {
		t.Errorf("%s: RangeOf(%q, %q) = %q, %q, %v", why, from, to, keys, vals, ok)
	}
	if n, ok := impl.CountIn(tree, from, to); n != 0 || ok {
		t.Errorf("%s: CountIn(%q, %q) = %d, %v", why, from, to, n, ok)
	}
	if p, ok := impl.PiecesOf(tree, from, to); !isZeroPiece(p) || ok {
		t.Errorf("%s: PiecesOf(%q, %q) = %s, %v", why, from, to, pieceText(p), ok)
	}
}

func TestRangesOfTreesThatAreNotGood(t *testing.T) {
	for why, tree := range badTrees() {
		was := copyTree(tree)
		for _, ends := range [][]string{{"a", "c"}, {"\x00", "\xff"}, {"k100", "k139"}, {"x", "z"}} {
			noRange(t, why, tree, ends[0], ends[1])
		}
		for _, n := range []int{-1, 0, 1, 2, 39, 40} {
			if key, val, ok := impl.AtPlace(tree, n); key != "" || val != "" || ok {
				t.Errorf("%s: AtPlace of %d = %q, %q, %v", why, n, key, val, ok)
			}
		}
		if !samePages(tree, was) {
			t.Errorf("%s: the tree is changed", why)
		}
	}
}

// badRanges are no ranges for one reason each.
func badRanges() [][2]string {
	thirteen, long := strings.Repeat("m", 13), strings.Repeat("k", 100000)
	return [][2]string{
		{"", "b"}, {"a", ""}, {"", ""}, {"a", "a"}, {"b", "a"}, {"a\x00", "a"}, {"b", "aa"}, {"\x00", "\x00"}, {"\xff", "\x00"}, {"\xff", "a"},
		{thirteen, "z"}, {"a", thirteen}, {thirteen, strings.Repeat("n", 13)}, {strings.Repeat("m", 12), thirteen}, {strings.Repeat("\x00", 13), "b"}, {"a", strings.Repeat("\xff", 13)},
		{strings.Repeat("\xff", 12), strings.Repeat("\xff", 12)}, {strings.Repeat("a", 256+5), "b"}, {"a", strings.Repeat("b", 256+5)}, {long, "z"}, {"a", long},
	}
}

func TestRangesThatAreNotAsSaid(t *testing.T) {
	one := impl.Piece{}
	page := kidsPage("b")
	for _, ends := range badRanges() {
		from, to := ends[0], ends[1]
		for _, tree := range goodTrees() {
			noRange(t, "no range", tree, from, to)
			for _, p := range []impl.Piece{mustPieces(t, tree, "\x00", "\xff"), mustPieces(t, tree, "a", "b"), mustPieces(t, tree, "x", "z")} {
				refusedPiece(t, "no range", mustRoot(t, tree), from, to, p)
			}
		}
		refusedPiece(t, "no range", slowPageDigest(one.Page), from, to, one)
		for k := range page.Kids {
			noKid(t, "no range", page, k, from, to)
		}
		for i, kids := range [][]int{nil, {0}, {1}, {0, 1}} {
			p := impl.Piece{Page: page, Open: kids, Kids: make([]impl.Piece, len(kids))}
			refusedPiece(t, "no range, kids "+strconv.Itoa(i), remadePieces(&p), from, to, p)
		}
	}
}

// from and to of 1 and of 12 bytes, at pages of 0 and of Most keys, at trees of 0 and of MaxKeys.
func TestRangesAtTheirLimits(t *testing.T) {
	low, high := strings.Repeat("\x00", 12), strings.Repeat("\xff", 12)
	for _, tree := range []impl.Tree{pagesOf("()"), pagesOf("(a b c d)"), pagesOf("((a b c d) e (f g h i))"), fullTree(40), {Pages: []impl.Page{{Keys: []string{low, high}, Vals: []string{"", high}}}}} {
		digests := slowDigests(tree)
		all, _ := impl.KeysIn(tree)
		for _, ends := range [][2]string{{"\x00", "\x01"}, {"\x00", "\xff"}, {low, high}, {low, "\xff"}, {"\x00", high}, {"\x00", low}, {"\xff", high}, {"a", "twelve bytes"}, {"twelve byte", "twelve bytes"}} {
			many := checkRange(t, tree, digests, ends[0], ends[1])
			if ends == [2]string{"\x00", high} && len(all) != 2 && many != len(all) {
				t.Errorf("%d keys of %d", many, len(all))
			}
		}
	}
}

// Pieces with a page that is not good, the digests of which are right.
func TestPiecesOfPagesThatAreNotGood(t *testing.T) {
	for why, page := range badShown() {
		for _, ends := range [][2]string{{"\x00", "\xff"}, {"a", "c"}, {"x", "z"}} {
			p := impl.Piece{Page: copyShown(page)}
			root := slowPageDigest(p.Page)
			refusedPiece(t, why, root, ends[0], ends[1], p)
			for k := range min(len(page.Kids), 5) {
				p.Open, p.Kids = append(p.Open, k), append(p.Kids, impl.Piece{})
				refusedPiece(t, why, root, ends[0], ends[1], p)
				if slices.IndexFunc(page.Kids, func(s string) bool { return len(s) != 4 }) < 0 {
					q := copyPiece(p)
					refusedPiece(t, why, remadePieces(&q), ends[0], ends[1], q)
				}
			}
			// And as a kid, the first or the last one, two pages down.
			for at := range 2 {
				kids := []impl.Piece{{}, {}}
				kids[at] = impl.Piece{Page: copyShown(page)}
				inner := impl.Piece{Page: kidsPage("b"), Open: []int{0, 1}, Kids: kids}
				outer := impl.Piece{Page: kidsPage(), Open: []int{0}, Kids: []impl.Piece{inner}}
				refusedPiece(t, why, remadePieces(&outer), "a", "z", outer)
				if page.Go != 0 || len(page.Keys) == 0 {
					continue
				}
				outer.Kids[0].Kids[at].Page = impl.Shown{Keys: []string{"d"}, Vals: []string{"1"}}
				checkPieces(t, remadePieces(&outer), "a", "z", outer, [][]string{{"d", "b"}, {"b", "d"}}[at], [][]string{{"1", ""}, {"", "1"}}[at])
			}
		}
	}
}

// sparePiece is a copy of a piece each list of which has something behind its length; all is the whole memory.
func sparePiece(p impl.Piece) (impl.Piece, func() impl.Piece) {
	way, allPage := spareWay([]impl.Shown{p.Page})
	c := impl.Piece{Page: way[0], Open: append(slices.Clone(p.Open), 0, 3)[:len(p.Open)]}
	var within []func() impl.Piece
	for _, kid := range p.Kids {
		spare, all := sparePiece(kid)
		c.Kids, within = append(c.Kids, spare), append(within, all)
	}
	behind := impl.Piece{Page: impl.Shown{Keys: []string{"x"}, Vals: []string{"1"}}, Open: []int{4}}
	c.Kids = append(c.Kids, behind, behind)[:len(c.Kids)]
	return c, func() impl.Piece {
		whole := impl.Piece{Page: copyShown(allPage()[0]), Open: slices.Clone(c.Open[:cap(c.Open)])}
		for _, all := range within {
			whole.Kids = append(whole.Kids, all())
		}
		whole.Kids = append(whole.Kids, c.Kids[len(c.Kids):cap(c.Kids)]...)
		return copyPiece(whole)
	}
}

func TestPiecesAreNotWrittenInto(t *testing.T) {
	for _, plain := range goodTrees() {
		tree, allPages := sparePages(plain)
		pagesWere := allPages()
		digests := slowDigests(plain)
		for i := range digests {
			impl.AtPlace(tree, i)
		}
		for _, ends := range [][2]string{{"\x00", "\xff"}, {"a", "b"}, {"b", "e"}, {"c", "m"}, {"k107", "k1155"}, {"x", "z"}} {
			from, to := ends[0], ends[1]
			checkRange(t, tree, digests, from, to)
			p := mustPieces(t, plain, from, to)
			spare, all := sparePiece(p)
			was := all()
			keys, vals := slowRange(t, plain, from, to)
			checkPieces(t, digests[0], from, to, spare, keys, vals)
			pages, _ := slowSize(p)
			if n, ok := impl.SizeOf(spare); n != pages || !ok {
				t.Fatalf("SizeOf = %d, %v, want %d", n, ok, pages)
			}
			for _, q := range flatPieces(&spare) {
				for k := range len(q.Page.Kids) + 2 {
					is, ok := impl.NeedsKid(q.Page, k, from, to)
					if want := k < len(q.Page.Kids); ok != want || is != (want && slowNeeds(q.Page, k, from, to)) {
						t.Fatalf("NeedsKid of kid %d of %d = %v, %v", k, len(q.Page.Kids), is, ok)
					}
				}
			}
			for _, kid := range flatPieces(&spare) {
				kid.Open = kid.Open[:max(len(kid.Open)-1, 0)]
			}
			impl.CheckPieces(digests[0], from, to, spare)
			if !samePiece(all(), was) {
				t.Fatal("a piece, or what lies behind its lists, is changed")
			}
		}
		if !samePages(allPages(), pagesWere) || !samePages(tree, plain) {
			t.Fatal("a tree, or what lies behind its lists, is changed")
		}
	}
	// What stands behind the lists would make these pieces right.
	tree := pagesOf("((a b) c (d e) f (g h))")
	root, p := mustRoot(t, tree), mustPieces(t, tree, "a", "g")
	short := copyPiece(p)
	short.Open, short.Kids = short.Open[:2], short.Kids[:2]
	refusedPiece(t, "the last kid lies behind the length", root, "a", "g", short)
	short = copyPiece(p)
	short.Page.Keys, short.Page.Vals, short.Page.Kids = short.Page.Keys[:1], short.Page.Vals[:1], short.Page.Kids[:2]
	refusedPiece(t, "the last key lies behind the length", root, "a", "g", short)
}

// pieceTexts are all texts of a piece.
func pieceTexts(p impl.Piece) []string {
	var l []string
	for _, q := range flatPieces(&p) {
		l = append(l, shownTexts(q.Page)...)
	}
	return l
}

// spoilAll writes into all memory of one list of a piece after the other, also behind its length, and asks that no other list is changed by it.
func spoilAll(t *testing.T, p *impl.Piece) {
	t.Helper()
	was := copyPiece(*p)
	for i, q := range flatPieces(p) {
		for _, list := range []*[]string{&q.Page.Keys, &q.Page.Vals, &q.Page.Kids} {
			kept := slices.Clone(*list)
			overwrite(*list)
			*list = kept
			if !samePiece(*p, was) {
				t.Fatalf("page %d shares memory with another list", i)
			}
		}
		kept := slices.Clone(q.Open)
		for k := range q.Open[:cap(q.Open)] {
			q.Open[:cap(q.Open)][k] = -7
		}
		q.Open = kept
		own := q.Kids
		q.Kids = slices.Clone(own)
		clear(own[:cap(own)])
		if !samePiece(*p, was) {
			t.Fatalf("piece %d shares memory with another one", i)
		}
		// Back to where the pieces within are looked at next.
		copy(own, q.Kids)
		q.Kids = own
	}
}

func TestRangeAnswersAreNewMemory(t *testing.T) {
	for _, text := range []string{"()", "(a b c d)", "((a b) c (d e))", "(((a b) c (d e) f (g h)) i ((j k) l (m n) o (p q)))"} {
		plain := pagesOf(text)
		tree := impl.Tree{}
		for _, p := range plain.Pages {
			c := impl.Page{Kids: slices.Clone(p.Kids)}
			for k := range p.Keys {
				c.Keys, c.Vals = append(c.Keys, strings.Clone(p.Keys[k])), append(c.Vals, strings.Clone(p.Vals[k]))
			}
			tree.Pages = append(tree.Pages, c)
		}
		root, digests := mustRoot(t, tree), slowDigests(tree)
		for _, ends := range [][2]string{{"\x00", "\xff"}, {"a", "b"}, {"b", "e"}, {"e", "m"}, {"x", "z"}} {
			from, to := strings.Clone(ends[0]), strings.Clone(ends[1])
			given := append(textsOf(tree), from, to, root)
			keys, vals, ok := impl.RangeOf(tree, from, to)
			if !ok || shareTexts(append(slices.Clone(keys), vals...), given) || shareTexts(keys, vals) {
				t.Fatalf("RangeOf(%s, %q, %q) hands out texts of the tree", text, from, to)
			}
			checkListsApart(t, keys, vals)
			p := mustPieces(t, tree, from, to)
			if shareTexts(pieceTexts(p), given) {
				t.Fatalf("PiecesOf(%s, %q, %q) hands out texts of the tree", text, from, to)
			}
			keys, vals, ok = impl.CheckPieces(root, from, to, p)
			if !ok || shareTexts(append(slices.Clone(keys), vals...), append(pieceTexts(p), given...)) || shareTexts(keys, vals) {
				t.Fatalf("CheckPieces(%s, %q, %q) hands out texts of the piece", text, from, to)
			}
			checkListsApart(t, keys, vals)
			want := slowPiece(plain, 0, digests, from, to)
			if !samePiece(p, want) {
				t.Fatalf("CheckPieces(%s, %q, %q) shares lists with the piece", text, from, to)
			}
			spoilAll(t, &p)
			for _, q := range flatPieces(&p) {
				overwrite(q.Page.Keys)
				overwrite(q.Page.Vals)
				overwrite(q.Page.Kids)
			}
			if !samePages(tree, plain) || !samePiece(mustPieces(t, tree, from, to), want) {
				t.Fatalf("the answers of %s, %q, %q share lists with the tree, or are kept", text, from, to)
			}
		}
		for n := range len(textsOf(tree)) / 2 {
			if key, val, ok := impl.AtPlace(tree, n); !ok || shareTexts([]string{key, val}, textsOf(tree)) {
				t.Fatalf("AtPlace of %d hands out texts of the tree: %q, %q, %v", n, key, val, ok)
			}
		}
	}
}

// checkListsApart writes into all memory of two lists, also behind their lengths, and asks that each is changed alone.
func checkListsApart(t *testing.T, keys []string, vals []string) {
	t.Helper()
	were := slices.Clone(vals)
	for _, l := range [][]string{keys, vals} {
		for _, s := range l[len(l):cap(l)] {
			if s != "" {
				t.Fatalf("%q is handed out behind the length of a list", s)
			}
		}
	}
	overwrite(keys)
	if !slices.Equal(vals, were) {
		t.Fatal("the values share memory with the keys")
	}
	overwrite(vals)
}

// The answers hang on the arguments alone, not on what was asked ahead.
func TestRangesAnswerTheSameAgain(t *testing.T) {
	tree := pagesOf("((a b) c (d e) f (g h i j))")
	digests := slowDigests(tree)
	p := mustPieces(t, tree, "b", "h")
	for why, other := range badTrees() {
		impl.RangeOf(other, "b", "h")
		impl.PiecesOf(other, "b", "h")
		impl.AtPlace(other, 3)
		for _, page := range badShown() {
			impl.CheckPieces(digests[0], "b", "h", impl.Piece{Page: page, Open: p.Open, Kids: p.Kids})
		}
		if many := checkRange(t, tree, digests, "b", "h"); many != 6 {
			t.Fatalf("another answer after: %s", why)
		}
		if key, val, ok := impl.AtPlace(tree, 3); key != "d" || val != "vd" || !ok {
			t.Fatalf("another answer after: %s", why)
		}
	}
}
