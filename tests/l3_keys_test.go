package tests

import (
	"fmt"
	"math"
	"slices"
	"strconv"
	"strings"
	"testing"
	"unsafe"

	"loop.example/g00537/impl"
)

const (
	treeHeight   = 3
	treeLeaves   = 8
	mostTreeSeed = 8
)

func TestKeysConstants(t *testing.T) {
	if impl.Height != treeHeight || impl.MaxUses != treeLeaves {
		t.Fatal(impl.Height, impl.MaxUses)
	}
}

// treeSeeds has the shortest and the longest seeds, the bytes at both ends, and seeds that end in a leaf's number.
func treeSeeds() []string {
	return []string{"s", "seed", "\x00", "\xff", "\x00\x00", "Seed", "seed\x00", "seed\x07", sampleText(7, 1), sampleText(mostTreeSeed, 2), strings.Repeat("\xff", mostTreeSeed), strings.Repeat("\x00", mostTreeSeed)}
}

func badTreeSeeds() []string {
	return []string{"", strings.Repeat("s", 9), sampleText(9, 1), sampleText(mostSeed, 2), sampleText(17, 3), strings.Repeat("s", 600), strings.Repeat("s", 100000)}
}

// badLeafNos has numbers whose lowest byte would be a leaf's number.
func badLeafNos() []int {
	return []int{-1, 8, 9, -8, 255, 256, 263, -256, 1 << 32, math.MaxInt32, math.MinInt32, math.MaxInt, math.MinInt, math.MaxInt - 7, math.MinInt + 1}
}

func badSigners() []impl.Signer {
	var l []impl.Signer
	for _, seed := range badTreeSeeds() {
		for _, used := range []int{0, 7, 8, -1, 9} {
			l = append(l, impl.Signer{Seed: seed, Used: used})
		}
	}
	for _, used := range badLeafNos() {
		if used != treeLeaves {
			l = append(l, impl.Signer{Seed: "seed", Used: used}, impl.Signer{Seed: "s", Used: used})
		}
	}
	return l
}

// slowNode is a place of the tree, found from its two kids, by the library's Adler sum.
func slowNode(seed string, level int, at int) string {
	if level == 0 {
		return slowPublic(seed + string([]byte{byte(at)}))
	}
	return plainDigest('t', slowNode(seed, level-1, 2*at)+slowNode(seed, level-1, 2*at+1))
}

// slowWay names the three places by hand: of a leaf, of a pair, of a half.
func slowWay(seed string, no int) []string {
	places := [treeLeaves][treeHeight]int{{1, 1, 1}, {0, 1, 1}, {3, 0, 1}, {2, 0, 1}, {5, 3, 0}, {4, 3, 0}, {7, 2, 0}, {6, 2, 0}}
	var way []string
	for level, at := range places[no] {
		way = append(way, slowNode(seed, level, at))
	}
	return way
}

// slowTopFrom reads the leaf's number as three binary digits: a 1 is the second of its pair.
func slowTopFrom(no int, leaf string, way []string) string {
	digits := fmt.Sprintf("%03b", no)
	for level, other := range way {
		if digits[treeHeight-1-level] == '1' {
			leaf = plainDigest('t', other+leaf)
		} else {
			leaf = plainDigest('t', leaf+other)
		}
	}
	return leaf
}

func slowHeld(top string, text string, x impl.Seal) bool {
	return slowTopFrom(x.No, slowFrom(text, x.Sign), x.Way) == top
}

func mustTop(t *testing.T, seed string) string {
	t.Helper()
	top, ok := impl.TopOf(seed)
	if !ok || len(top) != 4 {
		t.Fatalf("TopOf(%q) = %q, %v", seed, top, ok)
	}
	return top
}

func mustWay(t *testing.T, seed string, no int) []string {
	t.Helper()
	way, ok := impl.WayOf(seed, no)
	if !ok || len(way) != treeHeight {
		t.Fatalf("WayOf(%q, %d) = %q, %v", seed, no, way, ok)
	}
	return way
}

func mustLeaf(t *testing.T, seed string, no int) string {
	t.Helper()
	leaf, ok := impl.LeafOf(seed, no)
	if !ok || len(leaf) != 4 {
		t.Fatalf("LeafOf(%q, %d) = %q, %v", seed, no, leaf, ok)
	}
	return leaf
}

func mustSeal(t *testing.T, s impl.Signer, text string) (impl.Signer, impl.Seal) {
	t.Helper()
	next, x, ok := impl.SealText(s, text)
	if !ok {
		t.Fatalf("SealText(%v, %q) tells false", s, text)
	}
	return next, x
}

func copySeal(x impl.Seal) impl.Seal {
	return impl.Seal{No: x.No, Sign: slices.Clone(x.Sign), Way: slices.Clone(x.Way)}
}

func sameSeal(a impl.Seal, b impl.Seal) bool {
	return a.No == b.No && slices.Equal(a.Sign, b.Sign) && slices.Equal(a.Way, b.Way)
}

// spoil gives a list with one byte of one of its texts one more.
func spoil(l []string, k int, i int) []string {
	l = slices.Clone(l)
	b := []byte(l[k])
	b[i]++
	l[k] = string(b)
	return l
}

func TestGoodSignerLimits(t *testing.T) {
	for _, seed := range treeSeeds() {
		for used := 0; used <= treeLeaves; used++ {
			if !impl.GoodSigner(impl.Signer{Seed: seed, Used: used}) {
				t.Errorf("GoodSigner(%q, %d) is false", seed, used)
			}
		}
	}
	for _, s := range badSigners() {
		if impl.GoodSigner(s) {
			t.Errorf("GoodSigner of a seed of %d bytes and %d used is true", len(s.Seed), s.Used)
		}
	}
}

func TestLeafOfIsAPublicKey(t *testing.T) {
	for _, seed := range treeSeeds() {
		for no := range treeLeaves {
			if leaf := mustLeaf(t, seed, no); leaf != slowNode(seed, 0, no) || leaf != mustPublic(t, seed+string([]byte{byte(no)})) {
				t.Errorf("LeafOf(%q, %d) = %x", seed, no, leaf)
			}
		}
	}
}

func TestTopOfIsPairByPair(t *testing.T) {
	for _, seed := range treeSeeds() {
		if top := mustTop(t, seed); top != slowNode(seed, treeHeight, 0) {
			t.Errorf("TopOf(%q) = %x; want %x", seed, top, slowNode(seed, treeHeight, 0))
		}
	}
}

func TestWayOfIsTheOtherOfEachPairUpward(t *testing.T) {
	for _, seed := range treeSeeds() {
		for no := range treeLeaves {
			way := mustWay(t, seed, no)
			if want := slowWay(seed, no); !slices.Equal(way, want) {
				t.Errorf("WayOf(%q, %d) = %x; want %x", seed, no, way, want)
			}
			if way[0] != mustLeaf(t, seed, no^1) {
				t.Errorf("WayOf(%q, %d) does not begin with the leaf beside it", seed, no)
			}
		}
	}
}

func TestEveryLeafLeadsToTheTop(t *testing.T) {
	for _, seed := range treeSeeds() {
		for no := range treeLeaves {
			top, ok := impl.TopFrom(no, mustLeaf(t, seed, no), mustWay(t, seed, no))
			if top != mustTop(t, seed) || !ok {
				t.Errorf("TopFrom leaf %d of %q = %x, %v", no, seed, top, ok)
			}
		}
	}
}

// Digests that come from no tree are gone up with all the same.
func TestTopFromOfAnyDigests(t *testing.T) {
	ways := [][]string{{"abcd", "efgh", "ijkl"}, {"\x00\x00\x00\x00", "\x00\x00\x00\x00", "\x00\x00\x00\x00"}, slices.Repeat([]string{"\xff\xff\xff\xff"}, 3), {"abcd", "abcd", "dcba"}}
	for _, way := range ways {
		for _, leaf := range chainStarts {
			for no := range treeLeaves {
				top, ok := impl.TopFrom(no, leaf, way)
				if want := slowTopFrom(no, leaf, way); top != want || !ok {
					t.Errorf("TopFrom(%d, %x, %x) = %x, %v; want %x", no, leaf, way, top, ok, want)
				}
			}
		}
	}
}

// Each digit of the number, each byte of the leaf and of the way counts.
func TestTopFromHangsOnAll(t *testing.T) {
	leaf, way := mustLeaf(t, "seed", 2), mustWay(t, "seed", 2)
	top := mustTop(t, "seed")
	for no := range treeLeaves {
		if got, ok := impl.TopFrom(no, leaf, way); (got == top) != (no == 2) || !ok {
			t.Errorf("the leaf 2 as %d: %x, %v", no, got, ok)
		}
	}
	for i := range 4 {
		if got, ok := impl.TopFrom(2, spoil([]string{leaf}, 0, i)[0], way); got == top || !ok {
			t.Errorf("byte %d of the leaf spoilt: %x, %v", i, got, ok)
		}
		for k := range treeHeight {
			if got, ok := impl.TopFrom(2, leaf, spoil(way, k, i)); got == top || !ok {
				t.Errorf("byte %d of digest %d spoilt: %x, %v", i, k, got, ok)
			}
		}
	}
}

func TestLeftIn(t *testing.T) {
	for _, seed := range treeSeeds() {
		for used := 0; used <= treeLeaves; used++ {
			if n, ok := impl.LeftIn(impl.Signer{Seed: seed, Used: used}); n != treeLeaves-used || !ok {
				t.Errorf("LeftIn(%q, %d) = %d, %v", seed, used, n, ok)
			}
		}
	}
	for _, s := range badSigners() {
		if n, ok := impl.LeftIn(s); n != 0 || ok {
			t.Errorf("LeftIn of a seed of %d bytes and %d used = %d, %v", len(s.Seed), s.Used, n, ok)
		}
	}
}

// Promise 3.
func TestSignerSealsAsManyTextsAsItHasKeys(t *testing.T) {
	texts := signedTexts()
	for n, seed := range treeSeeds() {
		s, top := impl.Signer{Seed: seed}, mustTop(t, seed)
		for no := range treeLeaves {
			text := texts[(n+3*no)%len(texts)]
			if left, ok := impl.LeftIn(s); left != treeLeaves-no || !ok {
				t.Errorf("%q: ahead of seal %d LeftIn = %d, %v", seed, no, left, ok)
			}
			next, x := mustSeal(t, s, text)
			if x.No != no || next != (impl.Signer{Seed: seed, Used: no + 1}) || !impl.GoodSigner(next) {
				t.Errorf("%q: seal %d has the number %d, the signer is %v then", seed, no, x.No, next)
			}
			if is, ok := impl.CheckSeal(top, text, x); !is || !ok {
				t.Errorf("%q: CheckSeal of seal %d = %v, %v", seed, no, is, ok)
			}
			s = next
		}
		if left, ok := impl.LeftIn(s); left != 0 || !ok {
			t.Errorf("%q: LeftIn of a signer that is used up = %d, %v", seed, left, ok)
		}
		for _, text := range []string{"", "more", texts[n]} {
			if next, x, ok := impl.SealText(s, text); ok || next != (impl.Signer{}) || !sameSeal(x, impl.Seal{}) {
				t.Errorf("%q: one seal more: %v, %v, %v", seed, next, x, ok)
			}
		}
	}
}

func TestSealIsASignAndAWay(t *testing.T) {
	for _, seed := range treeSeeds() {
		for no := range treeLeaves {
			for _, text := range []string{"", "pay 5", strings.Repeat("x", mostSigned)} {
				_, x := mustSeal(t, impl.Signer{Seed: seed, Used: no}, text)
				want := impl.Seal{No: no, Sign: mustSign(t, seed+string([]byte{byte(no)}), text), Way: slowWay(seed, no)}
				if !sameSeal(x, want) {
					t.Errorf("SealText(%q, %d, %q) = %v; want %v", seed, no, text, x, want)
				}
			}
		}
	}
}

// The same text is signed by another key each time.
func TestNoKeySealsTwice(t *testing.T) {
	for _, seed := range treeSeeds() {
		s := impl.Signer{Seed: seed}
		var signs []string
		for range treeLeaves {
			next, x := mustSeal(t, s, "pay 5")
			signs = append(signs, strings.Join(x.Sign, ""))
			s = next
		}
		slices.Sort(signs)
		if len(slices.Compact(signs)) != treeLeaves {
			t.Errorf("%q: a key is used again", seed)
		}
	}
}

func TestSealAtEveryTextLength(t *testing.T) {
	top := mustTop(t, "seed")
	for n := 0; n <= mostSigned; n++ {
		text := sampleText(n, uint32(n))
		_, x := mustSeal(t, impl.Signer{Seed: "seed", Used: n % treeLeaves}, text)
		if is, ok := impl.CheckSeal(top, text, x); !is || !ok {
			t.Errorf("CheckSeal of %d bytes = %v, %v", n, is, ok)
		}
	}
}

func TestSealOfAnotherTextIsNotHeld(t *testing.T) {
	for _, seed := range treeSeeds() {
		top := mustTop(t, seed)
		for no := range treeLeaves {
			_, x := mustSeal(t, impl.Signer{Seed: seed, Used: no}, "pay 5")
			for _, other := range signedTexts() {
				is, ok := impl.CheckSeal(top, other, x)
				if is != slowHeld(top, other, x) || is != (other == "pay 5") || !ok {
					t.Errorf("%q, key %d: CheckSeal of %q by the seal of another text = %v, %v", seed, no, other, is, ok)
				}
			}
		}
	}
}

// Two texts of one digest are sealed alike, and the digests do not tell them apart.
func TestSealOfClashingTextIsHeld(t *testing.T) {
	_, x := mustSeal(t, impl.Signer{Seed: "seed", Used: 4}, "aca")
	if is, ok := impl.CheckSeal(mustTop(t, "seed"), "bab", x); !is || !ok {
		t.Error(is, ok)
	}
}

// checkSpoilt holds CheckSeal against what the digests tell, and counts the seals that they tell of.
func checkSpoilt(t *testing.T, what string, top string, x impl.Seal, told *int, all *int) {
	t.Helper()
	is, ok := impl.CheckSeal(top, "pay 5", x)
	want := slowHeld(top, "pay 5", x)
	if is != want || !ok {
		t.Errorf("%s: CheckSeal = %v, %v; want %v", what, is, ok, want)
	}
	*all++
	if !want {
		*told++
	}
}

func TestSpoiltSealIsNotHeld(t *testing.T) {
	told, all := 0, 0
	for _, seed := range treeSeeds() {
		top := mustTop(t, seed)
		for no := range treeLeaves {
			_, good := mustSeal(t, impl.Signer{Seed: seed, Used: no}, "pay 5")
			for other := range treeLeaves {
				if other != no {
					x := copySeal(good)
					x.No = other
					checkSpoilt(t, fmt.Sprintf("%q, %d as %d", seed, no, other), top, x, &told, &all)
				}
			}
			for k := range keyLength {
				x := copySeal(good)
				x.Sign = spoil(good.Sign, k, k%4)
				checkSpoilt(t, fmt.Sprintf("%q, %d, part %d of the sign", seed, no, k), top, x, &told, &all)
			}
			for k := range treeHeight * 4 {
				x := copySeal(good)
				x.Way = spoil(good.Way, k/4, k%4)
				checkSpoilt(t, fmt.Sprintf("%q, %d, byte %d of the way", seed, no, k), top, x, &told, &all)
			}
		}
	}
	// Four bytes of a sum may come out alike by chance, but seldom.
	if told*50 < all*49 {
		t.Errorf("the digests tell %d of %d spoilt seals", told, all)
	}
}

// For this one key the digests tell every change, so none may be held.
func TestEverySpoiltByteOfOneSealIsToldOf(t *testing.T) {
	top := mustTop(t, "seed")
	_, good := mustSeal(t, impl.Signer{Seed: "seed", Used: 5}, "pay 5")
	var seals []impl.Seal
	for k := range keyLength * 4 {
		seals = append(seals, impl.Seal{No: 5, Sign: spoil(good.Sign, k/4, k%4), Way: good.Way})
	}
	for k := range treeHeight * 4 {
		seals = append(seals, impl.Seal{No: 5, Sign: good.Sign, Way: spoil(good.Way, k/4, k%4)})
	}
	for no := range treeLeaves {
		if no != 5 {
			seals = append(seals, impl.Seal{No: no, Sign: good.Sign, Way: good.Way}, impl.Seal{No: no, Sign: good.Sign, Way: mustWay(t, "seed", no)})
		}
	}
	for i, x := range seals {
		if is, ok := impl.CheckSeal(top, "pay 5", x); is || !ok {
			t.Errorf("spoilt seal %d: %v, %v", i, is, ok)
		}
	}
}

func TestSealUnderAnotherTopIsNotHeld(t *testing.T) {
	for _, seed := range treeSeeds() {
		_, x := mustSeal(t, impl.Signer{Seed: seed, Used: 3}, "pay 5")
		for _, other := range treeSeeds() {
			if is, ok := impl.CheckSeal(mustTop(t, other), "pay 5", x); is != (seed == other) || !ok {
				t.Errorf("CheckSeal of a seal by %q under the top of %q = %v, %v", seed, other, is, ok)
			}
		}
		for i := range 4 {
			top := spoil([]string{mustTop(t, seed)}, 0, i)[0]
			if is, ok := impl.CheckSeal(top, "pay 5", x); is || !ok {
				t.Errorf("%q, byte %d of the top spoilt: %v, %v", seed, i, is, ok)
			}
		}
	}
}

// Promise 19, from here on.
func TestTreeSeedsThatAreNotAsSaid(t *testing.T) {
	nos := append(badLeafNos(), 0, 1, 7)
	for _, seed := range badTreeSeeds() {
		if top, ok := impl.TopOf(seed); top != "" || ok {
			t.Errorf("TopOf of %d bytes = %q, %v", len(seed), top, ok)
		}
		for _, no := range nos {
			if leaf, ok := impl.LeafOf(seed, no); leaf != "" || ok {
				t.Errorf("LeafOf of %d bytes, %d = %q, %v", len(seed), no, leaf, ok)
			}
			if way, ok := impl.WayOf(seed, no); len(way) != 0 || ok {
				t.Errorf("WayOf of %d bytes, %d = %q, %v", len(seed), no, way, ok)
			}
		}
	}
}

func TestLeafNumbersThatAreNotAsSaid(t *testing.T) {
	_, x := mustSeal(t, impl.Signer{Seed: "seed"}, "pay 5")
	for _, no := range badLeafNos() {
		for _, seed := range treeSeeds() {
			if leaf, ok := impl.LeafOf(seed, no); leaf != "" || ok {
				t.Errorf("LeafOf(%q, %d) = %q, %v", seed, no, leaf, ok)
			}
			if way, ok := impl.WayOf(seed, no); len(way) != 0 || ok {
				t.Errorf("WayOf(%q, %d) = %q, %v", seed, no, way, ok)
			}
		}
		if top, ok := impl.TopFrom(no, "abcd", x.Way); top != "" || ok {
			t.Errorf("TopFrom(%d, ..) = %q, %v", no, top, ok)
		}
		wrong := copySeal(x)
		wrong.No = no
		if is, ok := impl.CheckSeal(mustTop(t, "seed"), "pay 5", wrong); is || ok {
			t.Errorf("CheckSeal with the number %d = %v, %v", no, is, ok)
		}
	}
}

func TestSealTextThatIsNotAsSaid(t *testing.T) {
	check := func(s impl.Signer, text string) {
		t.Helper()
		next, x, ok := impl.SealText(s, text)
		if ok || next != (impl.Signer{}) || !sameSeal(x, impl.Seal{}) {
			t.Errorf("SealText, a seed of %d bytes, %d used, a text of %d = %v, %v, %v", len(s.Seed), s.Used, len(text), next, x, ok)
		}
	}
	for _, s := range badSigners() {
		for _, text := range []string{"", "pay 5", strings.Repeat("x", mostSigned), strings.Repeat("x", mostSigned+1)} {
			check(s, text)
		}
	}
	for _, n := range []int{201, 202, 600, 601, 100000} {
		for used := 0; used <= treeLeaves; used++ {
			check(impl.Signer{Seed: "seed", Used: used}, strings.Repeat("x", n))
		}
	}
	check(impl.Signer{}, "")
}

// badWays has lists of a wrong length, and a digest of a wrong length at each place.
func badWays(good []string) [][]string {
	l := [][]string{nil, {}, good[:1], good[:2], append(slices.Clone(good), good[0]), slices.Repeat(good, 2), slices.Repeat([]string{"abcd"}, 10000), make([]string, treeHeight)}
	for k := range treeHeight {
		for _, digest := range []string{"", "abc", "abcde", "abcdefgh", strings.Repeat("x", 600), strings.Repeat("x", 100000)} {
			spoilt := slices.Clone(good)
			spoilt[k] = digest
			l = append(l, spoilt)
		}
	}
	return l
}

var badDigests = []string{"", "a", "abc", "abcde", "abcdefgh", strings.Repeat("x", 600), strings.Repeat("x", 100000)}

func TestTopFromThatIsNotAsSaid(t *testing.T) {
	good := mustWay(t, "seed", 3)
	for no := range treeLeaves {
		for i, way := range badWays(good) {
			if top, ok := impl.TopFrom(no, "abcd", way); top != "" || ok {
				t.Errorf("TopFrom(%d), bad way %d = %q, %v", no, i, top, ok)
			}
		}
		for _, leaf := range badDigests {
			if top, ok := impl.TopFrom(no, leaf, good); top != "" || ok {
				t.Errorf("TopFrom(%d), a leaf of %d bytes = %q, %v", no, len(leaf), top, ok)
			}
		}
	}
}

func TestCheckSealThatIsNotAsSaid(t *testing.T) {
	top := mustTop(t, "seed")
	_, good := mustSeal(t, impl.Signer{Seed: "seed", Used: 6}, "pay 5")
	check := func(what string, top string, text string, x impl.Seal) {
		t.Helper()
		if is, ok := impl.CheckSeal(top, text, x); is || ok {
			t.Errorf("CheckSeal, %s = %v, %v", what, is, ok)
		}
	}
	for _, wrong := range badDigests {
		check("a top of "+strconv.Itoa(len(wrong))+" bytes", wrong, "pay 5", good)
	}
	for _, n := range []int{201, 202, 600, 601, 100000} {
		check("a text of "+strconv.Itoa(n)+" bytes", top, strings.Repeat("x", n), good)
	}
	for i, sign := range badSigns(good.Sign) {
		check("bad sign "+strconv.Itoa(i), top, "pay 5", impl.Seal{No: 6, Sign: sign, Way: good.Way})
	}
	for i, way := range badWays(good.Way) {
		check("bad way "+strconv.Itoa(i), top, "pay 5", impl.Seal{No: 6, Sign: good.Sign, Way: way})
	}
	check("the zero seal", top, "pay 5", impl.Seal{})
	check("no top, the zero seal", "", "", impl.Seal{})
}

// Lists are unchanged, and so is what lies behind their length, which is not read either.
func TestKeysWriteIntoNoArgument(t *testing.T) {
	top := mustTop(t, "seed")
	_, x := mustSeal(t, impl.Signer{Seed: "seed", Used: 2}, "pay 5")
	sign, way := append(slices.Clone(x.Sign), "behind", "more"), append(slices.Clone(x.Way), "behind", "more")
	signWas, wayWas := slices.Clone(sign), slices.Clone(way)
	short := impl.Seal{No: 2, Sign: sign[:keyLength], Way: way[:treeHeight]}
	if is, ok := impl.CheckSeal(top, "pay 5", short); !is || !ok {
		t.Error("what lies behind the lists of a seal is read")
	}
	if got, ok := impl.TopFrom(2, mustLeaf(t, "seed", 2), way[:treeHeight]); got != top || !ok {
		t.Error("what lies behind the way is read")
	}
	impl.CheckSeal(top, "pay 6", impl.Seal{No: 3, Sign: sign[:keyLength], Way: way})
	impl.CheckSeal(top, "pay 6", impl.Seal{No: 9, Sign: sign, Way: way[:2]})
	impl.CheckSeal("", strings.Repeat("x", 201), short)
	impl.TopFrom(-1, "abc", way)
	impl.TopFrom(5, "abcd", way[:2])
	if !slices.Equal(sign, signWas) || !slices.Equal(way, wayWas) {
		t.Errorf("a list is changed: %q, %q", sign, way)
	}
	s := impl.Signer{Seed: "seed", Used: 2}
	mustSeal(t, s, "pay 5")
	if s != (impl.Signer{Seed: "seed", Used: 2}) {
		t.Error("the signer is changed", s)
	}
}

// overwrite spoils all of a list's memory, also behind its length.
func overwrite(l []string) {
	for i := range l[:cap(l)] {
		l[:cap(l)][i] = "spoilt"
	}
}

func TestKeysAnswersAreNewMemory(t *testing.T) {
	s := impl.Signer{Seed: strings.Clone("seed"), Used: 1}
	next, x := mustSeal(t, s, "pay 5")
	was := copySeal(x)
	if unsafe.StringData(next.Seed) == unsafe.StringData(s.Seed) {
		t.Error("SealText hands the seed of its argument out again")
	}
	overwrite(x.Sign)
	if !slices.Equal(x.Way, was.Way) {
		t.Error("the way shares memory with the sign")
	}
	overwrite(x.Way)
	if _, again := mustSeal(t, s, "pay 5"); !sameSeal(again, was) {
		t.Error("a seal is kept, and was changed from outside")
	}
	way := mustWay(t, "seed", 1)
	overwrite(way)
	if !slices.Equal(mustWay(t, "seed", 1), was.Way) {
		t.Error("a way is kept, and was changed from outside")
	}
	if top := mustTop(t, "seed"); top != slowNode("seed", treeHeight, 0) {
		t.Error("the top is changed by what was done to a way", top)
	}
}

// The answers hang on the arguments alone, not on what was asked ahead.
func TestKeysAnswerTheSameAgain(t *testing.T) {
	s := impl.Signer{Seed: "seed", Used: 7}
	next, x := mustSeal(t, s, "text")
	for range 3 {
		again, y := mustSeal(t, s, "text")
		if again != next || !sameSeal(x, y) {
			t.Error(again, y)
		}
	}
}
