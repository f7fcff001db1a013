package tests

import (
	"encoding/hex"
	"fmt"
	"math"
	"slices"
	"strconv"
	"strings"
	"testing"
	"unsafe"

	"loop.example/g00537/impl"
)

const (
	keyLength  = 11
	mostSeed   = 16
	mostSigned = 200
)

func TestOnceConstants(t *testing.T) {
	if impl.Digits != 8 || impl.Checks != 3 || impl.Steps != 15 {
		t.Fatal(impl.Digits, impl.Checks, impl.Steps)
	}
}

// sampleSeeds has the shortest and the longest seeds, and the bytes at both ends.
func sampleSeeds() []string {
	return []string{"s", "seed", "\x00", "\xff", "\x00\x00", "Seed", "seed ", sampleText(8, 1), sampleText(9, 2), sampleText(mostSeed, 3), strings.Repeat("\xff", mostSeed)}
}

// signedTexts has the shortest and the longest texts that are signed.
func signedTexts() []string {
	l := []string{"", "pay 5", "pay 6", "pay 50", "\x00", "\xff", strings.Repeat("\x00", mostSigned), strings.Repeat("\xff", mostSigned)}
	for _, n := range []int{1, 2, 3, 15, 16, 44, 100, 199, mostSigned} {
		l = append(l, sampleText(n, uint32(n)))
	}
	return l
}

// manyTexts are words that lie near each other, and far ones, so that digits of many sums come up.
func manyTexts() []string {
	l := signedTexts()
	for i := range 300 {
		l = append(l, "note "+strconv.Itoa(i), sampleText(i%mostSigned, uint32(7*i+1)))
	}
	return l
}

// slowChain goes step by step, as the document tells it, by the library's Adler sum.
func slowChain(s string, from int, by int) string {
	for i := from; i < from+by; i++ {
		s = plainDigest('c', string([]byte{byte(i)})+s)
	}
	return s
}

// slowDigits writes the digest and the check in hexadecimal digits, and reads them one by one.
func slowDigits(s string) []int {
	digits, sum := hex.EncodeToString([]byte(plainDigest('m', s))), 0
	var l []int
	for _, c := range digits {
		n, _ := strconv.ParseInt(string(c), 16, 64)
		l = append(l, int(n))
		sum += impl.Steps - int(n)
	}
	for _, c := range fmt.Sprintf("%03x", sum) {
		n, _ := strconv.ParseInt(string(c), 16, 64)
		l = append(l, int(n))
	}
	return l
}

func slowPart(seed string, k int) string {
	return plainDigest('k', string([]byte{byte(k)})+seed)
}

func slowPublic(seed string) string {
	all := ""
	for k := range keyLength {
		all += slowChain(slowPart(seed, k), 0, impl.Steps)
	}
	return plainDigest('p', all)
}

func slowFrom(text string, sign []string) string {
	all := ""
	for k, n := range slowDigits(text) {
		all += slowChain(sign[k], n, impl.Steps-n)
	}
	return plainDigest('p', all)
}

func mustSign(t *testing.T, seed string, text string) []string {
	t.Helper()
	sign, ok := impl.SignOnce(seed, text)
	if !ok || len(sign) != keyLength {
		t.Fatalf("SignOnce(%q, %q) = %q, %v", seed, text, sign, ok)
	}
	return sign
}

func mustPublic(t *testing.T, seed string) string {
	t.Helper()
	public, ok := impl.PublicOf(seed)
	if !ok || len(public) != 4 {
		t.Fatalf("PublicOf(%q) = %q, %v", seed, public, ok)
	}
	return public
}

func mustDigits(t *testing.T, s string) []int {
	t.Helper()
	d, ok := impl.DigitsOf(s)
	if !ok || len(d) != keyLength {
		t.Fatalf("DigitsOf(%q) = %v, %v", s, d, ok)
	}
	return d
}

var chainStarts = []string{"abcd", "\x00\x00\x00\x00", "\xff\xff\xff\xff", "\x00\x01\x02\x03", "\xff\xf0\x00\x00"}

func TestChainOfIsStepByStep(t *testing.T) {
	for _, s := range chainStarts {
		for from := 0; from <= impl.Steps; from++ {
			for by := 0; from+by <= impl.Steps; by++ {
				got, ok := impl.ChainOf(s, from, by)
				if want := slowChain(s, from, by); got != want || !ok {
					t.Errorf("ChainOf(%x, %d, %d) = %x, %v; want %x", s, from, by, got, ok, want)
				}
			}
		}
	}
}

func TestChainOfByNoneIsTheText(t *testing.T) {
	for _, s := range chainStarts {
		for from := 0; from <= impl.Steps; from++ {
			if got, ok := impl.ChainOf(s, from, 0); got != s || !ok {
				t.Errorf("ChainOf(%x, %d, 0) = %x, %v", s, from, got, ok)
			}
		}
	}
}

func TestChainOfWhereverItIsCut(t *testing.T) {
	for _, s := range chainStarts {
		whole, ok := impl.ChainOf(s, 0, impl.Steps)
		if !ok || len(whole) != 4 {
			t.Fatalf("ChainOf(%x, 0, Steps) = %x, %v", s, whole, ok)
		}
		for cut := 0; cut <= impl.Steps; cut++ {
			first, _ := impl.ChainOf(s, 0, cut)
			if rest, ok := impl.ChainOf(first, cut, impl.Steps-cut); rest != whole || !ok {
				t.Errorf("%x cut at %d: %x, %v; want %x", s, cut, rest, ok, whole)
			}
		}
	}
}

// A step hangs on its place, or a chain could be taken up elsewhere.
func TestChainOfHangsOnItsPlace(t *testing.T) {
	for at := 1; at < impl.Steps; at++ {
		one, _ := impl.ChainOf("abcd", at-1, 1)
		two, _ := impl.ChainOf("abcd", at, 1)
		if one == two {
			t.Errorf("the steps at %d and %d are the same", at-1, at)
		}
	}
}

func TestChainOfWrongArguments(t *testing.T) {
	cases := []struct {
		s        string
		from, by int
	}{
		{"", 0, 0}, {"abc", 0, 1}, {"abcde", 0, 1}, {"abc", 0, 0}, {"abcde", 15, 0}, {strings.Repeat("abcd", 1000), 0, 1},
		{"abcd", -1, 0}, {"abcd", -1, 1}, {"abcd", -1, 2}, {"abcd", 0, -1}, {"abcd", 1, -1}, {"abcd", -1, -1}, {"abcd", 15, -15},
		{"abcd", 16, 0}, {"abcd", 0, 16}, {"abcd", 1, 15}, {"abcd", 15, 1}, {"abcd", 8, 8}, {"abcd", 16, -1}, {"abcd", -1, 16},
		{"abcd", math.MaxInt, 0}, {"abcd", 0, math.MaxInt}, {"abcd", math.MaxInt, 1}, {"abcd", 1, math.MaxInt}, {"abcd", math.MaxInt, math.MaxInt},
		{"abcd", math.MinInt, 0}, {"abcd", 0, math.MinInt}, {"abcd", math.MinInt, math.MinInt}, {"abcd", math.MinInt, math.MaxInt}, {"abcd", math.MaxInt, math.MinInt},
		{"abcd", 15, math.MaxInt}, {"abcd", math.MinInt, 15}, {"abcd", -1, math.MinInt},
	}
	for _, c := range cases {
		if got, ok := impl.ChainOf(c.s, c.from, c.by); got != "" || ok {
			t.Errorf("ChainOf(%q, %d, %d) = %x, %v", c.s, c.from, c.by, got, ok)
		}
	}
}

func TestDigitsOfIsDigestThenCheck(t *testing.T) {
	for _, s := range manyTexts() {
		if d := mustDigits(t, s); !slices.Equal(d, slowDigits(s)) {
			t.Errorf("DigitsOf(%q) = %v; want %v", s, d, slowDigits(s))
		}
	}
}

func TestDigitsOfCheckIsWhatIsLeftToSteps(t *testing.T) {
	for _, s := range manyTexts() {
		d := mustDigits(t, s)
		sum, check := 0, 0
		for _, n := range d[:impl.Digits] {
			sum += impl.Steps - n
		}
		for _, n := range d[impl.Digits:] {
			check = check*16 + n
		}
		if sum != check {
			t.Errorf("DigitsOf(%q) = %v: the sum is %d, the check %d", s, d, sum, check)
		}
		for _, n := range d {
			if n < 0 || n > impl.Steps {
				t.Errorf("DigitsOf(%q) = %v", s, d)
			}
		}
	}
}

// Promise 2, second half.
func TestNoDigitsAreBelowOthers(t *testing.T) {
	var all [][]int
	for _, s := range manyTexts() {
		all = append(all, mustDigits(t, s))
	}
	same := 0
	for i, a := range all {
		for j, b := range all {
			is, ok := impl.IsBelow(a, b)
			if !ok || is != slices.Equal(a, b) {
				t.Fatalf("IsBelow(%v, %v) = %v, %v", a, b, is, ok)
			}
			if is && i != j {
				same++
			}
		}
	}
	if same == 0 {
		t.Error("no two texts have the same digits: that edge is not looked at")
	}
}

// Two unlike texts of one digest have the same digits, and are below each other.
func TestDigitsOfClashingTexts(t *testing.T) {
	a, b := mustDigits(t, "aca"), mustDigits(t, "bab")
	if is, ok := impl.IsBelow(a, b); !is || !ok || !slices.Equal(a, b) {
		t.Error(a, b, is, ok)
	}
}

func TestDigitsOfLimits(t *testing.T) {
	mustDigits(t, "")
	mustDigits(t, sampleText(mostSigned, 4))
	for _, n := range []int{201, 202, 600, 601, 100000} {
		if d, ok := impl.DigitsOf(strings.Repeat("x", n)); len(d) != 0 || ok {
			t.Errorf("DigitsOf of %d bytes = %v, %v", n, d, ok)
		}
	}
}

func TestKeyPartsAreDigestsOfNumberAndSeed(t *testing.T) {
	for _, seed := range sampleSeeds() {
		parts, ok := impl.KeyParts(seed)
		if !ok || len(parts) != keyLength {
			t.Fatalf("KeyParts(%q) = %q, %v", seed, parts, ok)
		}
		for k, p := range parts {
			if want := slowPart(seed, k); p != want {
				t.Errorf("part %d of KeyParts(%q) = %x; want %x", k, seed, p, want)
			}
		}
	}
}

func TestPublicOfIsDigestOfTheEnds(t *testing.T) {
	for _, seed := range sampleSeeds() {
		if p := mustPublic(t, seed); p != slowPublic(seed) {
			t.Errorf("PublicOf(%q) = %x; want %x", seed, p, slowPublic(seed))
		}
	}
}

func badSeeds() []string {
	return []string{"", strings.Repeat("s", 17), sampleText(17, 1), sampleText(18, 2), strings.Repeat("s", 600), strings.Repeat("s", 100000)}
}

func TestSeedsThatAreNotAsSaid(t *testing.T) {
	for _, seed := range badSeeds() {
		if parts, ok := impl.KeyParts(seed); len(parts) != 0 || ok {
			t.Errorf("KeyParts of %d bytes = %q, %v", len(seed), parts, ok)
		}
		if p, ok := impl.PublicOf(seed); p != "" || ok {
			t.Errorf("PublicOf of %d bytes = %q, %v", len(seed), p, ok)
		}
		for _, text := range []string{"", "pay 5", strings.Repeat("x", 201)} {
			if sign, ok := impl.SignOnce(seed, text); len(sign) != 0 || ok {
				t.Errorf("SignOnce with a seed of %d bytes = %q, %v", len(seed), sign, ok)
			}
		}
	}
}

func TestSignOnceGoesAsFarAsTheDigits(t *testing.T) {
	for _, seed := range sampleSeeds() {
		for _, text := range signedTexts() {
			sign := mustSign(t, seed, text)
			for k, n := range slowDigits(text) {
				if want := slowChain(slowPart(seed, k), 0, n); sign[k] != want {
					t.Errorf("part %d of SignOnce(%q, %q) = %x; want %x", k, seed, text, sign[k], want)
				}
			}
		}
	}
}

func TestTextsThatAreTooLong(t *testing.T) {
	good := mustSign(t, "seed", "pay 5")
	for _, n := range []int{201, 202, 600, 601, 100000} {
		text := strings.Repeat("x", n)
		if sign, ok := impl.SignOnce("seed", text); len(sign) != 0 || ok {
			t.Errorf("SignOnce of %d bytes = %q, %v", n, sign, ok)
		}
		if p, ok := impl.PublicFrom(text, good); p != "" || ok {
			t.Errorf("PublicFrom of %d bytes = %q, %v", n, p, ok)
		}
		if is, ok := impl.CheckOnce(mustPublic(t, "seed"), text, good); is || ok {
			t.Errorf("CheckOnce of %d bytes = %v, %v", n, is, ok)
		}
	}
}

// Promise 2, first half.
func TestWhatWasSignedIsHeld(t *testing.T) {
	for _, seed := range sampleSeeds() {
		public := mustPublic(t, seed)
		for _, text := range signedTexts() {
			sign := mustSign(t, seed, text)
			if from, ok := impl.PublicFrom(text, sign); from != public || !ok {
				t.Errorf("PublicFrom(%q, sign with %q) = %x, %v; want %x", text, seed, from, ok, public)
			}
			if is, ok := impl.CheckOnce(public, text, sign); !is || !ok {
				t.Errorf("CheckOnce of %q signed with %q = %v, %v", text, seed, is, ok)
			}
		}
	}
}

func TestSignOfAnotherTextIsNotHeld(t *testing.T) {
	for _, seed := range sampleSeeds() {
		public := mustPublic(t, seed)
		for _, text := range signedTexts() {
			sign := mustSign(t, seed, text)
			for _, other := range signedTexts() {
				from, fine := impl.PublicFrom(other, sign)
				if want := slowFrom(other, sign); from != want || !fine {
					t.Errorf("PublicFrom(%q, sign of %q) = %x, %v; want %x", other, text, from, fine, want)
				}
				is, ok := impl.CheckOnce(public, other, sign)
				if is != (text == other) || !ok {
					t.Errorf("with %q, CheckOnce of %q by the sign of %q = %v, %v", seed, other, text, is, ok)
				}
			}
		}
	}
}

func TestSignWithAnotherKeyIsNotHeld(t *testing.T) {
	for _, seed := range sampleSeeds() {
		public := mustPublic(t, seed)
		for _, other := range sampleSeeds() {
			is, ok := impl.CheckOnce(public, "pay 5", mustSign(t, other, "pay 5"))
			if is != (seed == other) || !ok {
				t.Errorf("CheckOnce with the key of %q of a sign with %q = %v, %v", seed, other, is, ok)
			}
		}
	}
}

// A byte of a part is one more: the answer is what the chains come to, and for this key none comes back to the public one.
func TestSpoiltPartIsNotHeld(t *testing.T) {
	public := mustPublic(t, "seed")
	for _, text := range []string{"", "pay 5", "pay 6"} {
		for k := range keyLength {
			for i := range 4 {
				sign := mustSign(t, "seed", text)
				part := []byte(sign[k])
				part[i]++
				sign[k] = string(part)
				want := slowFrom(text, sign)
				if from, ok := impl.PublicFrom(text, sign); from != want || !ok {
					t.Errorf("PublicFrom(%q), byte %d of part %d spoilt: %x, %v; want %x", text, i, k, from, ok, want)
				}
				if is, ok := impl.CheckOnce(public, text, sign); is || !ok {
					t.Errorf("CheckOnce(%q), byte %d of part %d spoilt: %v, %v", text, i, k, is, ok)
				}
			}
		}
	}
}

func TestPublicKeyThatIsAnother(t *testing.T) {
	public, sign := mustPublic(t, "seed"), mustSign(t, "seed", "pay 5")
	for i := range 4 {
		b := []byte(public)
		b[i]++
		if is, ok := impl.CheckOnce(string(b), "pay 5", sign); is || !ok {
			t.Errorf("CheckOnce, byte %d of the public key spoilt: %v, %v", i, is, ok)
		}
	}
	for _, p := range []string{"", public[:3], public[:1], public + "\x00", public + public, strings.Repeat("p", 100000)} {
		if is, ok := impl.CheckOnce(p, "pay 5", sign); is || ok {
			t.Errorf("CheckOnce with a public key of %d bytes = %v, %v", len(p), is, ok)
		}
	}
}

func badSigns(good []string) [][]string {
	l := [][]string{nil, {}, good[:1], good[:10], append(slices.Clone(good), good[0]), slices.Repeat(good, 2), slices.Repeat([]string{"abcd"}, 10000), make([]string, keyLength)}
	for k := range keyLength {
		for _, part := range []string{"", "abc", "abcde", strings.Repeat("x", 600), strings.Repeat("x", 100000)} {
			spoilt := slices.Clone(good)
			spoilt[k] = part
			l = append(l, spoilt)
		}
	}
	return l
}

func TestSignsThatAreNotAsSaid(t *testing.T) {
	public := mustPublic(t, "seed")
	for i, sign := range badSigns(mustSign(t, "seed", "pay 5")) {
		if p, ok := impl.PublicFrom("pay 5", sign); p != "" || ok {
			t.Errorf("PublicFrom, bad sign %d = %q, %v", i, p, ok)
		}
		if is, ok := impl.CheckOnce(public, "pay 5", sign); is || ok {
			t.Errorf("CheckOnce, bad sign %d = %v, %v", i, is, ok)
		}
	}
}

func TestIsBelow(t *testing.T) {
	low, high := make([]int, keyLength), slices.Repeat([]int{impl.Steps}, keyLength)
	mid := []int{0, 15, 1, 14, 2, 13, 3, 12, 4, 11, 5}
	cases := []struct {
		a, b []int
		want bool
	}{
		{low, low, true}, {high, high, true}, {mid, mid, true},
		{low, high, true}, {low, mid, true}, {mid, high, true},
		{high, low, false}, {mid, low, false}, {high, mid, false},
	}
	for _, c := range cases {
		if is, ok := impl.IsBelow(c.a, c.b); is != c.want || !ok {
			t.Errorf("IsBelow(%v, %v) = %v, %v", c.a, c.b, is, ok)
		}
	}
}

func TestIsBelowAtEachPlace(t *testing.T) {
	for k := range keyLength {
		a := slices.Repeat([]int{7}, keyLength)
		b := slices.Clone(a)
		b[k] = 8
		if is, ok := impl.IsBelow(a, b); !is || !ok {
			t.Errorf("one less at %d: %v, %v", k, is, ok)
		}
		if is, ok := impl.IsBelow(b, a); is || !ok {
			t.Errorf("one more at %d: %v, %v", k, is, ok)
		}
		b = slices.Repeat([]int{15}, keyLength)
		b[k] = 6
		if is, ok := impl.IsBelow(a, b); is || !ok {
			t.Errorf("more at %d alone: %v, %v", k, is, ok)
		}
	}
}

func TestIsBelowWrongLists(t *testing.T) {
	good := slices.Repeat([]int{7}, keyLength)
	bad := [][]int{nil, {}, good[:1], good[:8], good[:10], append(slices.Clone(good), 7), make([]int, 1000)}
	for k := range keyLength {
		for _, n := range []int{-1, 16, math.MinInt, math.MaxInt} {
			l := slices.Clone(good)
			l[k] = n
			bad = append(bad, l)
		}
	}
	for _, l := range bad {
		for _, pair := range [][2][]int{{l, good}, {good, l}, {l, l}} {
			if is, ok := impl.IsBelow(pair[0], pair[1]); is || ok {
				t.Errorf("IsBelow(%v, %v) = %v, %v", pair[0], pair[1], is, ok)
			}
		}
	}
}

// A number that is not as said counts, wherever it stands, ahead of one that is not below.
func TestIsBelowLooksAtAllNumbers(t *testing.T) {
	a := append([]int{9}, slices.Repeat([]int{7}, keyLength-1)...)
	b := slices.Repeat([]int{7}, keyLength)
	b[keyLength-1] = 16
	if is, ok := impl.IsBelow(a, b); is || ok {
		t.Error(is, ok)
	}
}

// Promise 19: lists are unchanged, and so is what lies behind their length.
func TestOnceWritesIntoNoArgument(t *testing.T) {
	back := append(mustSign(t, "seed", "pay 5"), "behind", "more")
	was := slices.Clone(back)
	sign := back[:keyLength]
	impl.PublicFrom("pay 5", sign)
	impl.CheckOnce(mustPublic(t, "seed"), "pay 5", sign)
	impl.CheckOnce("none", "pay 6", back)
	impl.PublicFrom(strings.Repeat("x", 201), back[:10])
	if !slices.Equal(back, was) {
		t.Errorf("the sign is changed: %q, was %q", back, was)
	}
	one := append(mustDigits(t, "pay 5"), 98, 99)
	two := append(mustDigits(t, "pay 6"), -1, -2)
	oneWas, twoWas := slices.Clone(one), slices.Clone(two)
	if _, ok := impl.IsBelow(one[:keyLength], two[:keyLength]); !ok {
		t.Error("what lies behind the lists is read")
	}
	impl.IsBelow(one, two)
	if !slices.Equal(one, oneWas) || !slices.Equal(two, twoWas) {
		t.Error("the digits are changed", one, two)
	}
}

func TestOnceAnswersAreNewMemory(t *testing.T) {
	digits, sign := mustDigits(t, "pay 5"), mustSign(t, "seed", "pay 5")
	parts, _ := impl.KeyParts("seed")
	digitsWas, partsWas, signWas := slices.Clone(digits), slices.Clone(parts), slices.Clone(sign)
	for _, l := range [][]string{parts, sign} {
		for i := range l[:cap(l)] {
			l[:cap(l)][i] = "spoilt"
		}
	}
	for i := range digits[:cap(digits)] {
		digits[:cap(digits)][i] = -9
	}
	again, _ := impl.KeyParts("seed")
	if !slices.Equal(mustDigits(t, "pay 5"), digitsWas) || !slices.Equal(again, partsWas) || !slices.Equal(mustSign(t, "seed", "pay 5"), signWas) {
		t.Error("an answer is kept, and was changed from outside")
	}
	s := strings.Clone("abcd")
	if got, _ := impl.ChainOf(s, 4, 0); unsafe.StringData(got) == unsafe.StringData(s) {
		t.Error("ChainOf by 0 hands its argument out again")
	}
}
