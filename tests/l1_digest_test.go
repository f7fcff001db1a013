package tests

import (
	"encoding/binary"
	"hash/adler32"
	"math"
	"slices"
	"strings"
	"testing"

	"loop.example/g00537/impl"
)

const mostLong = 1000000

// The two limits are told by the document; the tests below lean on them.
func TestDigestConstants(t *testing.T) {
	if impl.MaxText != 600 || impl.Prime != 65521 {
		t.Fatal(impl.MaxText, impl.Prime)
	}
}

// sampleText gives n bytes that look mixed, the same ones at every run.
func sampleText(n int, seed uint32) string {
	b := make([]byte, n)
	for i := range b {
		seed = seed*1664525 + 1013904223
		b[i] = byte(seed >> 24)
	}
	return string(b)
}

// sampleTexts has lengths around the edges, and the bytes that sum up least and most.
func sampleTexts() []string {
	l := []string{"", "a", "\x00", "\xff", "\x00\x00\x00", "plain words", "\u00e9\u4e16"}
	for _, n := range []int{1, 2, 7, 8, 9, 15, 16, 17, 100, 255, 256, 257, 599, 600} {
		l = append(l, sampleText(n, uint32(n)), strings.Repeat("\xff", n), strings.Repeat("\x00", n))
	}
	return l
}

// plainDigest is the library's Adler sum of the kind and the text: it starts from A 1, B 0, so the kind is a byte fed ahead.
func plainDigest(kind byte, s string) string {
	return string(binary.BigEndian.AppendUint32(nil, adler32.Checksum([]byte(string(kind)+s))))
}

// slowFeed goes byte by byte, as the document tells it.
func slowFeed(m impl.Mix, s string) impl.Mix {
	for _, c := range []byte(s) {
		m.A = (m.A + int(c)) % impl.Prime
		m.B = (m.B + m.A) % impl.Prime
		m.Long++
	}
	return m
}

func mustNew(t *testing.T, kind byte) impl.Mix {
	t.Helper()
	m, ok := impl.NewMix(kind)
	if !ok {
		t.Fatalf("NewMix(%q) tells false", kind)
	}
	return m
}

// mustFeed feeds a text of any length, at most MaxText bytes at a time.
func mustFeed(t *testing.T, m impl.Mix, s string) impl.Mix {
	t.Helper()
	for part := range slices.Chunk([]byte(s), impl.MaxText) {
		next, ok := impl.FeedMix(m, string(part))
		if !ok {
			t.Fatalf("FeedMix(%v, %d bytes) tells false", m, len(part))
		}
		m = next
	}
	return m
}

func mustEnd(t *testing.T, m impl.Mix) string {
	t.Helper()
	e, ok := impl.EndMix(m)
	if !ok {
		t.Fatalf("EndMix(%v) tells false", m)
	}
	return e
}

func TestNewMixOfEachKind(t *testing.T) {
	for k := 0; k < 256; k++ {
		m, ok := impl.NewMix(byte(k))
		want, is := impl.Mix{}, k >= 'a' && k <= 'z'
		if is {
			want = impl.Mix{A: k + 1, B: k + 1}
		}
		if m != want || ok != is {
			t.Errorf("NewMix(%d) = %v, %v", k, m, ok)
		}
	}
}

func TestGoodMixLimits(t *testing.T) {
	top := impl.Prime - 1
	for _, m := range []impl.Mix{{}, {A: 1}, {A: top}, {B: top}, {Long: mostLong}, {A: top, B: top, Long: mostLong}} {
		if !impl.GoodMix(m) {
			t.Errorf("GoodMix(%v) is false", m)
		}
	}
	for _, m := range badMixes() {
		if impl.GoodMix(m) {
			t.Errorf("GoodMix(%v) is true", m)
		}
	}
}

func badMixes() []impl.Mix {
	return []impl.Mix{
		{A: -1}, {A: impl.Prime}, {A: math.MaxInt}, {A: math.MinInt},
		{B: -1}, {B: impl.Prime}, {B: math.MaxInt}, {B: math.MinInt},
		{Long: -1}, {Long: mostLong + 1}, {Long: math.MaxInt}, {Long: math.MinInt},
		{A: 65535, B: 65535}, {A: -1, B: -1, Long: -1}, {A: impl.Prime, B: 5, Long: 5},
	}
}

func TestFeedMixIsByteByByte(t *testing.T) {
	top := impl.Prime - 1
	starts := []impl.Mix{{}, {A: 1}, {A: 98, B: 98}, {A: top, B: top}, {A: top}, {B: top}, {A: 7, B: 9, Long: mostLong - impl.MaxText}}
	for _, m := range starts {
		for _, s := range sampleTexts() {
			got, ok := impl.FeedMix(m, s)
			if want := slowFeed(m, s); got != want || !ok {
				t.Errorf("FeedMix(%v, %q) = %v, %v; want %v", m, s, got, ok, want)
			}
		}
	}
}

func TestEndMixBytes(t *testing.T) {
	cases := []struct {
		m    impl.Mix
		want string
	}{
		{impl.Mix{}, "\x00\x00\x00\x00"},
		{impl.Mix{A: 0x0304, B: 0x0102}, "\x01\x02\x03\x04"},
		{impl.Mix{A: 255, B: 256, Long: 3}, "\x01\x00\x00\xff"},
		{impl.Mix{A: impl.Prime - 1, B: impl.Prime - 1, Long: mostLong}, "\xff\xf0\xff\xf0"},
	}
	for _, c := range cases {
		if e, ok := impl.EndMix(c.m); e != c.want || !ok {
			t.Errorf("EndMix(%v) = %x, %v; want %x", c.m, e, ok, c.want)
		}
	}
}

func TestDigestOfIsAdlerBehindTheKind(t *testing.T) {
	for kind := byte('a'); kind <= 'z'; kind++ {
		for _, s := range sampleTexts() {
			if d, ok := impl.DigestOf(kind, s); d != plainDigest(kind, s) || !ok {
				t.Errorf("DigestOf(%q, %q) = %x, %v", kind, s, d, ok)
			}
		}
	}
}

// Promise 1, first half: a text cut once, at each place.
func TestDigestDoesNotHangOnOneCut(t *testing.T) {
	for _, s := range sampleTexts() {
		whole, ok := impl.DigestOf('q', s)
		if !ok {
			t.Fatalf("DigestOf %q tells false", s)
		}
		for cut := 0; cut <= len(s); cut++ {
			m := mustFeed(t, mustNew(t, 'q'), s[:cut])
			m = mustFeed(t, m, s[cut:])
			if e := mustEnd(t, m); e != whole || m.Long != len(s) {
				t.Fatalf("%q cut at %d: %x, long %d; at once %x", s, cut, e, m.Long, whole)
			}
		}
	}
}

// Promise 1, first half: cut twice at each two places, and into pieces of each size.
func TestDigestDoesNotHangOnManyCuts(t *testing.T) {
	s := sampleText(60, 5)
	whole, _ := impl.DigestOf('z', s)
	for i := 0; i <= len(s); i++ {
		for j := i; j <= len(s); j++ {
			m := mustFeed(t, mustFeed(t, mustFeed(t, mustNew(t, 'z'), s[:i]), s[i:j]), s[j:])
			if e := mustEnd(t, m); e != whole {
				t.Fatalf("cut at %d and %d: %x, at once %x", i, j, e, whole)
			}
		}
	}
	long := strings.Repeat("\xff", impl.MaxText)
	whole, _ = impl.DigestOf('a', long)
	for size := 1; size <= len(long); size++ {
		m := mustNew(t, 'a')
		for part := range slices.Chunk([]byte(long), size) {
			m = mustFeed(t, m, string(part))
		}
		if e := mustEnd(t, m); e != whole {
			t.Fatalf("pieces of %d: %x, at once %x", size, e, whole)
		}
	}
}

func TestFeedingNothingChangesNothing(t *testing.T) {
	for _, m := range []impl.Mix{{}, {A: 5, B: 6, Long: 7}, {A: impl.Prime - 1, B: impl.Prime - 1, Long: mostLong}} {
		if got, ok := impl.FeedMix(m, ""); got != m || !ok {
			t.Errorf("FeedMix(%v, empty) = %v, %v", m, got, ok)
		}
	}
}

func TestFeedMixUpToItsLimits(t *testing.T) {
	full := sampleText(impl.MaxText, 1)
	if got, ok := impl.FeedMix(impl.Mix{A: 3, Long: mostLong - impl.MaxText}, full); !ok || got.Long != mostLong {
		t.Error("Long that becomes 1000000 is refused", got, ok)
	}
	if got, ok := impl.FeedMix(impl.Mix{A: 3, Long: mostLong - impl.MaxText + 1}, full); ok || got != (impl.Mix{}) {
		t.Error("Long that becomes 1000001 is taken", got, ok)
	}
	if got, ok := impl.FeedMix(impl.Mix{Long: mostLong}, "x"); ok || got != (impl.Mix{}) {
		t.Error("a byte behind 1000000 is taken", got, ok)
	}
	for _, n := range []int{impl.MaxText + 1, 2 * impl.MaxText, 100000} {
		if got, ok := impl.FeedMix(impl.Mix{A: 3}, strings.Repeat("x", n)); ok || got != (impl.Mix{}) {
			t.Errorf("%d bytes are fed at once: %v, %v", n, got, ok)
		}
	}
}

// Promise 1, second half.
func TestJoinMixesIsFeedingBoth(t *testing.T) {
	top := impl.Prime - 1
	starts := []impl.Mix{{A: 98, B: 98}, {A: 1}, {}, {A: top, B: top}, {A: 0, B: top, Long: 9}, {A: top, B: 0, Long: 100000}}
	texts := append(sampleTexts(), sampleText(5000, 2), strings.Repeat("\xff", 70000))
	for _, start := range starts {
		for _, first := range []string{"", "b", sampleText(600, 3), strings.Repeat("\xff", 600)} {
			a := mustFeed(t, start, first)
			for _, s := range texts {
				b := mustFeed(t, impl.Mix{A: 1}, s)
				got, ok := impl.JoinMixes(a, b)
				if want := mustFeed(t, a, s); got != want || !ok {
					t.Errorf("from %v, %d bytes, then %d: %v, %v; want %v", start, len(first), len(s), got, ok, want)
				}
			}
		}
	}
}

func TestJoinMixesAtEachCutIsTheDigest(t *testing.T) {
	for _, s := range sampleTexts() {
		whole, _ := impl.DigestOf('j', s)
		for cut := 0; cut <= len(s); cut++ {
			a := mustFeed(t, mustNew(t, 'j'), s[:cut])
			b := mustFeed(t, impl.Mix{A: 1}, s[cut:])
			j, ok := impl.JoinMixes(a, b)
			if !ok || mustEnd(t, j) != whole || j.Long != len(s) {
				t.Fatalf("%q joined at %d: %v, %v", s, cut, j, ok)
			}
		}
	}
}

// One A of b becomes 0 by its bytes alone: 65520 more than the 1 it starts from.
func TestJoinMixesWhereASumIsNought(t *testing.T) {
	s := strings.Repeat("\xff", 256) + "\xf0"
	b := mustFeed(t, impl.Mix{A: 1}, s)
	if b.A != 0 {
		t.Fatal("the text was to make A 0", b)
	}
	for _, a := range []impl.Mix{{}, {A: 1}, {A: 2, B: 3, Long: 4}, b} {
		got, ok := impl.JoinMixes(a, b)
		if want := mustFeed(t, a, s); got != want || !ok || !impl.GoodMix(got) {
			t.Errorf("JoinMixes(%v, %v) = %v, %v; want %v", a, b, got, ok, want)
		}
	}
	zeros, ok := impl.JoinMixes(impl.Mix{}, impl.Mix{})
	if zeros != (impl.Mix{A: impl.Prime - 1}) || !ok {
		t.Error("two A of 0 less 1", zeros, ok)
	}
}

func TestJoinMixesUpToLong(t *testing.T) {
	half := strings.Repeat(sampleText(500, 8), mostLong/1000)
	a := mustFeed(t, mustNew(t, 'a'), half)
	b := mustFeed(t, impl.Mix{A: 1}, half)
	got, ok := impl.JoinMixes(a, b)
	if want := mustFeed(t, a, half); got != want || !ok || got.Long != mostLong {
		t.Error("both halves of 1000000 bytes", got, ok, want)
	}
	full := mustFeed(t, b, half)
	got, ok = impl.JoinMixes(impl.Mix{A: impl.Prime - 1, B: impl.Prime - 1}, full)
	if want := mustFeed(t, impl.Mix{A: impl.Prime - 1, B: impl.Prime - 1}, half+half); got != want || !ok {
		t.Error("1000000 bytes behind none", got, ok, want)
	}
	one := mustFeed(t, impl.Mix{A: 1}, "x")
	if got, ok := impl.JoinMixes(full, one); ok || got != (impl.Mix{}) {
		t.Error("1000001 bytes are joined", got, ok)
	}
	if got, ok := impl.JoinMixes(one, full); ok || got != (impl.Mix{}) {
		t.Error("1000001 bytes are joined", got, ok)
	}
}

func TestJoinMixesIsBoundEitherWay(t *testing.T) {
	a := mustFeed(t, mustNew(t, 'k'), sampleText(321, 1))
	b := mustFeed(t, impl.Mix{A: 1}, sampleText(44, 2))
	c := mustFeed(t, impl.Mix{A: 1}, sampleText(555, 3))
	ab, _ := impl.JoinMixes(a, b)
	bc, _ := impl.JoinMixes(b, c)
	left, ok := impl.JoinMixes(ab, c)
	right, is := impl.JoinMixes(a, bc)
	if left != right || !ok || !is {
		t.Error(left, right, ok, is)
	}
}

func TestListDigestIsOfTextsBehindTheirLengths(t *testing.T) {
	cases := []struct {
		l    []string
		flat string
	}{
		{nil, ""},
		{[]string{}, ""},
		{[]string{""}, "\x00"},
		{[]string{"", ""}, "\x00\x00"},
		{[]string{"a"}, "\x01a"},
		{[]string{"ab", "", "c"}, "\x02ab\x00\x01c"},
		{[]string{"a", "bc"}, "\x01a\x02bc"},
		{[]string{strings.Repeat("y", 100)}, "\x64" + strings.Repeat("y", 100)},
		{slices.Repeat([]string{"m"}, 20), strings.Repeat("\x01m", 20)},
		{slices.Repeat([]string{""}, 20), strings.Repeat("\x00", 20)},
		{slices.Repeat([]string{sampleText(29, 4)}, 20), strings.Repeat("\x1d"+sampleText(29, 4), 20)},
	}
	for _, c := range cases {
		for _, kind := range []byte{'a', 'l', 'z'} {
			if d, ok := impl.ListDigest(kind, c.l); d != plainDigest(kind, c.flat) || !ok {
				t.Errorf("ListDigest(%q, %q) = %x, %v", kind, c.l, d, ok)
			}
		}
	}
}

func TestListDigestKeepsTextsApart(t *testing.T) {
	one, _ := impl.ListDigest('l', []string{"ab", "c"})
	two, _ := impl.ListDigest('l', []string{"a", "bc"})
	if one == two {
		t.Errorf("both %x", one)
	}
}

func TestListDigestLimits(t *testing.T) {
	hundreds := slices.Repeat([]string{strings.Repeat("h", 100)}, 5)
	if d, ok := impl.ListDigest('l', append(slices.Clone(hundreds), strings.Repeat("h", 94))); len(d) != 4 || !ok {
		t.Error("600 bytes with the lengths are refused", d, ok)
	}
	wrong := map[string][]string{
		"601 bytes with the lengths": append(slices.Clone(hundreds), strings.Repeat("h", 95)),
		"600 bytes and the lengths":  append(slices.Clone(hundreds), strings.Repeat("h", 100)),
		"20 texts of 30 bytes":       slices.Repeat([]string{strings.Repeat("h", 30)}, 20),
		"20 texts of 100 bytes":      slices.Repeat([]string{strings.Repeat("h", 100)}, 20),
		"21 texts":                   slices.Repeat([]string{""}, 21),
		"1000 texts":                 slices.Repeat([]string{"a"}, 1000),
		"101 bytes":                  {strings.Repeat("h", 101)},
		"101 bytes behind others":    {"a", "b", strings.Repeat("h", 101)},
		"256 bytes":                  {strings.Repeat("h", 256)},
		"601 bytes in one text":      {strings.Repeat("h", 601)},
	}
	for name, l := range wrong {
		if d, ok := impl.ListDigest('l', l); d != "" || ok {
			t.Errorf("%s: %x, %v", name, d, ok)
		}
	}
}

func TestClashOf(t *testing.T) {
	full := strings.Repeat("x", impl.MaxText-3)
	cases := []struct {
		a, b string
		want bool
	}{
		{"aca", "bab", true},
		{"bab", "aca", true},
		{full + "aca", full + "bab", true},
		{"aca" + full, "bab" + full, true},
		{"", "", false},
		{"aca", "aca", false},
		{full + "aca", full + "aca", false},
		{"", "a", false},
		{"", "\x00", false},
		{"abc", "abd", false},
		{"ab", "ba", false},
		{"a", "aa", false},
	}
	for _, c := range cases {
		for kind := byte('a'); kind <= 'z'; kind++ {
			if got, ok := impl.ClashOf(kind, c.a, c.b); got != c.want || !ok {
				t.Errorf("ClashOf(%q, %q, %q) = %v, %v", kind, c.a, c.b, got, ok)
			}
		}
	}
}

// All texts of three letters of a few: ClashOf is held against the library's sums.
func TestClashOfAllShortTexts(t *testing.T) {
	var texts []string
	for _, x := range "abcd" {
		for _, y := range "abcd" {
			for _, z := range "abcd" {
				texts = append(texts, string([]rune{x, y, z}))
			}
		}
	}
	found := 0
	for _, a := range texts {
		for _, b := range texts {
			want := a != b && plainDigest('c', a) == plainDigest('c', b)
			got, ok := impl.ClashOf('c', a, b)
			if got != want || !ok {
				t.Fatalf("ClashOf(%q, %q) = %v, %v", a, b, got, ok)
			}
			if got {
				found++
			}
		}
	}
	if found == 0 {
		t.Error("no clash among them")
	}
}

// Promise 19: wrong kinds.
func TestWrongKinds(t *testing.T) {
	for k := 0; k < 256; k++ {
		kind, is := byte(k), k >= 'a' && k <= 'z'
		if d, ok := impl.DigestOf(kind, "text"); ok != is || (d != "") != is {
			t.Errorf("DigestOf(%d) = %x, %v", k, d, ok)
		}
		if d, ok := impl.ListDigest(kind, []string{"text"}); ok != is || (d != "") != is {
			t.Errorf("ListDigest(%d) = %x, %v", k, d, ok)
		}
		if d, ok := impl.ListDigest(kind, nil); ok != is || (d != "") != is {
			t.Errorf("ListDigest(%d, nil) = %x, %v", k, d, ok)
		}
		if c, ok := impl.ClashOf(kind, "aca", "bab"); ok != is || c != is {
			t.Errorf("ClashOf(%d) = %v, %v", k, c, ok)
		}
		if c, ok := impl.ClashOf(kind, "a", "a"); ok != is || c {
			t.Errorf("ClashOf(%d) of alike texts = %v, %v", k, c, ok)
		}
	}
}

// Promise 19: wrong mixes.
func TestWrongMixes(t *testing.T) {
	good := impl.Mix{A: 1}
	for _, bad := range badMixes() {
		for _, s := range []string{"", "a", sampleText(600, 6), strings.Repeat("a", 601)} {
			if m, ok := impl.FeedMix(bad, s); m != (impl.Mix{}) || ok {
				t.Errorf("FeedMix(%v, %d bytes) = %v, %v", bad, len(s), m, ok)
			}
		}
		if e, ok := impl.EndMix(bad); e != "" || ok {
			t.Errorf("EndMix(%v) = %x, %v", bad, e, ok)
		}
		for _, pair := range [][2]impl.Mix{{bad, good}, {good, bad}, {bad, bad}} {
			if m, ok := impl.JoinMixes(pair[0], pair[1]); m != (impl.Mix{}) || ok {
				t.Errorf("JoinMixes(%v) = %v, %v", pair, m, ok)
			}
		}
	}
}

// Promise 19: texts at MaxText bytes, and beyond.
func TestTextsBeyondTheLimit(t *testing.T) {
	full, over := strings.Repeat("o", impl.MaxText), strings.Repeat("o", impl.MaxText+1)
	if d, ok := impl.DigestOf('a', full); d != plainDigest('a', full) || !ok {
		t.Errorf("DigestOf 600 bytes = %x, %v", d, ok)
	}
	for _, s := range []string{over, over + over} {
		if d, ok := impl.DigestOf('a', s); d != "" || ok {
			t.Errorf("DigestOf %d bytes = %x, %v", len(s), d, ok)
		}
	}
	if c, ok := impl.ClashOf('a', full, full); c || !ok {
		t.Error("ClashOf 600 bytes", c, ok)
	}
	for _, p := range [][2]string{{over, "a"}, {"a", over}, {over, over}, {over, full}} {
		if c, ok := impl.ClashOf('a', p[0], p[1]); c || ok {
			t.Errorf("ClashOf %d and %d bytes = %v, %v", len(p[0]), len(p[1]), c, ok)
		}
	}
}

// Promise 19: a list stays as it is, and what lies behind its length counts for nothing.
func TestListDigestLeavesItsList(t *testing.T) {
	memory := []string{"one", "two", "behind", strings.Repeat("b", 101)}
	kept := slices.Clone(memory)
	d, ok := impl.ListDigest('l', memory[:2])
	if d != plainDigest('l', "\x03one\x03two") || !ok {
		t.Errorf("%x, %v", d, ok)
	}
	if !slices.Equal(memory, kept) {
		t.Errorf("the list became %q", memory)
	}
	if d, ok := impl.ListDigest('l', memory); d != "" || ok {
		t.Errorf("%x, %v", d, ok)
	}
	if !slices.Equal(memory, kept) {
		t.Errorf("the refused list became %q", memory)
	}
}

// Promise 19: one call does not hang on those ahead of it.
func TestDigestsKeepNothing(t *testing.T) {
	first, _ := impl.DigestOf('a', "same")
	impl.DigestOf('b', "other")
	impl.FeedMix(impl.Mix{A: -1}, "x")
	impl.ListDigest('a', []string{strings.Repeat("b", 101)})
	if again, _ := impl.DigestOf('a', "same"); again != first {
		t.Errorf("%x, then %x", first, again)
	}
}
