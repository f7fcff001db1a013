package tests

import (
	"math"
	"math/rand"
	"slices"
	"strings"
	"testing"

	"loop.example/g00537/impl"
)

const (
	mostDocs     = 12
	mostWords    = 20
	mostDocText  = 120
	mostWordText = 12
	letters      = "abcdefghijklmnopqrstuvwxyz"
	greatLetters = "ABCDEFGHIJKLMNOPQRSTUVWXYZ"
)

func TestWordsConstants(t *testing.T) {
	if impl.MaxDocs != mostDocs || impl.MaxWords != mostWords {
		t.Fatal(impl.MaxDocs, impl.MaxWords)
	}
}

// slowWords makes a blank of every byte that is no letter.
func slowWords(s string) ([]string, bool) {
	b := []byte(s)
	for i, c := range b {
		if strings.IndexByte(letters+greatLetters, c) < 0 {
			b[i] = ' '
		}
	}
	words := strings.Fields(strings.ToLower(string(b)))
	if len(s) > 120 || len(words) > 20 {
		return nil, false
	}
	return words, true
}

// slowDocs has the words of each document.
func slowDocs(docs []string) ([][]string, bool) {
	var l [][]string
	for _, s := range docs {
		words, ok := slowWords(s)
		if !ok {
			return nil, false
		}
		l = append(l, words)
	}
	return l, len(docs) <= 12
}

func slowGoodWord(word string) bool {
	return len(word) >= 1 && len(word) <= 12 && strings.Trim(word, letters) == ""
}

// slowPhrase asks at each place of each document; of one word it has the posts.
func slowPhrase(docs []string, phrase ...string) []impl.Post {
	var l []impl.Post
	all, _ := slowDocs(docs)
	for doc, words := range all {
		var places []int
		for place := range words {
			if end := place + len(phrase); end <= len(words) && slices.Equal(words[place:end], phrase) {
				places = append(places, place)
			}
		}
		if len(places) > 0 {
			l = append(l, impl.Post{Doc: doc, Places: places})
		}
	}
	return l
}

func slowCount(docs []string, word string) (int, int) {
	many, times := 0, 0
	all, _ := slowDocs(docs)
	for _, words := range all {
		if slices.Contains(words, word) {
			many++
		}
		for _, w := range words {
			if w == word {
				times++
			}
		}
	}
	return many, times
}

func slowVocabulary(docs []string) []string {
	all, _ := slowDocs(docs)
	l := slices.Concat(all...)
	slices.Sort(l)
	return slices.Compact(l)
}

// slowNear looks around each place of a document, as far as by goes.
func slowNear(docs []string, a string, b string, by int) []int {
	var l []int
	all, _ := slowDocs(docs)
	for doc, words := range all {
		near := false
		for place := range words {
			around := slices.Concat(words[max(place-by, 0):place], words[place+1:min(place+by+1, len(words))])
			near = near || words[place] == a && slices.Contains(around, b)
		}
		if near {
			l = append(l, doc)
		}
	}
	return l
}

func hasPlace(l []impl.Post, doc int, place int) bool {
	return slices.ContainsFunc(l, func(p impl.Post) bool { return p.Doc == doc && slices.Contains(p.Places, place) })
}

// slowMeetPosts asks for all places of all documents that there may be.
func slowMeetPosts(a []impl.Post, b []impl.Post, by int) []impl.Post {
	var l []impl.Post
	for doc := range 12 {
		var places []int
		for place := range 20 {
			if hasPlace(a, doc, place) && hasPlace(b, doc, place+by) {
				places = append(places, place)
			}
		}
		if len(places) > 0 {
			l = append(l, impl.Post{Doc: doc, Places: places})
		}
	}
	return l
}

func slowGoodPosts(l []impl.Post) bool {
	for i, p := range l {
		if p.Doc < 0 || p.Doc > 11 || len(p.Places) < 1 || len(p.Places) > 20 || !slowRising(p.Places) || slices.Max(p.Places) > 19 {
			return false
		}
		for _, ahead := range l[:i] {
			if ahead.Doc >= p.Doc {
				return false
			}
		}
	}
	return len(l) <= 12
}

func samePosts(a []impl.Post, b []impl.Post) bool {
	return slices.EqualFunc(a, b, func(p impl.Post, q impl.Post) bool { return p.Doc == q.Doc && slices.Equal(p.Places, q.Places) })
}

func copyPosts(l []impl.Post) []impl.Post {
	c := slices.Clone(l)
	for i := range c {
		c[i].Places = slices.Clone(c[i].Places)
	}
	return c
}

func checkWords(t *testing.T, s string) {
	t.Helper()
	want, is := slowWords(s)
	if got, ok := impl.WordsOf(s); !slices.Equal(got, want) || ok != is {
		t.Fatalf("WordsOf(%q) = %q, %v; want %q, %v", s, got, ok, want, is)
	}
}

func checkPosts(t *testing.T, docs []string, word string) {
	t.Helper()
	want := slowPhrase(docs, word)
	l, ok := impl.PostsOf(docs, word)
	if !ok || !samePosts(l, want) || !impl.GoodPosts(l) {
		t.Fatalf("PostsOf(%q, %q) = %v, %v; want %v", docs, word, l, ok, want)
	}
	many, times := slowCount(docs, word)
	if gotMany, gotTimes, ok := impl.CountOf(docs, word); gotMany != many || gotTimes != times || !ok {
		t.Fatalf("CountOf(%q, %q) = %d, %d, %v; want %d, %d", docs, word, gotMany, gotTimes, ok, many, times)
	}
}

func checkPhrase(t *testing.T, docs []string, words ...string) int {
	t.Helper()
	want := slowPhrase(docs, words...)
	if l, ok := impl.PhraseIn(docs, words); !ok || !samePosts(l, want) {
		t.Fatalf("PhraseIn(%q, %q) = %v, %v; want %v", docs, words, l, ok, want)
	}
	return len(want)
}

func checkNear(t *testing.T, docs []string, a string, b string, by int) int {
	t.Helper()
	want := slowNear(docs, a, b, by)
	if l, ok := impl.NearIn(docs, a, b, by); !ok || !slices.Equal(l, want) {
		t.Fatalf("NearIn(%q, %q, %q, %d) = %v, %v; want %v", docs, a, b, by, l, ok, want)
	}
	if l, ok := impl.NearIn(docs, b, a, by); !ok || !slices.Equal(l, want) {
		t.Fatalf("NearIn(%q, %q, %q, %d) = %v, %v; want %v", docs, b, a, by, l, ok, want)
	}
	return len(want)
}

func checkMeetPosts(t *testing.T, a []impl.Post, b []impl.Post, by int) int {
	t.Helper()
	want := slowMeetPosts(a, b, by)
	l, ok := impl.MeetPosts(a, b, by)
	if !ok || !samePosts(l, want) || !impl.GoodPosts(l) {
		t.Fatalf("MeetPosts(%v, %v, %d) = %v, %v; want %v", a, b, by, l, ok, want)
	}
	return len(want)
}

// drawnBytes is a text of n bytes of this alphabet.
func drawnBytes(source *rand.Rand, alphabet string, n int) string {
	b := make([]byte, n)
	for i := range b {
		b[i] = alphabet[source.Intn(len(alphabet))]
	}
	return string(b)
}

// allBytes has every byte there is, in order.
func allBytes() string {
	b := make([]byte, 256)
	for i := range b {
		b[i] = byte(i)
	}
	return string(b)
}

// drawnCase makes some letters great.
func drawnCase(source *rand.Rand, word string) string {
	b := []byte(word)
	for i, c := range b {
		if source.Intn(3) == 0 {
			b[i] = strings.ToUpper(string(rune(c)))[0]
		}
	}
	return string(b)
}

// betweenWords are what may stand between words, many of them no good UTF-8.
func betweenWords() []string {
	return []string{" ", " ", "  ", ", ", "-", "1", "\n", "\x00", "\x7f", "\x80", "\xff", "\xc3", "\xe2\x84", "\xf0\x9f", "\u00e9", "\u017f", "\u212a", "@", "[", "`", "{"}
}

// drawnDoc writes up to many words of a pool, as long as there is room.
func drawnDoc(source *rand.Rand, pool []string, many int) string {
	signs := betweenWords()
	s := ""
	if source.Intn(3) == 0 {
		s = signs[source.Intn(len(signs))]
	}
	for range many {
		more := drawnCase(source, pool[source.Intn(len(pool))])
		if source.Intn(8) > 0 || len(s)+len(more) < mostDocText {
			more += signs[source.Intn(len(signs))]
		}
		if len(s)+len(more) > mostDocText {
			break
		}
		s += more
	}
	return s
}

func wordPools() [][]string {
	return [][]string{
		{"a", "b"},
		{"a", "b", "c", "d"},
		{"a", "ab", "aa", "b", "ba"},
		{"red", "sea", "boat", "blue", "and", "the"},
		{"x", "abcdefghijkl", "abcdefghijklm", "abcdefghijk", "bcdefghijkl"},
		strings.Split(letters, ""),
		{"zz", "z", "az", "za", "m", strings.Repeat("q", 12), strings.Repeat("q", 13)},
	}
}

// someDocs has documents of every number of texts, of few words that come again and of many, short ones and long ones.
func someDocs() [][]string {
	source := rand.New(rand.NewSource(9))
	l := [][]string{nil, {}, {""}, {" "}, {"a"}, {"", "a", ""}, {"Red sea, red boat", "blue sea"}, slices.Repeat([]string{""}, mostDocs), slices.Repeat([]string{"a"}, mostDocs)}
	l = append(l, slices.Repeat([]string{strings.TrimSuffix(strings.Repeat("a ", mostWords), " ")}, mostDocs), []string{strings.Repeat("a", mostDocText)}, []string{strings.Repeat("Abcde ", mostWords)})
	for _, pool := range wordPools() {
		for many := 1; many <= mostDocs; many++ {
			for _, words := range []int{1, 3, 6, mostWords} {
				var docs []string
				for range many {
					docs = append(docs, drawnDoc(source, pool, source.Intn(words+1)))
				}
				l = append(l, docs)
			}
			docs := make([]string, many)
			for i := range docs {
				docs[i] = drawnDoc(source, pool, mostWords)
			}
			l = append(l, docs)
		}
	}
	return l
}

// askedWords are the words of documents that may be asked for, and some that stand nowhere.
func askedWords(docs []string) []string {
	l := slices.DeleteFunc(slowVocabulary(docs), func(word string) bool { return !slowGoodWord(word) })
	for _, word := range []string{"nowhere", "a", "aa", "zzzzzzzzzzzz", "abcdefghijkl", "sea", "s"} {
		if !slices.Contains(l, word) {
			l = append(l, word)
		}
	}
	return l
}

func TestWordsOfTextsOfEveryLength(t *testing.T) {
	source := rand.New(rand.NewSource(91))
	alphabets := []string{letters, letters + "     ", greatLetters + letters + "  .,-", "aB 1", "aZ\x80", "zA @[`{", allBytes(), allBytes()[128:] + letters, "a\xc3\xa9", "k\xe2\x84\xaa", "s\xc5\xbf", " ", "1234567890", "a ", "Q"}
	good, all := 0, 0
	for n := range mostDocText + 3 {
		for _, alphabet := range alphabets {
			for range 6 {
				s := drawnBytes(source, alphabet, n)
				checkWords(t, s)
				all++
				if _, ok := slowWords(s); ok {
					good++
				}
			}
		}
	}
	if good*2 < all || good > all-100 {
		t.Errorf("%d of %d texts are as said", good, all)
	}
	for _, docs := range someDocs() {
		for _, s := range docs {
			checkWords(t, s)
		}
	}
}

// Every byte, and every two of them, alone and beside letters.
func TestWordsAmongAllBytes(t *testing.T) {
	for a := range 256 {
		one := string([]byte{byte(a)})
		for _, s := range []string{one, one + "x", "x" + one, "x" + one + "y", one + one, "xy" + one + one + "Xy", one + "x" + one} {
			checkWords(t, s)
		}
		for b := range 256 {
			two := string([]byte{byte(a), byte(b)})
			checkWords(t, two)
			checkWords(t, "x"+two+"Y")
		}
	}
}

func TestWordsByHand(t *testing.T) {
	cases := []struct {
		s     string
		words string
	}{
		{"", ""},
		{" ", ""},
		{"123, 456.", ""},
		{"\x80\xff\xc3", ""},
		{"a", "a"},
		{"Z", "z"},
		{"A", "a"},
		{"z", "z"},
		{"@A[Z`a{z", "a z a z"},
		{" word", "word"},
		{"word ", "word"},
		{"word", "word"},
		{"Red sea, red boat", "red sea red boat"},
		{"RED,sea;Red-BOAT", "red sea red boat"},
		{"it's 2nd", "it s nd"},
		{"one1two2", "one two"},
		{"a\x00b\nc\td", "a b c d"},
		{"caf\u00e9 au", "caf au"},
		{"\u212aelvin \u017fun \u0130t", "elvin un t"},
		{"\uff21\uff42 ab", "ab"},
		{"na\u0131ve", "na ve"},
		{"a\xc3b", "a b"},
		{"a\xe2\x84b", "a b"},
		{"a\xf0\x9f\x98b\x80c", "a b c"},
		{"\xffab\xff", "ab"},
		{"\ufeffab\u00a0cd", "ab cd"},
	}
	for _, c := range cases {
		if l, ok := impl.WordsOf(c.s); !ok || !slices.Equal(l, strings.Fields(c.words)) {
			t.Errorf("WordsOf(%q) = %q, %v; want %q", c.s, l, ok, c.words)
		}
	}
}

func TestTextsAtTheirLimits(t *testing.T) {
	long := strings.Repeat("Ab", mostDocText/2)
	if l, ok := impl.WordsOf(long); !ok || len(l) != 1 || l[0] != strings.ToLower(long) {
		t.Error(l, ok)
	}
	many := strings.Repeat("x-", mostWords)
	if l, ok := impl.WordsOf(many); !ok || !slices.Equal(l, slices.Repeat([]string{"x"}, mostWords)) {
		t.Error(l, ok)
	}
	for _, s := range []string{strings.Repeat("fives ", mostWords), strings.Repeat(" ", mostDocText), strings.Repeat("\xff", mostDocText), strings.Repeat(" ", mostDocText-1) + "a", "a" + strings.Repeat("7", mostDocText-1), strings.Repeat("\u00e9", mostDocText/2), many + strings.Repeat(" ", mostDocText-2*mostWords), "\U0001f600" + strings.Repeat("ab1", 38)[:mostDocText-4-60]} {
		if _, ok := impl.WordsOf(s); !ok {
			t.Errorf("WordsOf(%q) tells false", s)
		}
		checkWords(t, s)
	}
	for _, s := range []string{long + "a", long + " ", strings.Repeat(" ", mostDocText+1), strings.Repeat("\xff", mostDocText+1), strings.Repeat("\u00e9", mostDocText/2) + "a", strings.Repeat("\u00e9", 100), many + "y", "y " + many, strings.Repeat("a ", mostWords+1), strings.Repeat("a ", 60), strings.Repeat("fives ", mostWords) + "a", strings.Repeat("a", 100000), strings.Repeat("a ", 100000)} {
		if l, ok := impl.WordsOf(s); len(l) != 0 || ok {
			t.Errorf("WordsOf(%q) = %q, %v", s, l, ok)
		}
	}
}

// Promise 9.
func TestPlacesAreJustWhereAWordStands(t *testing.T) {
	met, stood := map[int]int{}, 0
	for _, docs := range someDocs() {
		if _, ok := slowDocs(docs); !ok {
			t.Fatalf("%q are no documents to test with", docs)
		}
		met[len(docs)]++
		for _, word := range askedWords(docs) {
			checkPosts(t, docs, word)
			l, _ := impl.PostsOf(docs, word)
			// The same again by WordsOf, place by place, whatever the slow answers say.
			times := 0
			for doc, s := range docs {
				words, _ := impl.WordsOf(s)
				for place := range mostWords + 1 {
					stands := place < len(words) && words[place] == word
					if hasPlace(l, doc, place) != stands {
						t.Fatalf("PostsOf(%q, %q) = %v; is it at %d of %d? %v", docs, word, l, place, doc, stands)
					}
					if stands {
						times++
					}
				}
			}
			if many, all, ok := impl.CountOf(docs, word); many != len(l) || all != times || !ok {
				t.Fatalf("CountOf(%q, %q) = %d, %d, %v", docs, word, many, all, ok)
			}
			stood += times
		}
		want := slowVocabulary(docs)
		if l, ok := impl.VocabularyOf(docs); !ok || !slices.Equal(l, want) {
			t.Fatalf("VocabularyOf(%q) = %q, %v; want %q", docs, l, ok, want)
		}
	}
	for many := range mostDocs + 1 {
		if met[many] == 0 {
			t.Errorf("no %d documents", many)
		}
	}
	if stood < 10000 {
		t.Errorf("the words stand at %d places alone", stood)
	}
}

func TestPostsByHand(t *testing.T) {
	docs := []string{"The red sea. The red, red boat!", "", "blue sea", "a sea of sea, SEA"}
	cases := []struct {
		word string
		want []impl.Post
	}{
		{"red", []impl.Post{{Doc: 0, Places: []int{1, 4, 5}}}},
		{"sea", []impl.Post{{Doc: 0, Places: []int{2}}, {Doc: 2, Places: []int{1}}, {Doc: 3, Places: []int{1, 3, 4}}}},
		{"the", []impl.Post{{Doc: 0, Places: []int{0, 3}}}},
		{"boat", []impl.Post{{Doc: 0, Places: []int{6}}}},
		{"a", []impl.Post{{Doc: 3, Places: []int{0}}}},
		{"se", nil},
		{"seas", nil},
		{"green", nil},
	}
	for _, c := range cases {
		if l, ok := impl.PostsOf(docs, c.word); !ok || !samePosts(l, c.want) {
			t.Errorf("PostsOf %q = %v, %v; want %v", c.word, l, ok, c.want)
		}
	}
	if many, times, ok := impl.CountOf(docs, "sea"); many != 3 || times != 5 || !ok {
		t.Error(many, times, ok)
	}
	if many, times, ok := impl.CountOf(docs, "green"); many != 0 || times != 0 || !ok {
		t.Error(many, times, ok)
	}
	if l, ok := impl.VocabularyOf(docs); !ok || strings.Join(l, " ") != "a blue boat of red sea the" {
		t.Error(l, ok)
	}
}

// MaxDocs documents of MaxWords words each: one word alone, and as many unlike ones as there can be.
func TestDocumentsAtTheirLimits(t *testing.T) {
	docs := slices.Repeat([]string{strings.Repeat("longs ", mostWords)}, mostDocs)
	l, ok := impl.PostsOf(docs, "longs")
	if !ok || len(l) != mostDocs || l[0].Doc != 0 || l[mostDocs-1].Doc != mostDocs-1 || !impl.GoodPosts(l) {
		t.Fatal(l, ok)
	}
	for _, p := range l {
		if !slices.Equal(p.Places, steppedList(0, mostWords, 1)) {
			t.Error(p)
		}
	}
	if many, times, ok := impl.CountOf(docs, "longs"); many != mostDocs || times != mostDocs*mostWords || !ok {
		t.Error(many, times, ok)
	}
	var unlike []string
	for i := range mostDocs * mostWords {
		unlike = append(unlike, string([]byte{'l', 'o', 'n', letters[i/26], letters[i%26]}))
	}
	var wide []string
	for words := range slices.Chunk(unlike, mostWords) {
		wide = append(wide, strings.ToUpper(strings.Join(words, " ")))
	}
	if v, ok := impl.VocabularyOf(wide); !ok || !slices.Equal(v, unlike) {
		t.Error(v, ok)
	}
	if l, ok := impl.PostsOf(wide, unlike[239]); !ok || !samePosts(l, []impl.Post{{Doc: 11, Places: []int{19}}}) {
		t.Error(l, ok)
	}
	// Words of documents may be longer than those that are asked for.
	twelve := strings.Repeat("ab", 6)
	odd := []string{twelve + " " + twelve + "c", strings.Repeat("z", mostDocText), twelve + "," + twelve}
	if v, ok := impl.VocabularyOf(odd); !ok || !slices.Equal(v, []string{twelve, twelve + "c", strings.Repeat("z", mostDocText)}) {
		t.Error(v, ok)
	}
	if l, ok := impl.PostsOf(odd, twelve); !ok || !samePosts(l, []impl.Post{{Doc: 0, Places: []int{0}}, {Doc: 2, Places: []int{0, 1}}}) {
		t.Error(l, ok)
	}
	if l, ok := impl.PhraseIn(odd, slices.Repeat([]string{twelve}, 2)); !ok || !samePosts(l, []impl.Post{{Doc: 2, Places: []int{0}}}) {
		t.Error(l, ok)
	}
	if l, ok := impl.PhraseIn(docs, slices.Repeat([]string{"longs"}, 4)); !ok || len(l) != mostDocs || !slices.Equal(l[11].Places, steppedList(0, mostWords-3, 1)) {
		t.Error(l, ok)
	}
	if l, ok := impl.NearIn(docs, "longs", "longs", 1); !ok || !slices.Equal(l, steppedList(0, mostDocs, 1)) {
		t.Error(l, ok)
	}
	if l, ok := impl.NearIn(wide, unlike[0], unlike[19], 19); !ok || !slices.Equal(l, []int{0}) {
		t.Error(l, ok)
	}
	if l, ok := impl.NearIn(wide, unlike[0], unlike[19], mostWords); !ok || !slices.Equal(l, []int{0}) {
		t.Error(l, ok)
	}
	if l, ok := impl.NearIn(wide, unlike[0], unlike[19], 18); !ok || len(l) != 0 {
		t.Error(l, ok)
	}
}

// Phrases that stand in documents, those that go on past an end, and those with one word of another.
func TestPhrasesAreWhereAllWordsStand(t *testing.T) {
	source := rand.New(rand.NewSource(92))
	met := map[int]int{}
	for _, docs := range someDocs() {
		asked := askedWords(docs)
		all, _ := slowDocs(docs)
		for _, words := range all {
			for range 12 {
				size := 1 + source.Intn(4)
				if len(words) == 0 {
					break
				}
				at := source.Intn(len(words))
				if source.Intn(4) == 0 {
					at = max(len(words)-size+source.Intn(2), 0)
				}
				phrase := slices.Clone(words[at:min(at+size, len(words))])
				for len(phrase) < size {
					phrase = append(phrase, asked[source.Intn(len(asked))])
				}
				if source.Intn(4) == 0 {
					phrase[source.Intn(size)] = asked[source.Intn(len(asked))]
				}
				if slices.ContainsFunc(phrase, func(word string) bool { return !slowGoodWord(word) }) {
					noPhrase(t, "a word is too long", docs, phrase)
					continue
				}
				if checkPhrase(t, docs, phrase...) > 0 {
					met[size]++
				}
			}
		}
		for _, word := range asked {
			checkPhrase(t, docs, word)
			one, _ := impl.PhraseIn(docs, []string{word})
			if l, _ := impl.PostsOf(docs, word); !samePosts(one, l) {
				t.Fatalf("PhraseIn(%q, %q alone) = %v; PostsOf = %v", docs, word, one, l)
			}
			for size := 2; size <= 4; size++ {
				checkPhrase(t, docs, slices.Repeat([]string{word}, size)...)
			}
		}
	}
	for size := 1; size <= 4; size++ {
		if met[size] < 300 {
			t.Errorf("only %d phrases of %d words stand somewhere", met[size], size)
		}
	}
}

// All phrases of three words over small documents, so that each place and each end is met.
func TestAllSmallPhrases(t *testing.T) {
	var docs []string
	for set := range 1 << 5 {
		for size := 1; size <= 5; size++ {
			if set>>size == 0 {
				var words []string
				for i := range size {
					words = append(words, []string{"a", "b"}[set>>i&1])
				}
				docs = append(docs, strings.Join(words, " "))
			}
		}
	}
	docs = append(docs, "a b c a b c a", "c", "b c", "a a a a a a a a a a a a a a a a a a a a", "")
	for some := range slices.Chunk(docs, mostDocs) {
		for size := 1; size <= 4; size++ {
			for no := range int(math.Pow(3, float64(size))) {
				var phrase []string
				for range size {
					phrase, no = append(phrase, []string{"a", "b", "c"}[no%3]), no/3
				}
				checkPhrase(t, some, phrase...)
			}
		}
		for by := 1; by <= mostWords; by++ {
			for _, pair := range []string{"ab", "aa", "bb", "bc", "ac", "cc"} {
				checkNear(t, some, pair[:1], pair[1:], by)
			}
		}
	}
}

func TestPhrasesByHand(t *testing.T) {
	docs := []string{"Red sea, red boat", "blue sea red", "red", "a red sea red sea red", "sea red sea"}
	cases := []struct {
		phrase string
		want   []impl.Post
	}{
		{"red sea", []impl.Post{{Doc: 0, Places: []int{0}}, {Doc: 3, Places: []int{1, 3}}, {Doc: 4, Places: []int{1}}}},
		{"sea red", []impl.Post{{Doc: 0, Places: []int{1}}, {Doc: 1, Places: []int{1}}, {Doc: 3, Places: []int{2, 4}}, {Doc: 4, Places: []int{0}}}},
		{"sea red boat", []impl.Post{{Doc: 0, Places: []int{1}}}},
		{"red sea red boat", []impl.Post{{Doc: 0, Places: []int{0}}}},
		{"red sea red sea", []impl.Post{{Doc: 3, Places: []int{1}}}},
		{"sea red sea red", []impl.Post{{Doc: 3, Places: []int{2}}}},
		{"sea red sea", []impl.Post{{Doc: 3, Places: []int{2}}, {Doc: 4, Places: []int{0}}}},
		{"red boat blue", nil},
		{"red red", nil},
		{"sea boat", nil},
		{"boat red", nil},
		{"nowhere", nil},
		{"red nowhere", nil},
		{"nowhere red", nil},
	}
	for _, c := range cases {
		if l, ok := impl.PhraseIn(docs, strings.Fields(c.phrase)); !ok || !samePosts(l, c.want) {
			t.Errorf("PhraseIn %q = %v, %v; want %v", c.phrase, l, ok, c.want)
		}
	}
}

func TestNearWordsAreAtMostByApart(t *testing.T) {
	source := rand.New(rand.NewSource(93))
	met := map[int]int{}
	for _, docs := range someDocs() {
		asked := askedWords(docs)
		for range 10 {
			a, b := asked[source.Intn(len(asked))], asked[source.Intn(len(asked))]
			had := 0
			for by := 1; by <= mostWords; by++ {
				many := checkNear(t, docs, a, b, by)
				if many < had {
					t.Fatalf("fewer of %q have %q near %q by %d than by one less", docs, a, b, by)
				}
				if many > had {
					met[by]++
				}
				had = many
			}
		}
		for _, word := range asked {
			checkNear(t, docs, word, word, 1)
			checkNear(t, docs, word, word, mostWords)
		}
	}
	for by := 1; by < 10; by++ {
		if met[by] == 0 {
			t.Errorf("no documents have words just %d apart", by)
		}
	}
}

func TestNearByHand(t *testing.T) {
	apart := "a " + strings.Repeat("x ", 18) + "b"
	docs := []string{"a b", "b a", "a x b", "b x x a", apart, "a", "b", "a a", "a x x a", ""}
	cases := []struct {
		a, b string
		by   int
		want []int
	}{
		{"a", "b", 1, []int{0, 1}},
		{"a", "b", 2, []int{0, 1, 2}},
		{"a", "b", 3, []int{0, 1, 2, 3}},
		{"a", "b", 18, []int{0, 1, 2, 3}},
		{"a", "b", 19, []int{0, 1, 2, 3, 4}},
		{"a", "b", 20, []int{0, 1, 2, 3, 4}},
		{"a", "a", 1, []int{7}},
		{"a", "a", 2, []int{7}},
		{"a", "a", 3, []int{7, 8}},
		{"a", "a", 20, []int{7, 8}},
		{"b", "b", 20, nil},
		{"x", "x", 1, []int{3, 4, 8}},
		{"a", "x", 1, []int{2, 3, 4, 8}},
		{"a", "nowhere", 20, nil},
		{"nowhere", "nowhere", 20, nil},
	}
	for _, c := range cases {
		for _, pair := range [][2]string{{c.a, c.b}, {c.b, c.a}} {
			if l, ok := impl.NearIn(docs, pair[0], pair[1], c.by); !ok || !slices.Equal(l, c.want) {
				t.Errorf("NearIn %q, by %d = %v, %v; want %v", pair, c.by, l, ok, c.want)
			}
		}
	}
}

// drawnPosts are of up to many documents, each with up to places places.
func drawnPosts(source *rand.Rand, many int, places int) []impl.Post {
	var l []impl.Post
	for _, doc := range drawnList(source, source.Intn(many+1), 0, mostDocs-1) {
		l = append(l, impl.Post{Doc: doc, Places: drawnList(source, 1+source.Intn(places), 0, mostWords-1)})
	}
	return l
}

// fullPosts has all documents, and all places of each.
func fullPosts() []impl.Post {
	var l []impl.Post
	for doc := range mostDocs {
		l = append(l, impl.Post{Doc: doc, Places: steppedList(0, mostWords, 1)})
	}
	return l
}

func somePosts() [][]impl.Post {
	source := rand.New(rand.NewSource(94))
	l := [][]impl.Post{nil, {}, fullPosts()}
	for _, doc := range []int{0, 1, 5, mostDocs - 1} {
		for _, place := range []int{0, 1, 9, mostWords - 1} {
			l = append(l, []impl.Post{{Doc: doc, Places: []int{place}}})
		}
		l = append(l, []impl.Post{{Doc: doc, Places: steppedList(0, mostWords, 1)}}, []impl.Post{{Doc: doc, Places: []int{0, mostWords - 1}}})
	}
	l = append(l, []impl.Post{{Doc: 0, Places: []int{0}}, {Doc: mostDocs - 1, Places: []int{mostWords - 1}}})
	for range 60 {
		l = append(l, drawnPosts(source, mostDocs, 3), drawnPosts(source, 4, mostWords), drawnPosts(source, mostDocs, mostWords))
	}
	return l
}

func TestMeetPostsIsWhereBGoesOn(t *testing.T) {
	posts, met := somePosts(), map[int]int{}
	for i, a := range posts {
		if !impl.GoodPosts(a) {
			t.Fatalf("GoodPosts(%v) is false", a)
		}
		for k := range 12 {
			b := posts[(i+k*k)%len(posts)]
			for by := -mostWords; by <= mostWords; by++ {
				met[by] += checkMeetPosts(t, a, b, by)
			}
		}
		if l, _ := impl.MeetPosts(a, a, 0); !samePosts(l, a) {
			t.Fatalf("MeetPosts of %v and itself by 0 = %v", a, l)
		}
	}
	for by := -mostWords; by <= mostWords; by++ {
		if is := met[by] > 0; is != (by != mostWords && by != -mostWords) {
			t.Errorf("posts meet %d times by %d", met[by], by)
		}
	}
	// What documents have of two words, by as far as there may be.
	for _, docs := range someDocs()[:60] {
		asked := askedWords(docs)
		for i, word := range asked {
			other := asked[(i*5+1)%len(asked)]
			a, _ := impl.PostsOf(docs, word)
			b, _ := impl.PostsOf(docs, other)
			for by := -mostWords; by <= mostWords; by++ {
				checkMeetPosts(t, a, b, by)
			}
			behind, _ := impl.MeetPosts(a, b, 1)
			if l, _ := impl.PhraseIn(docs, []string{word, other}); !samePosts(l, behind) {
				t.Fatalf("PhraseIn(%q, %q %q) = %v; they meet at %v", docs, word, other, l, behind)
			}
		}
	}
}

func TestMeetPostsByHand(t *testing.T) {
	a := []impl.Post{{Doc: 0, Places: []int{0, 5}}, {Doc: 2, Places: []int{0, 1, 19}}, {Doc: 3, Places: []int{7}}, {Doc: 11, Places: []int{19}}}
	b := []impl.Post{{Doc: 1, Places: []int{0, 5}}, {Doc: 2, Places: []int{0, 3, 18, 19}}, {Doc: 3, Places: []int{9}}, {Doc: 11, Places: []int{0}}}
	cases := []struct {
		by   int
		want []impl.Post
	}{
		{0, []impl.Post{{Doc: 2, Places: []int{0, 19}}}},
		{1, nil},
		{2, []impl.Post{{Doc: 2, Places: []int{1}}, {Doc: 3, Places: []int{7}}}},
		{3, []impl.Post{{Doc: 2, Places: []int{0}}}},
		{-1, []impl.Post{{Doc: 2, Places: []int{1, 19}}}},
		{-2, nil},
		{17, []impl.Post{{Doc: 2, Places: []int{1}}}},
		{18, []impl.Post{{Doc: 2, Places: []int{0, 1}}}},
		{19, []impl.Post{{Doc: 2, Places: []int{0}}}},
		{-19, []impl.Post{{Doc: 2, Places: []int{19}}, {Doc: 11, Places: []int{19}}}},
		{20, nil},
		{-20, nil},
	}
	for _, c := range cases {
		if l, ok := impl.MeetPosts(a, b, c.by); !ok || !samePosts(l, c.want) {
			t.Errorf("MeetPosts by %d = %v, %v; want %v", c.by, l, ok, c.want)
		}
	}
}

// noPosts asks that posts are not good, and meet none.
func noPosts(t *testing.T, why string, l []impl.Post) {
	t.Helper()
	if impl.GoodPosts(l) {
		t.Fatalf("%s: GoodPosts(%v) is true", why, l)
	}
	right := fullPosts()
	for _, pair := range [][2][]impl.Post{{l, right}, {right, l}, {l, l}, {l, nil}, {nil, l}} {
		for _, by := range []int{0, 1, -1, mostWords} {
			if got, ok := impl.MeetPosts(pair[0], pair[1], by); len(got) != 0 || ok {
				t.Fatalf("%s: MeetPosts by %d = %v, %v", why, by, got, ok)
			}
		}
	}
}

// spoilPosts does each of the changes that make good posts wrong, one by one.
func spoilPosts(l []impl.Post, do func(why string, spoilt []impl.Post)) {
	edit := func(why string, how func(c []impl.Post) []impl.Post) { do(why, how(copyPosts(l))) }
	edit("one post more than MaxDocs, behind", func(c []impl.Post) []impl.Post {
		return append(append(c, fullPosts()[min(len(c), mostDocs):]...), impl.Post{Doc: mostDocs, Places: []int{0}})
	})
	for i := range l {
		for _, doc := range []int{-1, mostDocs, math.MinInt, math.MaxInt, 1 << 32, -1 << 32} {
			edit("a Doc beyond", func(c []impl.Post) []impl.Post { c[i].Doc = doc; return c })
		}
		edit("twice the same Doc", func(c []impl.Post) []impl.Post { return slices.Insert(c, i, c[i]) })
		if i > 0 {
			edit("a Doc as the one ahead", func(c []impl.Post) []impl.Post { c[i].Doc = c[i-1].Doc; return c })
			edit("Docs that fall", func(c []impl.Post) []impl.Post { c[i], c[i-1] = c[i-1], c[i]; return c })
		}
		edit("no Places", func(c []impl.Post) []impl.Post { c[i].Places = nil; return c })
		edit("empty Places", func(c []impl.Post) []impl.Post { c[i].Places = []int{}; return c })
		edit("one more than MaxWords", func(c []impl.Post) []impl.Post { c[i].Places = steppedList(0, mostWords+1, 1); return c })
		edit("one more, that is ahead", func(c []impl.Post) []impl.Post { c[i].Places = steppedList(-1, mostWords+1, 1); return c })
		edit("more than MaxWords, alike", func(c []impl.Post) []impl.Post { c[i].Places = make([]int, mostWords+1); return c })
		for k := range l[i].Places {
			for _, n := range []int{-1, mostWords, math.MinInt, math.MaxInt, 1 << 32, -1 << 32} {
				edit("a place beyond", func(c []impl.Post) []impl.Post { c[i].Places[k] = n; return c })
			}
			edit("twice the same place", func(c []impl.Post) []impl.Post {
				c[i].Places = slices.Insert(c[i].Places, k, c[i].Places[k])
				return c
			})
			if k > 0 {
				edit("places that fall", func(c []impl.Post) []impl.Post {
					c[i].Places[k], c[i].Places[k-1] = c[i].Places[k-1], c[i].Places[k]
					return c
				})
			}
		}
	}
}

func TestPostsThatAreNotGood(t *testing.T) {
	posts := [][]impl.Post{nil, {{Doc: 0, Places: []int{0}}}, {{Doc: 11, Places: []int{19}}}, {{Doc: 3, Places: []int{2, 7, 11}}, {Doc: 5, Places: []int{4, 6}}}, fullPosts(), fullPosts()[:5]}
	source := rand.New(rand.NewSource(95))
	for range 6 {
		posts = append(posts, drawnPosts(source, mostDocs, mostWords))
	}
	for _, l := range posts {
		if !impl.GoodPosts(l) || !slowGoodPosts(l) {
			t.Fatalf("GoodPosts(%v) is false", l)
		}
		spoilPosts(l, func(why string, spoilt []impl.Post) {
			if slowGoodPosts(spoilt) {
				t.Fatalf("%s: %v are good", why, spoilt)
			}
			was := copyPosts(spoilt)
			noPosts(t, why, spoilt)
			if !samePosts(spoilt, was) {
				t.Fatalf("%s: %v are changed", why, was)
			}
		})
	}
	noPosts(t, "very many", slices.Repeat([]impl.Post{{Doc: 0, Places: []int{0}}}, 10000))
	noPosts(t, "very many places", []impl.Post{{Doc: 0, Places: steppedList(0, 100000, 1)}})
	noPosts(t, "zero posts", make([]impl.Post, 1))
}

// All small posts of these numbers, among them those at the limits and one beyond.
func TestAllSmallPosts(t *testing.T) {
	numbers := []int{-1, 0, 1, 19, 20}
	lists := [][]int{nil, {}}
	for _, a := range numbers {
		lists = append(lists, []int{a})
		for _, b := range numbers {
			lists = append(lists, []int{a, b})
		}
	}
	var posts []impl.Post
	for _, doc := range []int{-1, 0, 1, 11, 12} {
		for _, places := range lists {
			posts = append(posts, impl.Post{Doc: doc, Places: places})
		}
	}
	good := 0
	for i, a := range posts {
		if is := impl.GoodPosts(posts[i : i+1]); is != slowGoodPosts(posts[i:i+1]) {
			t.Fatalf("GoodPosts of %v alone is %v", a, is)
		}
		for _, b := range posts {
			l := []impl.Post{a, b}
			is := impl.GoodPosts(l)
			if is != slowGoodPosts(l) {
				t.Fatalf("GoodPosts(%v) is %v", l, is)
			}
			if is {
				good++
			}
		}
	}
	if good != 3*6*6 {
		t.Errorf("%d small posts are good", good)
	}
}

// Promise 19, from here on.
func badWords() []string {
	l := []string{"", " ", "A", "Z", "aB", "Ba", "red sea", "red ", " red", "red,", "a1", "1", "a-b", "a\x00", "\x00", "a\n", "\x80", "\xff", "a\xc3", "\u00e9", "caf\u00e9", "\u212a", "\u017f", "\u0131", "\uff41", "`", "{", "@", "[", "a`", "z{", "RED", strings.Repeat("a", mostWordText+1), strings.Repeat("a", mostDocText), strings.Repeat("a", 100000), strings.Repeat("\u00e9", 12), strings.Repeat(" ", 12), "abcdefghijkl ", "abcdefghijk\xff", "\xffabcdefghijk", "abcdefGhijkl"}
	for c := range 256 {
		if c < 'a' || c > 'z' {
			l = append(l, "red"+string([]byte{byte(c)}), string([]byte{byte(c)}))
		}
	}
	return l
}

// badDocs are texts that are not as said, and too many of them, each wrong one at each place.
func badDocs() map[string][]string {
	m := map[string][]string{
		"one more than MaxDocs":         slices.Repeat([]string{"red sea"}, mostDocs+1),
		"one more than MaxDocs, empty":  make([]string, mostDocs+1),
		"very many documents":           make([]string, 100000),
		"a text of 121 letters":         {strings.Repeat("a", mostDocText+1)},
		"a text of 121 blanks":          {strings.Repeat(" ", mostDocText+1)},
		"a text of 121 bytes, few red":  {"red" + strings.Repeat("\u00e9", 59)},
		"one more than MaxWords":        {strings.Repeat("red ", mostWords+1)},
		"one more than MaxWords, short": {strings.Repeat("a.", mostWords) + "a"},
		"a very long text":              {strings.Repeat("red sea ", 10000)},
		"all wrong":                     slices.Repeat([]string{strings.Repeat("a", 200)}, 20),
	}
	for at := range mostDocs {
		long, many := slices.Repeat([]string{"red sea"}, mostDocs), slices.Repeat([]string{"red sea"}, mostDocs)
		long[at] += strings.Repeat(" ", mostDocText+1-len(long[at]))
		many[at] = strings.Repeat("red ", mostWords) + "sea"
		m["one text too long, at "+letters[at:at+1]] = long
		m["one text of too many words, at "+letters[at:at+1]] = many
	}
	return m
}

func noPhrase(t *testing.T, why string, docs []string, words []string) {
	t.Helper()
	if l, ok := impl.PhraseIn(docs, words); len(l) != 0 || ok {
		t.Fatalf("%s: PhraseIn %q = %v, %v", why, words, l, ok)
	}
}

func noNear(t *testing.T, why string, docs []string, a string, b string, by int) {
	t.Helper()
	if l, ok := impl.NearIn(docs, a, b, by); len(l) != 0 || ok {
		t.Fatalf("%s: NearIn %q, %q, by %d = %v, %v", why, a, b, by, l, ok)
	}
}

// noWord asks that nothing is told of this word in these documents.
func noWord(t *testing.T, why string, docs []string, word string) {
	t.Helper()
	if l, ok := impl.PostsOf(docs, word); len(l) != 0 || ok {
		t.Fatalf("%s: PostsOf %q = %v, %v", why, word, l, ok)
	}
	if many, times, ok := impl.CountOf(docs, word); many != 0 || times != 0 || ok {
		t.Fatalf("%s: CountOf %q = %d, %d, %v", why, word, many, times, ok)
	}
	for size := 1; size <= 4; size++ {
		for at := range size {
			phrase := slices.Repeat([]string{"red"}, size)
			phrase[at] = word
			noPhrase(t, why, docs, phrase)
		}
	}
	for _, by := range []int{1, 5, mostWords} {
		noNear(t, why, docs, word, "red", by)
		noNear(t, why, docs, "red", word, by)
		noNear(t, why, docs, word, word, by)
	}
}

func TestWordsThatAreNotAsSaid(t *testing.T) {
	docs := [][]string{nil, {""}, {"red sea red", "RED a1 A Z caf\u00e9 abcdefghijklm", strings.Repeat("a", mostWordText+1), strings.Repeat("a", mostDocText)}}
	for _, word := range badWords() {
		if slowGoodWord(word) {
			t.Fatalf("%q is a word", word)
		}
		for _, some := range docs {
			was := slices.Clone(some)
			noWord(t, "no word", some, word)
			if !slices.Equal(some, was) {
				t.Fatalf("%q are changed", was)
			}
		}
	}
	// One letter and twelve of them are a word.
	for _, word := range []string{"a", "z", "m", strings.Repeat("a", 12), strings.Repeat("z", 12), "abcdefghijkl"} {
		checkPosts(t, []string{"a z m", strings.ToUpper(word) + " " + word}, word)
	}
}

func TestDocumentsThatAreNotAsSaid(t *testing.T) {
	for why, docs := range badDocs() {
		if _, ok := slowDocs(docs); ok {
			t.Fatalf("%s: these are documents", why)
		}
		was := slices.Clone(docs)
		for _, word := range []string{"red", "sea", "nowhere", "a", ""} {
			noWord(t, why, docs, word)
		}
		if l, ok := impl.VocabularyOf(docs); len(l) != 0 || ok {
			t.Fatalf("%s: VocabularyOf = %q, %v", why, l, ok)
		}
		if !slices.Equal(docs, was) {
			t.Fatalf("%s: the documents are changed", why)
		}
	}
}

func TestPhrasesAndDistancesThatAreNotAsSaid(t *testing.T) {
	docs := []string{"red sea red sea red sea", "red red red red red red", ""}
	noPhrase(t, "no words", docs, nil)
	noPhrase(t, "no words", docs, []string{})
	noPhrase(t, "no words", nil, nil)
	for _, size := range []int{5, 6, 100, 100000} {
		noPhrase(t, "too many words", docs, slices.Repeat([]string{"red"}, size))
		noPhrase(t, "too many words", nil, slices.Repeat([]string{"red"}, size))
	}
	checkPhrase(t, docs, "red", "red", "red", "red")
	for _, by := range []int{0, -1, -mostWords, mostWords + 1, mostWords + 2, math.MinInt, math.MaxInt, 1 << 32, -1 << 32, 1<<32 + 1} {
		noNear(t, "by beyond", docs, "red", "sea", by)
		noNear(t, "by beyond", docs, "red", "red", by)
		noNear(t, "by beyond", nil, "red", "sea", by)
	}
	posts := fullPosts()
	for _, by := range []int{-mostWords - 1, mostWords + 1, -mostWords - 2, mostWords + 2, 100, -100, math.MinInt, math.MaxInt, 1 << 32, -1 << 32, math.MaxInt - 5, math.MinInt + 5} {
		for _, pair := range [][2][]impl.Post{{posts, posts}, {nil, posts}, {posts, nil}, {nil, nil}} {
			if l, ok := impl.MeetPosts(pair[0], pair[1], by); len(l) != 0 || ok {
				t.Fatalf("MeetPosts by %d = %v, %v", by, l, ok)
			}
		}
	}
	for _, by := range []int{-mostWords, mostWords} {
		if l, ok := impl.MeetPosts(posts, posts, by); len(l) != 0 || !ok {
			t.Fatalf("MeetPosts by %d = %v, %v", by, l, ok)
		}
	}
}

// sparePosts is a copy each list of which has something behind its length; all is the whole memory.
func sparePosts(l []impl.Post) ([]impl.Post, func() []impl.Post) {
	whole := append(copyPosts(l), impl.Post{Doc: 11, Places: []int{1}}, impl.Post{Doc: -3})
	for i := range l {
		whole[i].Places = append(whole[i].Places, 19, -1)[:len(whole[i].Places)]
	}
	return whole[:len(l)], func() []impl.Post {
		c := slices.Clone(whole)
		for i := range c {
			c[i].Places = slices.Clone(c[i].Places[:cap(c[i].Places)])
		}
		return c
	}
}

func TestDocumentsAndPostsAreNotWrittenInto(t *testing.T) {
	for _, docs := range someDocs() {
		// What lies behind is no document, nor a word.
		long := append(slices.Clone(docs), strings.Repeat("a", mostDocText+1), "red sea")
		was := slices.Clone(long)
		spare := long[:len(docs)]
		asked := askedWords(docs)
		phrase := []string{asked[0], asked[len(asked)-1], "Behind", "red", "red"}
		phraseWas := slices.Clone(phrase)
		for _, word := range asked[:min(len(asked), 3)] {
			checkPosts(t, spare, word)
			checkNear(t, spare, word, asked[0], 3)
		}
		for size := 1; size <= 2; size++ {
			want := slowPhrase(docs, phrase[:size]...)
			if l, ok := impl.PhraseIn(spare, phrase[:size]); !ok || !samePosts(l, want) {
				t.Fatalf("PhraseIn(%q, %q) = %v, %v; want %v", docs, phrase[:size], l, ok, want)
			}
		}
		impl.PhraseIn(spare, phrase)
		impl.PhraseIn(spare, phrase[:3])
		if l, ok := impl.VocabularyOf(spare); !ok || !slices.Equal(l, slowVocabulary(docs)) {
			t.Fatalf("VocabularyOf(%q) = %q, %v", docs, l, ok)
		}
		impl.VocabularyOf(long)
		if !slices.Equal(long, was) || !slices.Equal(phrase, phraseWas) {
			t.Fatalf("%q, or what lies behind, are changed", was)
		}
	}
	posts := somePosts()
	for i, a := range posts {
		b := posts[(i*7+3)%len(posts)]
		spareA, allA := sparePosts(a)
		spareB, allB := sparePosts(b)
		wereA, wereB := allA(), allB()
		if !impl.GoodPosts(spareA) || !impl.GoodPosts(spareB) {
			t.Fatalf("what lies behind the lists of %v is read", a)
		}
		for by := -mostWords - 1; by <= mostWords+1; by++ {
			want := slowMeetPosts(a, b, by)
			if l, _ := impl.MeetPosts(spareA, spareB, by); !samePosts(l, want) {
				t.Fatalf("MeetPosts(%v, %v, %d) = %v", a, b, by, l)
			}
			impl.MeetPosts(spareB, spareA, by)
			impl.MeetPosts(spareA, spareA, by)
		}
		if !samePosts(allA(), wereA) || !samePosts(allB(), wereB) {
			t.Fatalf("posts, or what lies behind their lists, are changed: %v, %v", a, b)
		}
	}
}

// spoilEach writes into all memory of one list of posts after the other, also behind its length, and asks that no other list is changed by it.
func spoilEach(t *testing.T, l []impl.Post) {
	t.Helper()
	was := copyPosts(l)
	for _, p := range l[len(l):cap(l)] {
		if p.Doc != 0 || p.Places != nil {
			t.Fatalf("%v is handed out behind the length of %v", p, was)
		}
	}
	for i := range l {
		own := l[i].Places
		for _, n := range own[len(own):cap(own)] {
			if n != 0 {
				t.Fatalf("%d is handed out behind the places of %v", n, was)
			}
		}
		l[i].Places = slices.Clone(own)
		spoilNumbers(own)
		if !samePosts(l, was) {
			t.Fatalf("the places of post %d of %v share memory with others", i, was)
		}
		l[i].Places = own
		copy(own, was[i].Places)
	}
	for i := range l {
		spoilNumbers(l[i].Places)
	}
	clear(l[:cap(l)])
}

func TestWordAnswersAreNewMemory(t *testing.T) {
	for _, docs := range someDocs() {
		given := make([]string, len(docs))
		for i, s := range docs {
			given[i] = strings.Clone(s)
		}
		for _, s := range given {
			l, _ := impl.WordsOf(s)
			if shareTexts(l, given) {
				t.Fatalf("WordsOf(%q) hands out its text", s)
			}
			overwrite(l)
			checkWords(t, s)
		}
		v, _ := impl.VocabularyOf(given)
		if shareTexts(v, given) || slices.ContainsFunc(v[len(v):cap(v)], func(s string) bool { return s != "" }) {
			t.Fatalf("VocabularyOf(%q) hands out texts of the documents", docs)
		}
		overwrite(v)
		if v, _ = impl.VocabularyOf(given); !slices.Equal(v, slowVocabulary(docs)) {
			t.Fatalf("VocabularyOf(%q) keeps its answer: %q", docs, v)
		}
		asked := askedWords(docs)
		for i, word := range asked {
			other := asked[(i+1)%len(asked)]
			for range 2 {
				l, _ := impl.PostsOf(given, word)
				spoilEach(t, l)
				for _, phrase := range [][]string{{word}, {word, word}, {word, other}, {other, word, other}} {
					l, _ = impl.PhraseIn(given, phrase)
					spoilEach(t, l)
				}
				near, _ := impl.NearIn(given, word, other, 5)
				spoilNumbers(near)
			}
			checkPosts(t, given, word)
			checkPhrase(t, given, word)
			checkPhrase(t, given, word, other)
			checkNear(t, given, word, other, 5)
		}
		if !slices.Equal(given, docs) {
			t.Fatalf("%q are changed", docs)
		}
	}
	posts := somePosts()
	for i, plain := range posts {
		a, b := copyPosts(plain), copyPosts(posts[(i*11+5)%len(posts)])
		wereA, wereB := copyPosts(a), copyPosts(b)
		for _, pair := range [][2][]impl.Post{{a, b}, {b, a}, {a, a}, {a, copyPosts(a)}} {
			for _, by := range []int{0, 1, -1, 3} {
				l, _ := impl.MeetPosts(pair[0], pair[1], by)
				spoilEach(t, l)
				if !samePosts(a, wereA) || !samePosts(b, wereB) {
					t.Fatalf("MeetPosts(%v, %v, %d) shares memory with its arguments", wereA, wereB, by)
				}
			}
		}
		l, _ := impl.MeetPosts(a, a, 0)
		for k := range a {
			spoilNumbers(a[k].Places)
		}
		clear(a)
		if !samePosts(l, wereA) {
			t.Fatalf("MeetPosts of %v keeps its argument", wereA)
		}
	}
}

// The answers hang on the arguments alone, not on what was asked ahead, nor on the order of a map.
func TestWordsAnswerTheSameAgain(t *testing.T) {
	docs := []string{strings.Join(strings.Split(letters[:20], ""), " "), strings.Join(strings.Split(letters[6:], ""), "."), "Z y X w", "red sea red"}
	want, wrong := slowVocabulary(docs), badDocs()
	for range 100 {
		if l, ok := impl.VocabularyOf(docs); !ok || !slices.Equal(l, want) {
			t.Fatalf("VocabularyOf = %q, %v; want %q", l, ok, want)
		}
		for why := range wrong {
			impl.VocabularyOf(wrong[why])
			impl.PostsOf(wrong[why], "red")
			break
		}
		impl.VocabularyOf([]string{"other words"})
		impl.PostsOf(docs[1:], "red")
		checkPosts(t, docs, "red")
		checkPosts(t, docs, "z")
		checkPhrase(t, docs, "x", "w")
		checkNear(t, docs, "x", "z", 2)
	}
}
