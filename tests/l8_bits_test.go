package tests

import (
	"math"
	"math/rand"
	"slices"
	"strconv"
	"strings"
	"testing"

	"loop.example/g00537/impl"
)

const (
	mostList   = 60
	mostNumber = 10000
)

func TestBitsConstants(t *testing.T) {
	if impl.MaxList != mostList || impl.MaxNumber != mostNumber {
		t.Fatal(impl.MaxList, impl.MaxNumber)
	}
}

// bitsOf reads noughts and ones as these tests write them down.
func bitsOf(s string) []bool {
	var l []bool
	for _, c := range s {
		l = append(l, c == '1')
	}
	return l
}

func textOfBits(l []bool) string {
	var s strings.Builder
	for _, one := range l {
		if one {
			s.WriteByte('1')
		} else {
			s.WriteByte('0')
		}
	}
	return s.String()
}

// packedText tells all of a packed list, so that two are alike just if their texts are.
func packedText(p impl.Packed) string {
	var l []string
	for _, n := range p.Lows {
		l = append(l, strconv.Itoa(n))
	}
	return strconv.Itoa(p.Many) + " of " + strconv.Itoa(p.Low) + ": " + strings.Join(l, " ") + " / " + textOfBits(p.High)
}

func alikePacked(a impl.Packed, b impl.Packed) bool {
	return a.Many == b.Many && a.Low == b.Low && slices.Equal(a.Lows, b.Lows) && slices.Equal(a.High, b.High)
}

func copyPacked(p impl.Packed) impl.Packed {
	return impl.Packed{Many: p.Many, Low: p.Low, Lows: slices.Clone(p.Lows), High: slices.Clone(p.High)}
}

// slowLow goes down from a low that is too great for all.
func slowLow(many int, most int) int {
	for low := 20; low > 0; low-- {
		if many > 0 && float64(many)*math.Pow(2, float64(low)) <= float64(most) {
			return low
		}
	}
	return 0
}

// slowPack writes the noughts and ones of each number as a text.
func slowPack(l []int) impl.Packed {
	p := impl.Packed{Many: len(l)}
	if len(l) > 0 {
		p.Low = slowLow(len(l), l[len(l)-1])
	}
	size := int(math.Pow(2, float64(p.Low)))
	bits := ""
	for _, n := range l {
		p.Lows = append(p.Lows, n%size)
		bits += strings.Repeat("0", n/size-strings.Count(bits, "0")) + "1"
	}
	p.High = bitsOf(bits)
	return p
}

// slowList takes a packed list apart by what the document says of each field, without packing any.
func slowList(p impl.Packed) ([]int, bool) {
	bits := textOfBits(p.High)
	if p.Many < 0 || p.Many > 60 || p.Low < 0 || p.Low > 20 || len(p.Lows) != p.Many || strings.Count(bits, "1") != p.Many || strings.HasSuffix(bits, "0") {
		return nil, false
	}
	size, up := int(math.Pow(2, float64(p.Low))), 0
	var l []int
	for k, noughts := range strings.SplitN(bits, "1", p.Many+1)[:p.Many] {
		up += len(noughts)
		if p.Lows[k] < 0 || p.Lows[k] >= size {
			return nil, false
		}
		l = append(l, up*size+p.Lows[k])
	}
	if !slowRising(l) || len(l) == 0 && p.Low != 0 || len(l) > 0 && p.Low != slowLow(len(l), slices.Max(l)) {
		return nil, false
	}
	return l, true
}

func slowRising(l []int) bool {
	for i, n := range l {
		if n < 0 || n > 10000 || slices.Contains(l[:i], n) {
			return false
		}
	}
	return slices.IsSorted(l)
}

// slowNext asks each number, from the first on.
func slowNext(l []int, n int) (int, int, bool) {
	for k, x := range l {
		if x >= n && n >= 0 && n <= 10000 {
			return k, x, true
		}
	}
	return 0, 0, false
}

func slowMeet(a []int, b []int) []int {
	return slices.DeleteFunc(slices.Clone(a), func(n int) bool { return !slices.Contains(b, n) })
}

func mustPack(t *testing.T, l []int) impl.Packed {
	t.Helper()
	p, ok := impl.PackList(l)
	if !ok {
		t.Fatalf("PackList(%v) tells false", l)
	}
	return p
}

// steppedList is many numbers from first on, by apart.
func steppedList(first int, many int, by int) []int {
	var l []int
	for k := range many {
		l = append(l, first+k*by)
	}
	return l
}

// drawnList is many unlike numbers of least..most.
func drawnList(source *rand.Rand, many int, least int, most int) []int {
	had := map[int]int{}
	for len(had) < many {
		had[least+source.Intn(most-least+1)]++
	}
	var l []int
	for n := range had {
		l = append(l, n)
	}
	slices.Sort(l)
	return l
}

// risingLists has lists of every length: side by side and as far apart as can be, from 0 on and up to MaxNumber, in heaps, and drawn ones.
func risingLists() [][]int {
	source := rand.New(rand.NewSource(8))
	lists := [][]int{nil, {}, {0, mostNumber}, {0, 1, mostNumber - 1, mostNumber}}
	for _, n := range []int{0, 1, 2, 3, 4, 7, 8, 127, 128, 129, 4095, 4096, 8191, 8192, 8193, 9999, mostNumber} {
		lists = append(lists, []int{n})
	}
	for many := 1; many <= mostList; many++ {
		lists = append(lists, steppedList(0, many, 1), steppedList(1, many, 1), steppedList(5000, many, 1), steppedList(mostNumber-many+1, many, 1))
		apart := mostNumber / max(many-1, 1)
		lists = append(lists, steppedList(0, many, apart), steppedList(mostNumber-(many-1)*apart, many, apart))
		for _, most := range []int{many - 1, many, many + 1, 2*many - 1, 2 * many, 2*many + 1, 3 * many, 100, 127, 128, 1000, mostNumber} {
			if most >= many-1 {
				lists = append(lists, drawnList(source, many, 0, most))
			}
		}
		lists = append(lists, drawnList(source, many, mostNumber-2*many, mostNumber))
		if many >= 2 {
			heaps := append(steppedList(0, many/2, 1), steppedList(mostNumber-(many+1)/2+1, (many+1)/2, 1)...)
			lists = append(lists, heaps, append(steppedList(0, many-1, 1), mostNumber), append([]int{0}, steppedList(mostNumber-many+2, many-1, 1)...))
		}
		for _, low := range []int{1, 2, 3, 4, 5, 6, 7, 8} {
			// The last number is where the low changes, and one ahead and behind.
			for _, last := range []int{many<<low - 1, many << low, many<<low + 1} {
				if last <= mostNumber {
					lists = append(lists, append(drawnList(source, many-1, 0, last-1), last))
				}
			}
		}
	}
	return lists
}

// checkList holds every answer about one good list against the list.
func checkList(t *testing.T, l []int, p impl.Packed) {
	t.Helper()
	if want := slowPack(l); !alikePacked(p, want) {
		t.Fatalf("PackList(%v) = %s; want %s", l, packedText(p), packedText(want))
	}
	if !impl.GoodPacked(p) {
		t.Fatalf("GoodPacked of %v is false", l)
	}
	if got, ok := impl.UnpackList(p); !ok || !slices.Equal(got, l) {
		t.Fatalf("UnpackList of %v = %v, %v", l, got, ok)
	}
	for k := -2; k < len(l)+2; k++ {
		want := 0
		is := k >= 0 && k < len(l)
		if is {
			want = l[k]
		}
		if n, ok := impl.NumberAt(p, k); n != want || ok != is {
			t.Fatalf("NumberAt(%v, %d) = %d, %v", l, k, n, ok)
		}
	}
	bits, ok := impl.BitsIn(p)
	if !ok || bits != len(l)*p.Low+len(p.High) || bits > len(l)*(3+p.Low) {
		t.Fatalf("BitsIn of %v = %d, %v", l, bits, ok)
	}
}

func checkNext(t *testing.T, l []int, p impl.Packed, n int) {
	t.Helper()
	at, x, is := slowNext(l, n)
	if gotAt, got, ok := impl.NextFrom(p, n); gotAt != at || got != x || ok != is {
		t.Fatalf("NextFrom(%v, %d) = %d, %d, %v; want %d, %d, %v", l, n, gotAt, got, ok, at, x, is)
	}
}

// Promise 8.
func TestRisingNumbersComeBackFromFewBits(t *testing.T) {
	met := map[int]int{}
	for _, l := range risingLists() {
		if len(l) > mostList || !slowRising(l) {
			t.Fatalf("%v is no list to test with", l)
		}
		p := mustPack(t, l)
		checkList(t, l, p)
		if got, ok := slowList(p); !ok || !slices.Equal(got, l) {
			t.Fatalf("%s is not taken apart to %v: %v", packedText(p), l, got)
		}
		met[len(l)]++
	}
	for many := range mostList + 1 {
		if met[many] == 0 {
			t.Errorf("no list of %d numbers", many)
		}
	}
}

// Every list of numbers below 12, so that all small forms are met.
func TestAllSmallListsComeBack(t *testing.T) {
	forms := map[string]int{}
	for set := range 1 << 12 {
		var l []int
		for n := range 12 {
			if set>>n&1 == 1 {
				l = append(l, n)
			}
		}
		p := mustPack(t, l)
		checkList(t, l, p)
		forms[packedText(p)]++
		for n := -1; n < 14; n++ {
			checkNext(t, l, p, n)
		}
	}
	if len(forms) != 1<<12 {
		t.Errorf("%d forms of %d lists", len(forms), 1<<12)
	}
}

func TestMeetPackedIsWhatBothHave(t *testing.T) {
	source := rand.New(rand.NewSource(88))
	meet := func(a []int, b []int) int {
		t.Helper()
		p, q, want := mustPack(t, a), mustPack(t, b), slowMeet(a, b)
		if got, ok := impl.MeetPacked(p, q); !ok || !slices.Equal(got, want) {
			t.Fatalf("MeetPacked(%v, %v) = %v, %v; want %v", a, b, got, ok, want)
		}
		if got, ok := impl.MeetPacked(q, p); !ok || !slices.Equal(got, want) {
			t.Fatalf("MeetPacked(%v, %v) = %v, %v; want %v", b, a, got, ok, want)
		}
		return len(want)
	}
	lists := risingLists()
	for _, l := range lists {
		if n := meet(l, l); n != len(l) {
			t.Fatal(l, n)
		}
		meet(l, nil)
		meet(l, []int{0})
		meet(l, []int{mostNumber})
		meet(l, []int{0, mostNumber})
		// Each second one, and none but those between.
		var half, between []int
		for i, n := range l {
			if i%2 == 0 {
				half = append(half, n)
			}
			if n > 0 && !slices.Contains(l, n-1) {
				between = append(between, n-1)
			}
		}
		if meet(l, half) != len(half) || meet(l, between) != 0 {
			t.Fatal(l, half, between)
		}
	}
	for range 4000 {
		meet(lists[source.Intn(len(lists))], lists[source.Intn(len(lists))])
	}
	for range 1000 {
		most := 1 + source.Intn(120)
		meet(drawnList(source, source.Intn(min(most, mostList)+1), 0, most), drawnList(source, source.Intn(min(most, mostList)+1), 0, most))
	}
}

func TestNextFromIsTheFirstThatIsAtLeastN(t *testing.T) {
	lists := risingLists()
	for i, l := range lists {
		p := mustPack(t, l)
		for _, n := range l {
			checkNext(t, l, p, n-1)
			checkNext(t, l, p, n)
			checkNext(t, l, p, n+1)
		}
		for _, n := range []int{0, 1, 2, 127, 128, 5000, 8191, 8192, mostNumber - 1, mostNumber, -1, -2, mostNumber + 1, mostNumber + 2, math.MinInt, math.MaxInt, 1 << 32, -mostNumber} {
			checkNext(t, l, p, n)
		}
		for n := i % 97; n <= mostNumber; n += 97 {
			checkNext(t, l, p, n)
		}
	}
	for _, l := range [][]int{nil, {0}, {mostNumber}, {3, 5, 9}, steppedList(0, mostList, 169), steppedList(9941, mostList, 1)} {
		p := mustPack(t, l)
		for n := -3; n <= mostNumber+3; n++ {
			checkNext(t, l, p, n)
		}
	}
}

func TestLowForIsTheGreatestLow(t *testing.T) {
	for many := -2; many <= mostList+2; many++ {
		for most := -2; most <= mostNumber+2; most++ {
			want, is := 0, many >= 0 && many <= 60 && most >= 0 && most <= 10000
			if is {
				want = slowLow(many, most)
			}
			if low, ok := impl.LowFor(many, most); low != want || ok != is {
				t.Fatalf("LowFor(%d, %d) = %d, %v; want %d, %v", many, most, low, ok, want, is)
			}
		}
	}
}

func TestLowForByHand(t *testing.T) {
	for _, c := range [][3]int{{0, 0, 0}, {0, 1, 0}, {0, mostNumber, 0}, {1, 0, 0}, {1, 1, 0}, {1, 2, 1}, {1, 3, 1}, {1, 4, 2}, {1, 8191, 12}, {1, 8192, 13}, {1, mostNumber, 13}, {2, 1, 0}, {2, 2, 0}, {2, 3, 0}, {2, 4, 1}, {3, 9, 1}, {3, 11, 1}, {3, 12, 2}, {3, 13, 2}, {59, 117, 0}, {59, 118, 1}, {60, 0, 0}, {60, 59, 0}, {60, 60, 0}, {60, 119, 0}, {60, 120, 1}, {60, 121, 1}, {60, 7679, 6}, {60, 7680, 7}, {60, mostNumber, 7}} {
		if low, ok := impl.LowFor(c[0], c[1]); low != c[2] || !ok {
			t.Errorf("LowFor(%d, %d) = %d, %v; want %d", c[0], c[1], low, ok, c[2])
		}
	}
	wrong := []int{-1, mostNumber + 1, math.MinInt, math.MaxInt, 1 << 32, math.MinInt32, math.MaxInt32}
	for _, n := range wrong {
		for _, pair := range [][2]int{{n, 0}, {n, 100}, {0, n}, {1, n}, {60, n}, {n, n}, {n, mostNumber}} {
			if low, ok := impl.LowFor(pair[0], pair[1]); low != 0 || ok {
				t.Errorf("LowFor(%d, %d) = %d, %v", pair[0], pair[1], low, ok)
			}
		}
	}
	if low, ok := impl.LowFor(61, 100); low != 0 || ok {
		t.Error(low, ok)
	}
}

func TestPackedListsByHand(t *testing.T) {
	cases := []struct {
		list []int
		want impl.Packed
	}{
		{nil, impl.Packed{}},
		{[]int{0}, impl.Packed{Many: 1, Lows: []int{0}, High: bitsOf("1")}},
		{[]int{1}, impl.Packed{Many: 1, Lows: []int{0}, High: bitsOf("01")}},
		{[]int{2}, impl.Packed{Many: 1, Low: 1, Lows: []int{0}, High: bitsOf("01")}},
		{[]int{3}, impl.Packed{Many: 1, Low: 1, Lows: []int{1}, High: bitsOf("01")}},
		{[]int{mostNumber}, impl.Packed{Many: 1, Low: 13, Lows: []int{1808}, High: bitsOf("01")}},
		{[]int{0, 1}, impl.Packed{Many: 2, Lows: []int{0, 0}, High: bitsOf("101")}},
		{[]int{0, 3}, impl.Packed{Many: 2, Lows: []int{0, 0}, High: bitsOf("10001")}},
		{[]int{0, 4}, impl.Packed{Many: 2, Low: 1, Lows: []int{0, 0}, High: bitsOf("1001")}},
		{[]int{0, mostNumber}, impl.Packed{Many: 2, Low: 12, Lows: []int{0, 1808}, High: bitsOf("1001")}},
		{[]int{9999, mostNumber}, impl.Packed{Many: 2, Low: 12, Lows: []int{1807, 1808}, High: bitsOf("0011")}},
		{[]int{3, 5, 9}, impl.Packed{Many: 3, Low: 1, Lows: []int{1, 1, 1}, High: bitsOf("0101001")}},
		{[]int{3, 4, 11}, impl.Packed{Many: 3, Low: 1, Lows: []int{1, 0, 1}, High: bitsOf("01010001")}},
		{[]int{3, 4, 12}, impl.Packed{Many: 3, Low: 2, Lows: []int{3, 0, 0}, High: bitsOf("101001")}},
		{[]int{5, 8, 8 + 7, 32, 33}, impl.Packed{Many: 5, Low: 2, Lows: []int{1, 0, 3, 0, 1}, High: bitsOf("0101" + "01" + "000001" + "1")}},
	}
	for _, c := range cases {
		p := mustPack(t, c.list)
		if !alikePacked(p, c.want) {
			t.Errorf("PackList(%v) = %s; want %s", c.list, packedText(p), packedText(c.want))
		}
		checkList(t, c.list, c.want)
	}
}

// MaxList numbers side by side have all bits in High; as far apart as can be they have seven by themselves.
func TestPackedListsAtTheirLimits(t *testing.T) {
	p := mustPack(t, steppedList(0, mostList, 1))
	if p.Many != 60 || p.Low != 0 || textOfBits(p.High) != strings.Repeat("10", 59)+"1" || !slices.Equal(p.Lows, make([]int, 60)) {
		t.Error(packedText(p))
	}
	p = mustPack(t, steppedList(mostNumber-59, mostList, 1))
	if p.Many != 60 || p.Low != 7 || textOfBits(p.High) != strings.Repeat("0", 77)+strings.Repeat("1", 43)+"0"+strings.Repeat("1", 17) || p.Lows[0] != 85 || p.Lows[42] != 127 || p.Lows[43] != 0 || p.Lows[59] != 16 {
		t.Error(packedText(p))
	}
	if n, ok := impl.BitsIn(p); n != 60*7+138 || !ok {
		t.Error(n, ok)
	}
	if n, ok := impl.NumberAt(p, 0); n != mostNumber-59 || !ok {
		t.Error(n, ok)
	}
	if n, ok := impl.NumberAt(p, 59); n != mostNumber || !ok {
		t.Error(n, ok)
	}
	if k, n, ok := impl.NextFrom(p, 0); k != 0 || n != mostNumber-59 || !ok {
		t.Error(k, n, ok)
	}
	if k, n, ok := impl.NextFrom(p, mostNumber); k != 59 || n != mostNumber || !ok {
		t.Error(k, n, ok)
	}
	// Just below where the low would be one more there are nearly three bits each.
	if n, ok := impl.BitsIn(mustPack(t, append(steppedList(0, mostList-1, 1), 119))); n != 60+119 || !ok {
		t.Error(n, ok)
	}
}

// noPacked asks that every function gives the zero answer.
func noPacked(t *testing.T, why string, p impl.Packed) {
	t.Helper()
	if impl.GoodPacked(p) {
		t.Fatalf("%s: GoodPacked is true", why)
	}
	if l, ok := impl.UnpackList(p); len(l) != 0 || ok {
		t.Fatalf("%s: UnpackList = %v, %v", why, l, ok)
	}
	for _, k := range []int{0, 1, len(p.Lows) - 1, p.Many - 1, -1} {
		if n, ok := impl.NumberAt(p, k); n != 0 || ok {
			t.Fatalf("%s: NumberAt %d = %d, %v", why, k, n, ok)
		}
	}
	for _, from := range []int{0, 1, 5000, mostNumber} {
		if k, n, ok := impl.NextFrom(p, from); k != 0 || n != 0 || ok {
			t.Fatalf("%s: NextFrom %d = %d, %d, %v", why, from, k, n, ok)
		}
	}
	if n, ok := impl.BitsIn(p); n != 0 || ok {
		t.Fatalf("%s: BitsIn = %d, %v", why, n, ok)
	}
	right := slowPack([]int{0, 3, 5, 9, 5000, mostNumber})
	for _, pair := range [][2]impl.Packed{{p, right}, {right, p}, {p, p}, {p, {}}, {{}, p}} {
		if l, ok := impl.MeetPacked(pair[0], pair[1]); len(l) != 0 || ok {
			t.Fatalf("%s: MeetPacked = %v, %v", why, l, ok)
		}
	}
}

// checkChanged holds a changed packed list against what it comes to: it may be that of another list.
func checkChanged(t *testing.T, why string, p impl.Packed) bool {
	t.Helper()
	why += ": " + packedText(p)
	l, is := slowList(p)
	if !is {
		noPacked(t, why, p)
		return false
	}
	checkList(t, l, p)
	return true
}

// changeOne does each of the changes that one field may have, one by one.
func changeOne(p impl.Packed, do func(why string, q impl.Packed)) {
	edit := func(why string, how func(q *impl.Packed)) {
		q := copyPacked(p)
		how(&q)
		do(why, q)
	}
	for _, by := range []int{1, -1, 64, -64, 1 << 32, math.MinInt, math.MaxInt - p.Many} {
		edit("Many other by "+strconv.Itoa(by), func(q *impl.Packed) { q.Many += by })
	}
	for _, by := range []int{1, -1, 2, -2, 64, -64, 1 << 32, math.MinInt, math.MaxInt - p.Low} {
		edit("Low other by "+strconv.Itoa(by), func(q *impl.Packed) { q.Low += by })
	}
	for k := range p.Lows {
		for _, by := range []int{1, -1, 1 << p.Low, -(1 << p.Low), 1 << 32, math.MinInt, math.MaxInt - p.Lows[k]} {
			edit("number "+strconv.Itoa(k)+" of Lows other by "+strconv.Itoa(by), func(q *impl.Packed) { q.Lows[k] += by })
		}
		edit("number "+strconv.Itoa(k)+" of Lows 2 to the Low", func(q *impl.Packed) { q.Lows[k] = 1 << p.Low })
		edit("number "+strconv.Itoa(k)+" of Lows below 0", func(q *impl.Packed) { q.Lows[k] = -1 })
		edit("number "+strconv.Itoa(k)+" of Lows taken out", func(q *impl.Packed) { q.Lows = slices.Delete(q.Lows, k, k+1) })
	}
	for k := range len(p.Lows) + 1 {
		edit("a number put into Lows at "+strconv.Itoa(k), func(q *impl.Packed) { q.Lows = slices.Insert(q.Lows, k, 0) })
	}
	for k := range p.High {
		edit("place "+strconv.Itoa(k)+" of High changed", func(q *impl.Packed) { q.High[k] = !q.High[k] })
		edit("place "+strconv.Itoa(k)+" of High taken out", func(q *impl.Packed) { q.High = slices.Delete(q.High, k, k+1) })
	}
	for k := range len(p.High) + 1 {
		edit("a nought put into High at "+strconv.Itoa(k), func(q *impl.Packed) { q.High = slices.Insert(q.High, k, false) })
		edit("a one put into High at "+strconv.Itoa(k), func(q *impl.Packed) { q.High = slices.Insert(q.High, k, true) })
	}
}

// alwaysWrong tells of the changes after which no list has the form, whatever the list was.
func alwaysWrong(why string) bool {
	for _, way := range []string{"Many ", "of Lows 2 to", "of Lows below", "of Lows taken", "put into Lows", "of High changed", "a one put"} {
		if strings.Contains(why, way) {
			return true
		}
	}
	return false
}

func TestPackedListsWithOneThingChanged(t *testing.T) {
	lists := [][]int{nil, {0}, {1}, {2}, {3, 5, 9}, {mostNumber}, {0, mostNumber}, {9999, mostNumber}, steppedList(0, 5, 1), steppedList(7, 6, 13), steppedList(0, mostList, 1), steppedList(0, mostList, 169), steppedList(9941, mostList, 1), steppedList(31, mostList-1, 2)}
	source := rand.New(rand.NewSource(888))
	for many := 1; many <= 20; many++ {
		for _, most := range []int{many, 2*many - 1, 4 * many, 1000, mostNumber} {
			lists = append(lists, drawnList(source, many, 0, most))
		}
	}
	good, all := 0, 0
	for _, l := range lists {
		p := mustPack(t, l)
		changeOne(p, func(why string, q impl.Packed) {
			is := checkChanged(t, why, q)
			if is && alwaysWrong(why) {
				t.Fatalf("%s: %s is taken for a list", why, packedText(q))
			}
			all++
			if is {
				good++
			}
		})
		q := copyPacked(p)
		q.High = append(q.High, false)
		noPacked(t, "a nought behind the last one: "+packedText(q), q)
	}
	if good == 0 || good*2 > all {
		t.Errorf("%d of %d changed lists are good", good, all)
	}
}

// Two fields that are wrong may fit one another.
func TestPackedListsWithMoreChanged(t *testing.T) {
	source := rand.New(rand.NewSource(8888))
	lists := risingLists()
	good := 0
	for range 20000 {
		p := slowPack(lists[source.Intn(len(lists))])
		for range 2 + source.Intn(2) {
			changeAny(source, &p)
		}
		if checkChanged(t, "changed", p) {
			good++
		}
	}
	if good < 100 {
		t.Errorf("only %d changed lists are good", good)
	}
}

func changeAny(source *rand.Rand, p *impl.Packed) {
	switch at := source.Intn(len(p.High) + 1); source.Intn(7) {
	case 0:
		p.Many += source.Intn(3) - 1
	case 1:
		p.Low += source.Intn(3) - 1
	case 2:
		if len(p.Lows) > 0 {
			p.Lows[source.Intn(len(p.Lows))] += source.Intn(9) - 4
		}
	case 3:
		p.Lows = slices.Insert(p.Lows, source.Intn(len(p.Lows)+1), source.Intn(3))
		p.Many++
	case 4:
		p.High = slices.Insert(p.High, at, source.Intn(2) == 0)
	case 5:
		if at < len(p.High) {
			p.High = slices.Delete(p.High, at, at+1)
		}
	default:
		if at+1 < len(p.High) {
			p.High[at], p.High[at+1] = p.High[at+1], p.High[at]
		}
	}
}

// Every small form, each held against the forms of all lists that have one so small.
func TestAllSmallForms(t *testing.T) {
	forms := map[string][]int{}
	var fill func(l []int)
	fill = func(l []int) {
		forms[packedText(slowPack(l))] = slices.Clone(l)
		first := 0
		if len(l) > 0 {
			first = l[len(l)-1] + 1
		}
		for n := first; n < 48 && len(l) < 3; n++ {
			fill(append(l, n))
		}
	}
	fill(nil)
	met := 0
	check := func(p impl.Packed) {
		l, is := forms[packedText(p)]
		got, ok := impl.UnpackList(p)
		if ok != is || !slices.Equal(got, l) || impl.GoodPacked(p) != is {
			t.Fatalf("UnpackList(%s) = %v, %v; want %v, %v", packedText(p), got, ok, l, is)
		}
		if is {
			met++
		}
	}
	for size := range 7 {
		for bits := range 1 << size {
			p := impl.Packed{High: make([]bool, size)}
			for i := range size {
				p.High[i] = bits>>i&1 == 1
			}
			for p.Many = -1; p.Many < 5; p.Many++ {
				for p.Low = -1; p.Low < 4; p.Low++ {
					checkLows(p, check)
				}
			}
		}
	}
	if met < 150 {
		t.Errorf("only %d forms are those of lists", met)
	}
}

// checkLows gives all Lows of up to three small numbers.
func checkLows(p impl.Packed, check func(p impl.Packed)) {
	p.Lows = nil
	check(p)
	for a := -1; a < 5; a++ {
		p.Lows = []int{a}
		check(p)
		for b := -1; b < 5; b++ {
			p.Lows = []int{a, b}
			check(p)
			if p.Many == 3 {
				for c := -1; c < 5; c++ {
					p.Lows = []int{a, b, c}
					check(p)
				}
			}
		}
	}
}

// Promise 19, from here on.
func badLists() [][]int {
	l := [][]int{{-1}, {mostNumber + 1}, {0, 0}, {5, 5}, {mostNumber, mostNumber}, {1, 0}, {3, 9, 5}, {3, 5, 5, 9}, {-1, 0}, {0, mostNumber + 1}, {mostNumber, mostNumber + 1}, {math.MinInt}, {math.MaxInt}, {math.MinInt, 0, math.MaxInt}, {math.MaxInt, math.MinInt}, {1 << 32}, {0, 1 << 32}, {0, 1 << 62}}
	l = append(l, steppedList(0, mostList+1, 1), steppedList(0, mostList+2, 1), steppedList(0, mostNumber+1, 1), steppedList(0, 100, 100), steppedList(9940, mostList+1, 1), steppedList(59, mostList, -1), make([]int, 2), make([]int, mostList), make([]int, 100000), steppedList(9942, mostList, 1), steppedList(-1, mostList, 1), steppedList(-1, 2, 1))
	good := steppedList(3, mostList, 150)
	for k := range good {
		for _, n := range []int{-1, mostNumber + 1, 2, math.MinInt, math.MaxInt} {
			spoilt := slices.Clone(good)
			spoilt[k] = n
			if !slowRising(spoilt) {
				l = append(l, spoilt)
			}
		}
		if k > 0 {
			spoilt := slices.Clone(good)
			spoilt[k] = spoilt[k-1]
			l = append(l, spoilt)
		}
	}
	return l
}

func TestListsThatAreNotAsSaid(t *testing.T) {
	for _, l := range badLists() {
		was := slices.Clone(l)
		if p, ok := impl.PackList(l); ok || !alikePacked(p, impl.Packed{}) {
			t.Errorf("PackList(%v) = %s, %v", l, packedText(p), ok)
		}
		if !slices.Equal(l, was) {
			t.Errorf("PackList writes into %v", was)
		}
	}
}

// The forms that lists beyond the limits would have.
func badPacked() map[string]impl.Packed {
	ones := strings.Repeat("1", mostList)
	wide := slowPack([]int{3, 5, 9})
	return map[string]impl.Packed{
		"MaxNumber and one":           slowPack([]int{mostNumber + 1}),
		"MaxNumber and one, behind":   slowPack([]int{0, 77, mostNumber + 1}),
		"a greater low":               slowPack([]int{1 << 14}),
		"the greatest low":            slowPack([]int{1 << 20}),
		"MaxList and one":             slowPack(steppedList(0, mostList+1, 1)),
		"MaxList and one, apart":      slowPack(steppedList(0, mostList+1, 160)),
		"very many":                   slowPack(steppedList(0, 5000, 2)),
		"MaxList and MaxNumber more":  slowPack(append(steppedList(0, mostList-1, 1), mostNumber+1)),
		"two alike":                   slowPack([]int{5, 5}),
		"two alike, with lower bits":  {Many: 2, Low: 2, Lows: []int{1, 1}, High: bitsOf("0011")},
		"falling lower bits":          {Many: 2, Low: 2, Lows: []int{2, 1}, High: bitsOf("0011")},
		"all noughts":                 {Many: 60, Lows: make([]int, 60), High: bitsOf(ones)},
		"none, but a low":             {Low: 1},
		"none, but a number":          {Lows: []int{0}},
		"none, but a one":             {High: bitsOf("1")},
		"none, but a nought":          {High: bitsOf("0")},
		"none, but very many noughts": {High: make([]bool, 100000)},
		"Many alone":                  {Many: 1},
		"Many below 0":                {Many: -1},
		"Many very great":             {Many: math.MaxInt},
		"Many very small":             {Many: math.MinInt},
		"Low below 0":                 {Low: -1},
		"Low very great":              {Low: math.MaxInt},
		"Low very small":              {Low: math.MinInt},
		"Low of all bits":             {Many: 1, Low: 64, Lows: []int{3}, High: bitsOf("1")},
		"Low of the sign":             {Many: 1, Low: 63, Lows: []int{3}, High: bitsOf("01")},
		"Low below 0, all else right": {Many: 1, Low: -1, Lows: []int{0}, High: bitsOf("1")},
		"one less Low, all else fits": {Many: 1, Low: 0, Lows: []int{0}, High: bitsOf("001")},
		"one more Low, all else fits": {Many: 1, Low: 2, Lows: []int{2}, High: bitsOf("1")},
		"Low for the one ahead":       {Many: 2, Low: 1, Lows: []int{1, 0}, High: bitsOf("1000001")},
		"no ones":                     {Many: 1, Lows: []int{0}, High: make([]bool, 100000)},
		"a one far behind":            {Many: 1, Lows: []int{0}, High: append(make([]bool, 100000), true)},
		"ones without end":            {Many: 1, Lows: []int{0}, High: slices.Repeat([]bool{true}, 100000)},
		"no High":                     {Many: 3, Low: wide.Low, Lows: wide.Lows},
		"no Lows":                     {Many: 3, Low: wide.Low, High: wide.High},
		"no Many":                     {Low: wide.Low, Lows: wide.Lows, High: wide.High},
		"a Lows that comes round":     {Many: 2, Low: 1, Lows: []int{math.MaxInt, math.MinInt}, High: bitsOf("0101")},
		"a Lows that makes up for it": {Many: 2, Low: 1, Lows: []int{2, 1}, High: bitsOf("1001")},
		"a Lows that takes from it":   {Many: 2, Low: 1, Lows: []int{1, -1}, High: bitsOf("10001")},
		"very many Lows":              {Many: 100000, Lows: make([]int, 100000), High: slices.Repeat([]bool{false, true}, 100000)},
	}
}

func TestPackedListsThatAreNotGood(t *testing.T) {
	for why, p := range badPacked() {
		if _, ok := slowList(p); ok {
			t.Fatalf("%s: %s is good", why, packedText(p))
		}
		was := copyPacked(p)
		noPacked(t, why, p)
		if !alikePacked(p, was) {
			t.Errorf("%s: %s is changed", why, packedText(was))
		}
	}
}

func TestPlacesInAListThatAreNotAsSaid(t *testing.T) {
	for _, l := range [][]int{nil, {0}, {3, 5, 9}, steppedList(0, mostList, 169)} {
		p := mustPack(t, l)
		for _, k := range []int{-1, len(l), len(l) + 1, -len(l), math.MinInt, math.MaxInt, 1 << 32, -(1 << 32)} {
			if k == 0 && len(l) > 0 {
				continue
			}
			if n, ok := impl.NumberAt(p, k); n != 0 || ok {
				t.Errorf("NumberAt(%v, %d) = %d, %v", l, k, n, ok)
			}
		}
	}
}

// sparePacked is a copy each list of which has something behind its length; all is the whole memory.
func sparePacked(p impl.Packed) (impl.Packed, func() impl.Packed) {
	c := p
	c.Lows = append(slices.Clone(p.Lows), 3, -1)[:len(p.Lows)]
	c.High = append(slices.Clone(p.High), true, false)[:len(p.High)]
	return c, func() impl.Packed {
		return impl.Packed{Many: c.Many, Low: c.Low, Lows: slices.Clone(c.Lows[:cap(c.Lows)]), High: slices.Clone(c.High[:cap(c.High)])}
	}
}

func TestPackedListsAreNotWrittenInto(t *testing.T) {
	for i, l := range risingLists() {
		long := append(slices.Clone(l), -5, 77)
		was := slices.Clone(long)
		p := mustPack(t, long[:len(l)])
		if !slices.Equal(long, was) {
			t.Fatalf("PackList changes %v", was)
		}
		impl.PackList(long)
		spare, all := sparePacked(p)
		other, allOther := sparePacked(slowPack(steppedList(i%100, 40, 7)))
		kept, keptOther := all(), allOther()
		checkList(t, l, spare)
		checkNext(t, l, spare, i)
		impl.MeetPacked(spare, other)
		impl.MeetPacked(other, spare)
		short := spare
		short.High = short.High[:max(len(short.High)-1, 0)]
		impl.MeetPacked(short, other)
		impl.UnpackList(short)
		if !slices.Equal(long, was) || !alikePacked(all(), kept) || !alikePacked(allOther(), keptOther) {
			t.Fatalf("a packed list, or what lies behind its lists, is changed: %v", l)
		}
	}
	// What stands behind the lists would make these right.
	for _, l := range [][]int{{0}, {3, 5, 9}, {mostNumber}, steppedList(0, mostList, 169)} {
		short := slowPack(l)
		short.High = short.High[:len(short.High)-1]
		noPacked(t, "the last one lies behind the length", short)
		short = slowPack(l)
		short.Lows = short.Lows[:len(short.Lows)-1]
		noPacked(t, "the last number lies behind the length", short)
	}
	if p := mustPack(t, steppedList(0, 100, 100)[:mostList]); p.Many != mostList {
		t.Error(packedText(p))
	}
}

func spoilNumbers(l []int) {
	for i := range l[:cap(l)] {
		l[:cap(l)][i] = -7
	}
}

// Every answer is spoilt as a whole, and then asked for again.
func TestListAnswersAreNewMemory(t *testing.T) {
	for _, l := range risingLists() {
		given := slices.Clone(l)
		p := mustPack(t, given)
		want := slowPack(l)
		spoilNumbers(p.Lows)
		if !slices.Equal(given, l) || !slices.Equal(p.High, want.High) {
			t.Fatalf("PackList(%v) hands out its argument", l)
		}
		for i := range p.High[:cap(p.High)] {
			p.High[:cap(p.High)][i] = i%2 == 0
		}
		p = mustPack(t, given)
		spoilNumbers(given)
		if !alikePacked(p, want) {
			t.Fatalf("PackList(%v) keeps its argument, or its answer", l)
		}
		other := slowPack(l)
		lists := [][]int{nil, nil, nil, nil}
		lists[0], _ = impl.UnpackList(p)
		lists[1], _ = impl.UnpackList(p)
		lists[2], _ = impl.MeetPacked(p, other)
		lists[3], _ = impl.MeetPacked(p, p)
		for i, got := range lists {
			if !slices.Equal(got, l) {
				t.Fatalf("answer %d of %v is %v", i, l, got)
			}
			spoilNumbers(got)
			if !alikePacked(p, want) || !alikePacked(other, want) {
				t.Fatalf("answer %d of %v shares memory with the packed list", i, l)
			}
		}
		checkList(t, l, p)
	}
}

// The answers hang on the arguments alone, not on what was asked ahead.
func TestPackedListsAnswerTheSameAgain(t *testing.T) {
	l := []int{3, 5, 9, 400, 9999}
	p := mustPack(t, l)
	for why, other := range badPacked() {
		impl.GoodPacked(other)
		impl.UnpackList(other)
		impl.NumberAt(other, 2)
		impl.NextFrom(other, 4)
		impl.BitsIn(other)
		impl.MeetPacked(p, other)
		checkList(t, l, p)
		if k, n, ok := impl.NextFrom(p, 10); k != 3 || n != 400 || !ok {
			t.Fatalf("another answer after: %s", why)
		}
	}
	for _, other := range badLists() {
		impl.PackList(other)
		checkList(t, l, mustPack(t, l))
	}
}
