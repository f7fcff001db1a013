package tests

import (
	"cmp"
	"encoding/binary"
	"math"
	"regexp"
	"slices"
	"strings"
	"testing"
	"unsafe"

	"loop.example/g00537/impl"
)

const (
	mostWhole     = 1000000000
	mostFields    = 6
	mostValueText = 12
	mostBytes     = 600
	longestRow    = 162 // six texts of twelve bytes 0 each
)

func TestValueConstants(t *testing.T) {
	if impl.MaxFields != mostFields || impl.MaxWhole != mostWhole || impl.MaxText != mostBytes {
		t.Fatal(impl.MaxFields, impl.MaxWhole, impl.MaxText)
	}
	if impl.KdNull != 1 || impl.KdFlag != 2 || impl.KdWhole != 3 || impl.KdText != 4 {
		t.Fatal(impl.KdNull, impl.KdFlag, impl.KdWhole, impl.KdText)
	}
}

func nullValue() impl.Value         { return impl.Value{Kind: 1} }
func flagValue(n int) impl.Value    { return impl.Value{Kind: 2, Num: n} }
func wholeValue(n int) impl.Value   { return impl.Value{Kind: 3, Num: n} }
func textValue(s string) impl.Value { return impl.Value{Kind: 4, Text: s} }

// wholeNumbers has the limits, and numbers at which a byte of the written form, or of the number itself, carries over.
func wholeNumbers() []int {
	l := []int{-mostWhole, -mostWhole + 1, mostWhole - 1, mostWhole, 0, 1, -1, 2, -2, 123456789, -987654321}
	for shift := 4; shift <= 30; shift++ {
		for by := -1; by <= 1; by++ {
			for _, n := range []int{1<<shift + by, -(1 << shift) + by, 1<<shift + by - mostWhole} {
				if n >= -mostWhole && n <= mostWhole {
					l = append(l, n)
				}
			}
		}
	}
	slices.Sort(l)
	return slices.Compact(l)
}

// valueTexts has all short texts of the bytes that matter most, each length, and bytes 0 and 255 at the front, in the middle and at the end.
func valueTexts() []string {
	l := []string{""}
	for _, a := range []string{"\x00", "\x01", "\x04", "a", "\xfe", "\xff"} {
		l = append(l, a)
		for _, b := range []string{"\x00", "\x01", "a", "\xff"} {
			l = append(l, a+b, a+b+"\x00", a+b+"\xff", a+b+"b")
		}
	}
	for n := 0; n <= mostValueText; n++ {
		l = append(l, sampleText(n, uint32(n)), strings.Repeat("\x00", n), strings.Repeat("\xff", n), strings.Repeat("z", n))
	}
	for _, c := range []string{"\x00", "\xff", "\x00\xff", "\xff\x00", "\x00\x00"} {
		l = append(l, c+"plain", "pla"+c+"in", "plain"+c, strings.Repeat("z", mostValueText-len(c))+c, c+strings.Repeat("z", mostValueText-len(c)))
	}
	slices.Sort(l)
	return slices.Compact(l)
}

func goodValues() []impl.Value {
	l := []impl.Value{nullValue(), flagValue(0), flagValue(1)}
	for _, n := range wholeNumbers() {
		l = append(l, wholeValue(n))
	}
	for _, s := range valueTexts() {
		l = append(l, textValue(s))
	}
	return l
}

// badValues has kinds that are not there, also such whose lowest byte is one that is, and all that a kind does not have.
func badValues() []impl.Value {
	l := []impl.Value{{}, {Num: 1}, {Text: "a"}}
	for _, kind := range []int{0, -1, 5, 6, 255, 257, 258, 259, 260, -255, -254, -253, -252, 1<<32 + 1, math.MaxInt, math.MinInt, math.MinInt + 3} {
		l = append(l, impl.Value{Kind: kind}, impl.Value{Kind: kind, Num: 1}, impl.Value{Kind: kind, Text: "a"})
	}
	for _, n := range []int{1, -1, 255, 256, math.MaxInt, math.MinInt} {
		l = append(l, impl.Value{Kind: 1, Num: n}, impl.Value{Kind: 4, Num: n}, impl.Value{Kind: 4, Num: n, Text: "a"})
	}
	for _, n := range []int{-1, 2, 3, 255, 256, 257, 1 << 32, math.MaxInt, math.MinInt, math.MinInt + 1} {
		l = append(l, flagValue(n))
	}
	for _, n := range []int{mostWhole + 1, -mostWhole - 1, 1 << 31, -(1 << 31), 1 << 32, 1<<32 + 5, 1<<32 - mostWhole, math.MaxInt, math.MinInt, math.MaxInt - mostWhole, math.MaxInt - mostWhole + 1, math.MinInt + mostWhole} {
		l = append(l, wholeValue(n))
	}
	for _, s := range []string{"a", "\x00", strings.Repeat("a", 13)} {
		l = append(l, impl.Value{Kind: 1, Text: s}, impl.Value{Kind: 2, Text: s}, impl.Value{Kind: 2, Num: 1, Text: s}, impl.Value{Kind: 3, Text: s}, impl.Value{Kind: 3, Num: 7, Text: s})
	}
	for _, n := range []int{13, 14, 255, 256, 268, 600, 601, 100000} {
		l = append(l, textValue(strings.Repeat("a", n)), textValue(strings.Repeat("\x00", n)))
	}
	return l
}

// fewValues stands for all kinds and what is near the edges, few enough for rows of all of them.
func fewValues() []impl.Value {
	return []impl.Value{nullValue(), flagValue(0), flagValue(1), wholeValue(-mostWhole), wholeValue(-1), wholeValue(0), wholeValue(mostWhole), textValue(""), textValue("\x00"), textValue("a"), textValue("a\x00"), textValue("a\xff"), textValue("\xff")}
}

// someRows has all rows of at most two of the few values, and longer ones that are beginnings of one another.
func someRows() [][]impl.Value {
	few := fewValues()
	l := [][]impl.Value{nil}
	for _, a := range few {
		l = append(l, []impl.Value{a})
		for _, b := range few {
			l = append(l, []impl.Value{a, b})
		}
		for n := 3; n <= mostFields; n++ {
			l = append(l, slices.Repeat([]impl.Value{a}, n))
		}
	}
	many := goodValues()
	for start := range 25 {
		var row []impl.Value
		for k := range mostFields {
			row = append(row, many[(start*37+k*(start+11))%len(many)])
			l = append(l, slices.Clone(row))
		}
	}
	return l
}

// badRows has rows that are too long, and a value that is not good at each place.
func badRows() [][]impl.Value {
	l := [][]impl.Value{slices.Repeat([]impl.Value{nullValue()}, 7), slices.Repeat([]impl.Value{textValue("a")}, 8), slices.Repeat([]impl.Value{nullValue()}, 262), slices.Repeat([]impl.Value{wholeValue(5)}, 100000), make([]impl.Value, 1), make([]impl.Value, mostFields), make([]impl.Value, 7)}
	for _, v := range badValues() {
		l = append(l, []impl.Value{v})
		for k := range mostFields {
			row := slices.Repeat([]impl.Value{flagValue(1)}, mostFields)
			row[k] = v
			l = append(l, row)
		}
	}
	return l
}

// slowBytes writes by the library's means.
func slowBytes(v impl.Value) string {
	switch v.Kind {
	case 2:
		return "\x02" + string([]byte{byte(v.Num)})
	case 3:
		return "\x03" + string(binary.BigEndian.AppendUint32(nil, uint32(v.Num+mostWhole)))
	case 4:
		return "\x04" + strings.ReplaceAll(v.Text, "\x00", "\x00\xff") + "\x00\x00"
	}
	return "\x01"
}

func slowRowBytes(l []impl.Value) string {
	s := ""
	for _, v := range l {
		s += slowBytes(v)
	}
	return s
}

func slowCompare(a impl.Value, b impl.Value) int {
	return cmp.Or(cmp.Compare(a.Kind, b.Kind), cmp.Compare(a.Num, b.Num), strings.Compare(a.Text, b.Text))
}

// valueForm is how a value's bytes look; a byte is a letter of the same number there.
var valueForm = regexp.MustCompile(`(?s)^(?:\x01|\x02[\x00\x01]|\x03....|\x04(?:[^\x00]|\x00\x{ff}){0,12}\x00\x00)`)

// slowRead finds a value by its form alone.
func slowRead(s string, at int) (impl.Value, int, bool) {
	if len(s) > mostBytes || at < 0 || at >= len(s) {
		return impl.Value{}, 0, false
	}
	letters := make([]rune, 0, len(s))
	for _, c := range []byte(s[at:]) {
		letters = append(letters, rune(c))
	}
	long := len([]rune(valueForm.FindString(string(letters))))
	if long == 0 {
		return impl.Value{}, 0, false
	}
	body := s[at+1 : at+long]
	v := impl.Value{Kind: int(s[at])}
	switch v.Kind {
	case 2:
		v.Num = int(body[0])
	case 3:
		v.Num = int(binary.BigEndian.Uint32([]byte(body))) - mostWhole
	case 4:
		v.Text = strings.ReplaceAll(body[:len(body)-2], "\x00\xff", "\x00")
	}
	if v.Num > mostWhole {
		return impl.Value{}, 0, false
	}
	return v, at + long, true
}

func slowReadRow(s string) ([]impl.Value, bool) {
	var row []impl.Value
	for at := 0; at < len(s); {
		v, end, ok := slowRead(s, at)
		if !ok {
			return nil, false
		}
		row, at = append(row, v), end
	}
	if len(row) > mostFields {
		return nil, false
	}
	return row, true
}

func mustValueBytes(t *testing.T, v impl.Value) string {
	t.Helper()
	s, ok := impl.ValueBytes(v)
	if !ok {
		t.Fatalf("ValueBytes(%v) tells false", v)
	}
	return s
}

func mustRowBytes(t *testing.T, l []impl.Value) string {
	t.Helper()
	s, ok := impl.RowBytes(l)
	if !ok {
		t.Fatalf("RowBytes(%v) tells false", l)
	}
	return s
}

// checkRead holds both reading functions against the form, at each place of some bytes.
func checkRead(t *testing.T, s string) {
	t.Helper()
	for at := -1; at <= len(s)+1; at++ {
		v, end, ok := impl.ReadValue(s, at)
		if want, wantEnd, is := slowRead(s, at); v != want || end != wantEnd || ok != is {
			t.Errorf("ReadValue(%x, %d) = %v, %d, %v; want %v, %d, %v", s, at, v, end, ok, want, wantEnd, is)
		}
	}
	row, ok := impl.ReadRow(s)
	if want, is := slowReadRow(s); !slices.Equal(row, want) || ok != is {
		t.Errorf("ReadRow(%x) = %v, %v; want %v, %v", s, row, ok, want, is)
	}
}

func TestGoodValueLimits(t *testing.T) {
	for _, v := range goodValues() {
		if !impl.GoodValue(v) {
			t.Errorf("GoodValue(%v) is false", v)
		}
	}
	for _, v := range badValues() {
		if impl.GoodValue(v) {
			t.Errorf("GoodValue(kind %d, %d, a text of %d bytes) is true", v.Kind, v.Num, len(v.Text))
		}
	}
}

func TestValueBytesOfEachKind(t *testing.T) {
	for _, x := range []struct {
		v    impl.Value
		want string
	}{
		{nullValue(), "\x01"},
		{flagValue(0), "\x02\x00"},
		{flagValue(1), "\x02\x01"},
		{wholeValue(-mostWhole), "\x03\x00\x00\x00\x00"},
		{wholeValue(-mostWhole + 256), "\x03\x00\x00\x01\x00"},
		{wholeValue(-1), "\x03\x3b\x9a\xc9\xff"},
		{wholeValue(0), "\x03\x3b\x9a\xca\x00"},
		{wholeValue(mostWhole), "\x03\x77\x35\x94\x00"},
		{textValue(""), "\x04\x00\x00"},
		{textValue("\x00"), "\x04\x00\xff\x00\x00"},
		{textValue("\xff"), "\x04\xff\x00\x00"},
		{textValue("\x00a"), "\x04\x00\xffa\x00\x00"},
		{textValue("a\x00b"), "\x04a\x00\xffb\x00\x00"},
		{textValue("\x00\xff"), "\x04\x00\xff\xff\x00\x00"},
		{textValue("\xff\x00"), "\x04\xff\x00\xff\x00\x00"},
		{textValue("\x00\x00"), "\x04\x00\xff\x00\xff\x00\x00"},
		{textValue("twelve bytes"), "\x04twelve bytes\x00\x00"},
		{textValue(strings.Repeat("\x00", 12)), "\x04" + strings.Repeat("\x00\xff", 12) + "\x00\x00"},
	} {
		if s, ok := impl.ValueBytes(x.v); s != x.want || !ok {
			t.Errorf("ValueBytes(%v) = %x, %v; want %x", x.v, s, ok, x.want)
		}
	}
	for _, v := range goodValues() {
		if s := mustValueBytes(t, v); s != slowBytes(v) {
			t.Errorf("ValueBytes(%v) = %x; want %x", v, s, slowBytes(v))
		}
	}
}

// Promise 4.
func TestValueBytesAreInTheOrderOfTheValues(t *testing.T) {
	values := goodValues()
	var all []string
	for _, v := range values {
		all = append(all, mustValueBytes(t, v))
	}
	for i, a := range values {
		for k, b := range values {
			c, ok := impl.CompareValues(a, b)
			if c != slowCompare(a, b) || c != strings.Compare(all[i], all[k]) || !ok {
				t.Errorf("CompareValues(%v, %v) = %d, %v; the values have %d, the bytes %d", a, b, c, ok, slowCompare(a, b), strings.Compare(all[i], all[k]))
			}
			if i != k && strings.HasPrefix(all[i], all[k]) {
				t.Errorf("the bytes of %v are the beginning of those of %v", b, a)
			}
		}
	}
}

// Promise 4: beside the values at the edges, many that are not.
func TestBytesOfManyWholesAndTextsAreInOrder(t *testing.T) {
	seed := uint32(4)
	next := func() int {
		seed = seed*1664525 + 1013904223
		return int(seed >> 8)
	}
	for range 5000 {
		n := next()*119%(2*mostWhole+1) - mostWhole
		m := n + 1 + next()%300
		long := next() % (mostValueText + 1)
		s := sampleText(long, uint32(next()))
		cut := next() % (long + 1)
		other := s[:cut] + sampleText(next()%(mostValueText+1-cut), uint32(next()))
		pairs := [][2]impl.Value{{textValue(s), textValue(other)}, {textValue(other), textValue(s)}}
		if m <= mostWhole {
			pairs = append(pairs, [2]impl.Value{wholeValue(n), wholeValue(m)}, [2]impl.Value{wholeValue(m), wholeValue(n)})
		}
		for _, p := range pairs {
			c, ok := impl.CompareValues(p[0], p[1])
			if a, b := mustValueBytes(t, p[0]), mustValueBytes(t, p[1]); c != slowCompare(p[0], p[1]) || c != strings.Compare(a, b) || !ok {
				t.Fatalf("CompareValues(%v, %v) = %d, %v; bytes %x and %x", p[0], p[1], c, ok, a, b)
			}
		}
	}
}

// Promise 4.
func TestRowBytesAreInTheOrderOfTheRows(t *testing.T) {
	rows := someRows()
	var all []string
	for _, l := range rows {
		s := mustRowBytes(t, l)
		if s != slowRowBytes(l) {
			t.Errorf("RowBytes(%v) = %x; want %x", l, s, slowRowBytes(l))
		}
		all = append(all, s)
	}
	for i, a := range rows {
		for k, b := range rows {
			c, ok := impl.CompareRows(a, b)
			if c != slices.CompareFunc(a, b, slowCompare) || c != strings.Compare(all[i], all[k]) || !ok {
				t.Errorf("CompareRows(%v, %v) = %d, %v; the bytes have %d", a, b, c, ok, strings.Compare(all[i], all[k]))
			}
		}
	}
}

func TestCompareRowsThatEnd(t *testing.T) {
	full := slices.Repeat([]impl.Value{nullValue()}, mostFields)
	for n := range mostFields {
		if c, ok := impl.CompareRows(full[:n], full); c != -1 || !ok {
			t.Errorf("%d values against all: %d, %v", n, c, ok)
		}
		if c, ok := impl.CompareRows(full, full[:n]); c != 1 || !ok {
			t.Errorf("all against %d values: %d, %v", n, c, ok)
		}
	}
	if c, ok := impl.CompareRows(nil, []impl.Value{}); c != 0 || !ok {
		t.Error("the nil row and the empty one", c, ok)
	}
	if c, ok := impl.CompareRows([]impl.Value{wholeValue(1)}, []impl.Value{wholeValue(0), wholeValue(9)}); c != 1 || !ok {
		t.Error("a shorter row that is greater", c, ok)
	}
}

// Promise 4: of all rows just those that begin with a row lie within its bounds.
func TestAfterBeginningBoundsJustTheRowsThatBeginSo(t *testing.T) {
	rows := someRows()
	var all []string
	for _, l := range rows {
		all = append(all, mustRowBytes(t, l))
	}
	for i, begin := range rows {
		from, to, ok := impl.AfterBeginning(begin)
		if from != all[i] || to != all[i]+"\xff" || !ok {
			t.Fatalf("AfterBeginning(%v) = %x, %x, %v", begin, from, to, ok)
		}
		for k, l := range rows {
			begins := len(l) >= len(begin) && slices.Equal(l[:len(begin)], begin)
			if within := all[k] >= from && all[k] < to; within != begins {
				t.Errorf("%v lies within the bounds of %v: %v", l, begin, within)
			}
		}
	}
}

func TestAfterBeginningOfTheEmptyAndTheLongestRow(t *testing.T) {
	for _, empty := range [][]impl.Value{nil, {}} {
		if from, to, ok := impl.AfterBeginning(empty); from != "" || to != "\xff" || !ok {
			t.Errorf("of the empty row: %x, %x, %v", from, to, ok)
		}
	}
	full := slices.Repeat([]impl.Value{textValue(strings.Repeat("\x00", mostValueText))}, mostFields)
	from, to, ok := impl.AfterBeginning(full)
	if len(from) != longestRow || to != from+"\xff" || !ok {
		t.Errorf("of the longest row: %x, %x, %v", from, to, ok)
	}
}

func TestEachValueComesBackFromItsBytes(t *testing.T) {
	values := goodValues()
	for i, v := range values {
		s := mustValueBytes(t, v)
		other := mustValueBytes(t, values[(i*31+7)%len(values)])
		for _, ahead := range []string{"", "\x00", "\x01", "\xff", "\x04", "\x00\x00", "\x04a\x00", other, strings.Repeat("\x03", 200)} {
			for _, behind := range []string{"", "\x00", "\x01", "\xff", "\x00\x00", "\xff\x00\x00", "a", other, strings.Repeat("\x00", 200)} {
				got, end, ok := impl.ReadValue(ahead+s+behind, len(ahead))
				if got != v || end != len(ahead)+len(s) || !ok {
					t.Errorf("ReadValue of %x behind %x, ahead of %x = %v, %d, %v", s, ahead, behind, got, end, ok)
				}
			}
		}
	}
}

func TestEachRowComesBackFromItsBytes(t *testing.T) {
	for _, l := range someRows() {
		s := mustRowBytes(t, l)
		got, ok := impl.ReadRow(s)
		if !slices.Equal(got, l) || !ok {
			t.Errorf("ReadRow(%x) = %v, %v; want %v", s, got, ok, l)
		}
		at := 0
		for k, v := range l {
			got, end, ok := impl.ReadValue(s, at)
			if got != v || !ok {
				t.Errorf("value %d of %x, at %d = %v, %v", k, s, at, got, ok)
			}
			at = end
		}
		if at != len(s) {
			t.Errorf("the values of %x end at %d", s, at)
		}
	}
}

func TestRowsOfNoAndOfMostValues(t *testing.T) {
	for _, empty := range [][]impl.Value{nil, {}} {
		if s, ok := impl.RowBytes(empty); s != "" || !ok {
			t.Errorf("RowBytes of the empty row = %x, %v", s, ok)
		}
	}
	if l, ok := impl.ReadRow(""); len(l) != 0 || !ok {
		t.Errorf("ReadRow of the empty text = %v, %v", l, ok)
	}
	for _, v := range goodValues() {
		full := slices.Repeat([]impl.Value{v}, mostFields)
		s := mustRowBytes(t, full)
		if l, ok := impl.ReadRow(s); !slices.Equal(l, full) || !ok {
			t.Errorf("six of %v come back as %v, %v", v, l, ok)
		}
		for _, more := range []string{slowBytes(v), "\x01", slowBytes(v) + slowBytes(v), s, "\x00", "\xff"} {
			if l, ok := impl.ReadRow(s + more); len(l) != 0 || ok {
				t.Errorf("six of %v with %x behind = %v, %v", v, more, l, ok)
			}
		}
	}
}

// Bytes that are no value's, by hand.
func TestBytesOfNoValue(t *testing.T) {
	for _, s := range []string{
		"\x00", "\x05", "\x06", "\xff", "a", "\x00\x01", "\x05\x00\x00",
		"\x02", "\x02\x02", "\x02\xff", "\x02\x03\x00",
		"\x03", "\x03\x00", "\x03\x00\x00", "\x03\x00\x00\x00", "\x03\x3b\x9a\xca",
		"\x03\x77\x35\x94\x01", "\x03\x77\x35\x95\x00", "\x03\x78\x00\x00\x00", "\x03\x80\x00\x00\x00", "\x03\xff\xff\xff\xff",
		"\x04", "\x04\x00", "\x04a", "\x04a\x00", "\x04\x00\xff", "\x04\x00\xff\x00", "\x04twelve bytes", "\x04twelve bytes\x00",
		"\x04\x00\x01\x00\x00", "\x04\x00\xfe\x00\x00", "\x04a\x00b\x00\x00", "\x04\x00\x7f", "\x04ab\x00\x04\x00\x00",
		"\x04thirteen byte\x00\x00", "\x04" + strings.Repeat("\x00\xff", 13) + "\x00\x00", "\x04" + strings.Repeat("\x00\xff", 12) + "a\x00\x00",
		"\x04" + strings.Repeat("a", 597) + "\x00\x00", "\x04" + strings.Repeat("a", 599),
	} {
		if v, end, ok := impl.ReadValue(s, 0); v != (impl.Value{}) || end != 0 || ok {
			t.Errorf("ReadValue(%x) = %v, %d, %v", s, v, end, ok)
		}
		for _, row := range []string{s, "\x01" + s, "\x04a\x00\x00" + s} {
			if l, ok := impl.ReadRow(row); len(l) != 0 || ok {
				t.Errorf("ReadRow(%x) = %v, %v", row, l, ok)
			}
		}
	}
}

// All texts of at most six of the bytes that matter most.
func TestReadingOfAllShortBytes(t *testing.T) {
	texts := []string{""}
	for range 6 {
		var longer []string
		for _, s := range texts {
			for _, c := range []string{"\x00", "\x01", "\x02", "\x04", "\xff"} {
				longer = append(longer, s+c)
			}
		}
		texts = longer
		for _, s := range texts {
			checkRead(t, s)
		}
	}
}

// Good rows with a byte that is another one, or left out, or cut short there.
func TestReadingOfSpoiltRows(t *testing.T) {
	for i, l := range someRows() {
		if i%5 != 0 {
			continue
		}
		s := slowRowBytes(l)
		checkRead(t, s)
		for k := range len(s) {
			checkRead(t, s[:k])
			checkRead(t, s[:k]+s[k+1:])
			for _, c := range []string{"\x00", "\x01", "\x03", "\x04", "\x78", "\xff"} {
				checkRead(t, s[:k]+c+s[k+1:])
			}
		}
	}
}

func TestPlacesThatAreNotAsSaid(t *testing.T) {
	full := strings.Repeat("\x01", mostBytes)
	for _, s := range []string{"", "\x01", "\x04a\x00\x00", full} {
		for _, at := range []int{-1, -2, len(s), len(s) + 1, -len(s) - 1, math.MinInt, math.MaxInt, math.MinInt + 1, math.MaxInt - 1, 1 << 32, -(1 << 32)} {
			if v, end, ok := impl.ReadValue(s, at); v != (impl.Value{}) || end != 0 || ok {
				t.Errorf("ReadValue of %d bytes at %d = %v, %d, %v", len(s), at, v, end, ok)
			}
		}
	}
}

func TestReadingOfMostBytes(t *testing.T) {
	for _, v := range goodValues() {
		s := mustValueBytes(t, v)
		fill := strings.Repeat("\x01", mostBytes-len(s))
		for _, at := range []int{0, 1, len(fill) / 2, len(fill)} {
			whole := fill[:at] + s + fill[at:]
			if got, end, ok := impl.ReadValue(whole, at); got != v || end != at+len(s) || !ok {
				t.Errorf("%v at %d of %d bytes = %v, %d, %v", v, at, len(whole), got, end, ok)
			}
			for _, more := range []int{1, 2, 1000} {
				if got, end, ok := impl.ReadValue(whole+strings.Repeat("\x01", more), at); got != (impl.Value{}) || end != 0 || ok {
					t.Errorf("%v at %d, %d bytes too many = %v, %d, %v", v, at, more, got, end, ok)
				}
			}
		}
	}
	for _, n := range []int{599, 600, 601, 100000} {
		for _, c := range []string{"\x00", "\x01", "\x04", "\x04\x00\x00", "a"} {
			if l, ok := impl.ReadRow(strings.Repeat(c, n)); len(l) != 0 || ok {
				t.Errorf("ReadRow of %d of %x = %v, %v", n, c, l, ok)
			}
		}
	}
}

// Promise 19, from here on.
func TestValuesThatAreNotAsSaid(t *testing.T) {
	good := fewValues()
	for i, v := range badValues() {
		if s, ok := impl.ValueBytes(v); s != "" || ok {
			t.Errorf("ValueBytes of bad value %d = %x, %v", i, s, ok)
		}
		for _, other := range append([]impl.Value{v, {}, flagValue(7)}, good...) {
			if c, ok := impl.CompareValues(v, other); c != 0 || ok {
				t.Errorf("CompareValues of bad value %d, %v = %d, %v", i, other, c, ok)
			}
			if c, ok := impl.CompareValues(other, v); c != 0 || ok {
				t.Errorf("CompareValues of %v, bad value %d = %d, %v", other, i, c, ok)
			}
		}
	}
}

// A row is looked at as a whole, also behind the values that decide.
func TestRowsThatAreNotAsSaid(t *testing.T) {
	others := [][]impl.Value{nil, {nullValue()}, {textValue("a"), wholeValue(3)}, slices.Repeat([]impl.Value{flagValue(1)}, mostFields)}
	for i, l := range badRows() {
		if s, ok := impl.RowBytes(l); s != "" || ok {
			t.Errorf("RowBytes of bad row %d = %x, %v", i, s, ok)
		}
		if from, to, ok := impl.AfterBeginning(l); from != "" || to != "" || ok {
			t.Errorf("AfterBeginning of bad row %d = %x, %x, %v", i, from, to, ok)
		}
		for _, other := range append(others, l) {
			if c, ok := impl.CompareRows(l, other); c != 0 || ok {
				t.Errorf("CompareRows of bad row %d, %d values = %d, %v", i, len(other), c, ok)
			}
			if c, ok := impl.CompareRows(other, l); c != 0 || ok {
				t.Errorf("CompareRows of %d values, bad row %d = %d, %v", len(other), i, c, ok)
			}
		}
	}
}

// Rows are unchanged, and so is what lies behind their length, which is not read either.
func TestRowsAreNotWrittenInto(t *testing.T) {
	memory := []impl.Value{nullValue(), flagValue(1), wholeValue(5), textValue("a\x00"), textValue(""), wholeValue(-1), {Kind: 9}, textValue("behind")}
	was := slices.Clone(memory)
	for n := range len(memory) + 1 {
		l := memory[:n]
		s, ok := impl.RowBytes(l)
		if good := n <= mostFields; ok != good || good && s != slowRowBytes(l) {
			t.Errorf("RowBytes of the first %d = %x, %v", n, s, ok)
		}
		impl.AfterBeginning(l)
		for m := range len(memory) + 1 {
			if c, ok := impl.CompareRows(l, memory[:m]); ok != (max(n, m) <= mostFields) || ok && c != cmp.Compare(n, m) {
				t.Errorf("CompareRows of the first %d and %d = %d, %v", n, m, c, ok)
			}
		}
		if !slices.Equal(memory, was) {
			t.Fatalf("the row, or what lies behind it, is changed: %v", memory)
		}
	}
	v, other := textValue("a\x00"), wholeValue(mostWhole+1)
	impl.GoodValue(v)
	impl.ValueBytes(v)
	impl.CompareValues(v, other)
	if v != textValue("a\x00") || other != wholeValue(mostWhole+1) {
		t.Error("a value is changed", v, other)
	}
}

// liesIn tells whether a text's memory is a piece of another one's.
func liesIn(s string, of string) bool {
	if len(s) == 0 || len(of) == 0 {
		return false
	}
	at, start := uintptr(unsafe.Pointer(unsafe.StringData(s))), uintptr(unsafe.Pointer(unsafe.StringData(of)))
	return at >= start && at < start+uintptr(len(of))
}

func TestValueAnswersAreNewMemory(t *testing.T) {
	for _, text := range []string{"plain", "ab", "twelve bytes", "a\x00", "\xff\xff\xff"} {
		row := []impl.Value{textValue(strings.Clone(text)), textValue("other")}
		s := mustRowBytes(t, row)
		if liesIn(s, row[0].Text) || liesIn(mustValueBytes(t, row[0]), row[0].Text) {
			t.Errorf("the bytes share the memory of %q", text)
		}
		v, _, _ := impl.ReadValue(s, 0)
		back, _ := impl.ReadRow(s)
		if v.Text != text || len(back) != 2 || liesIn(v.Text, s) || liesIn(back[0].Text, s) || liesIn(back[1].Text, s) {
			t.Errorf("what is read of %q shares the memory of its bytes", text)
		}
		for i := range back[:cap(back)] {
			back[:cap(back)][i] = impl.Value{Kind: 9}
		}
		if again, ok := impl.ReadRow(s); !slices.Equal(again, row) || !ok {
			t.Error("a row is kept, and was changed from outside", again)
		}
		from, to, ok := impl.AfterBeginning(row)
		if !ok || liesIn(from, to) || liesIn(to, from) || liesIn(from, row[0].Text) {
			t.Error("the two bounds share memory")
		}
	}
}

// The answers hang on the arguments alone, not on what was asked ahead.
func TestValuesAnswerTheSameAgain(t *testing.T) {
	row := []impl.Value{textValue("a\x00"), wholeValue(7), nullValue()}
	first := mustRowBytes(t, row)
	for _, l := range badRows()[:20] {
		impl.RowBytes(l)
		impl.ReadRow(first[:len(first)-2])
		if s := mustRowBytes(t, row); s != first {
			t.Errorf("%x, then %x", first, s)
		}
	}
}
