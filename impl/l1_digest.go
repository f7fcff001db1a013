package impl

const MaxText = 600
const Prime = 65521

const maxLong = 1000000
const maxListTexts = 20
const maxListText = 100
const pieceSize = 8

// The places of a digest's bytes, and behind them how many there are.
const (
	upperB = iota
	lowerB
	upperA
	lowerA
	digestSize
)

// A byte counts in B once for itself and once for each byte behind it, so a
// piece is fed by one weighted sum; a shorter piece takes the last weights.
var pieceWeights = [pieceSize]int{8, 7, 6, 5, 4, 3, 2, 1}

type Mix struct {
	A    int
	B    int
	Long int
}

// NewMix starts a digest with the word of its kind, so that texts of two
// kinds do not share one by being alike.
func NewMix(kind byte) (Mix, bool) {
	if !goodKind(kind) {
		return Mix{}, false
	}
	start := int(kind) + 1
	return Mix{A: start, B: start}, true
}

func goodKind(kind byte) bool {
	return kind >= 'a' && kind <= 'z'
}

// GoodMix tells whether all of a mix is within its limits.
func GoodMix(m Mix) bool {
	return goodSum(m.A) && goodSum(m.B) && m.Long >= 0 && m.Long <= maxLong
}

func goodSum(n int) bool {
	return n >= 0 && n < Prime
}

// FeedMix goes on with the bytes of s.
func FeedMix(m Mix, s string) (Mix, bool) {
	if !GoodMix(m) || len(s) > MaxText || m.Long+len(s) > maxLong {
		return Mix{}, false
	}
	for at := 0; at < len(s); at += pieceSize {
		m = feedPiece(m, s[at:min(at+pieceSize, len(s))])
	}
	return m, true
}

// feedPiece feeds at most pieceSize bytes; its sums are so small that one
// modulo at the end is enough.
func feedPiece(m Mix, piece string) Mix {
	skip := pieceSize - len(piece)
	sum, weighted := 0, 0
	for i := 0; i < len(piece); i++ {
		sum += int(piece[i])
		weighted += pieceWeights[skip+i] * int(piece[i])
	}
	return Mix{
		A:    (m.A + sum) % Prime,
		B:    (m.B + len(piece)*m.A + weighted) % Prime,
		Long: m.Long + len(piece),
	}
}

// EndMix tells a mix as the four bytes of its digest.
func EndMix(m Mix) (string, bool) {
	if !GoodMix(m) {
		return "", false
	}
	var digest [digestSize]byte
	digest[upperB] = byte(m.B / 256)
	digest[lowerB] = byte(m.B % 256)
	digest[upperA] = byte(m.A / 256)
	digest[lowerA] = byte(m.A % 256)
	return string(digest[:]), true
}

// DigestOf is the digest of a text that is fed at once.
func DigestOf(kind byte, s string) (string, bool) {
	start, ok := NewMix(kind)
	if !ok {
		return "", false
	}
	fed, ok := FeedMix(start, s)
	if !ok {
		return "", false
	}
	return EndMix(fed)
}

// ListDigest is the digest of a list of texts, which their lengths keep apart.
func ListDigest(kind byte, l []string) (string, bool) {
	joined, ok := joinTexts(l)
	if !ok {
		return "", false
	}
	return DigestOf(kind, joined)
}

func joinTexts(l []string) (string, bool) {
	if len(l) > maxListTexts {
		return "", false
	}
	var joined []byte
	for _, s := range l {
		if len(s) > maxListText {
			return "", false
		}
		joined = append(joined, byte(len(s)))
		joined = append(joined, s...)
	}
	return string(joined), true
}

// JoinMixes puts together two mixes that were fed apart: b's start of A 1 is
// taken off again, and a's A counts in B once more for each byte of b.
func JoinMixes(a Mix, b Mix) (Mix, bool) {
	if !GoodMix(a) || !GoodMix(b) || a.Long+b.Long > maxLong {
		return Mix{}, false
	}
	// Prime - 1 stands for -1, so that neither sum falls below 0.
	less := a.A + Prime - 1
	return Mix{
		A:    (less + b.A) % Prime,
		B:    (a.B + b.B + b.Long*less) % Prime,
		Long: a.Long + b.Long,
	}, true
}

// ClashOf tells whether two unlike texts have one digest.
func ClashOf(kind byte, a string, b string) (bool, bool) {
	first, ok := DigestOf(kind, a)
	if !ok {
		return false, false
	}
	second, ok := DigestOf(kind, b)
	if !ok {
		return false, false
	}
	return a != b && first == second, true
}
