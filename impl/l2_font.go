package impl

// Limits of fonts.
const (
	Letters  = 26
	Glyphs   = 36
	MaxGlyph = 100
	MaxPairs = 20
	MaxWord  = 20
)

// GlyphPair gives a value to a pair of glyphs.
type GlyphPair struct {
	A     int
	B     int
	Value int
}

// Font has the widths of glyphs, the glue between words, the width of the hyphen, kerns and ligatures.
type Font struct {
	Widths    []int
	Space     Glue
	Hyphen    int
	Kerns     []GlyphPair
	Ligatures []GlyphPair
}

// ValidFont reports whether a font is valid.
func ValidFont(f Font) bool {
	return len(f.Widths) == Glyphs && allWithin(f.Widths, 0, MaxGlyph) &&
		within(f.Hyphen, 0, MaxGlyph) &&
		f.Space.valid() && f.Space.Width >= 0 &&
		validPairs(f.Kerns, -MaxGlyph, MaxGlyph) &&
		validPairs(f.Ligatures, Letters, Glyphs-1)
}

// GlyphsOf returns the glyphs of a word.
func GlyphsOf(f Font, word string) []int {
	if !ValidFont(f) || !validWord(word) {
		return nil
	}
	glyphs := make([]int, 0, len(word))
	for i := range len(word) {
		glyphs = append(glyphs, int(word[i]-'a'))
		glyphs = joinEnd(glyphs, f.Ligatures)
	}
	return glyphs
}

// GlyphsWidth returns the width of glyphs.
func GlyphsWidth(f Font, list []int) int {
	if !ValidFont(f) || len(list) > MaxWord {
		return 0
	}
	sum := 0
	for i, glyph := range list {
		if !validGlyph(glyph) {
			return 0
		}
		sum += f.Widths[glyph]
		if i > 0 {
			kern, _ := pairValue(f.Kerns, list[i-1], glyph)
			sum += kern
		}
	}
	return sum
}

// WordWidth returns the width of a word.
func WordWidth(f Font, word string) int {
	glyphs := GlyphsOf(f, word)
	if len(glyphs) == 0 {
		return -1
	}
	return max(GlyphsWidth(f, glyphs), 0)
}

// validWord reports whether a text is a word.
func validWord(word string) bool {
	if !within(len(word), 1, MaxWord) {
		return false
	}
	for i := range len(word) {
		if !isLetter(word[i]) {
			return false
		}
	}
	return true
}

// isLetter reports whether a character is a lowercase letter.
func isLetter(c byte) bool {
	return 'a' <= c && c <= 'z'
}

// validGlyph reports whether a glyph exists.
func validGlyph(glyph int) bool {
	return within(glyph, 0, Glyphs-1)
}

// validPairs reports whether there are not too many pairs, all of glyphs that
// exist, in strict order, with values in low..high.
func validPairs(list []GlyphPair, low int, high int) bool {
	if len(list) > MaxPairs {
		return false
	}
	for i, pair := range list {
		if !validGlyph(pair.A) || !validGlyph(pair.B) || !within(pair.Value, low, high) {
			return false
		}
		if i > 0 && list[i-1].key() >= pair.key() {
			return false
		}
	}
	return true
}

// joinEnd replaces the last two glyphs by their ligature as long as they have
// one, because a ligature may form another one with the glyph before it.
func joinEnd(glyphs []int, ligatures []GlyphPair) []int {
	for len(glyphs) >= 2 {
		last := len(glyphs) - 1
		joined, ok := pairValue(ligatures, glyphs[last-1], glyphs[last])
		if !ok {
			break
		}
		glyphs = glyphs[:last]
		glyphs[last-1] = joined
	}
	return glyphs
}

// key orders pairs of existing glyphs by A, then by B.
func (p GlyphPair) key() int {
	return p.A*Glyphs + p.B
}

// pairValue returns the value of a pair of glyphs in a list of valid pairs, and whether it is there.
func pairValue(list []GlyphPair, a int, b int) (int, bool) {
	pair, ok := searchKey(list, GlyphPair{A: a, B: b}.key())
	return pair.Value, ok
}

// keyed is implemented by elements of lists that are ordered by a number.
type keyed interface {
	key() int
}

// searchKey returns the element with a key in a list in which keys ascend, and whether there is one.
func searchKey[E keyed](list []E, key int) (E, bool) {
	low, high := 0, len(list)
	for low < high {
		middle := (low + high) / 2
		if list[middle].key() < key {
			low = middle + 1
		} else {
			high = middle
		}
	}
	if low < len(list) && list[low].key() == key {
		return list[low], true
	}
	var none E
	return none, false
}
