package tags

import "strings"

const (
	opening = "16R" // what stands in a tag's place where a block begins
	closing = "16S" // and where it ends

	signs = " /-?:().,'+" // the set, beside letters and digits

	qualSize = 4
	nameSize = 16 // the longest name
)

func isDigit(c byte) bool { return '0' <= c && c <= '9' }

func isCapital(c byte) bool { return 'A' <= c && c <= 'Z' }

func isDigitOrCapital(c byte) bool { return isDigit(c) || isCapital(c) }

// isOfSet tells whether a message may hold a byte beside the ends of its lines.
func isOfSet(c byte) bool {
	return isDigitOrCapital(c) || 'a' <= c && c <= 'z' || strings.IndexByte(signs, c) >= 0
}

// isOfText tells whether a field's text, which may have several lines, may hold a byte.
func isOfText(c byte) bool { return isOfSet(c) || c == '\n' }

// firstNot is the place, from 0 on, of the first byte that is not as it should be; else how many bytes there are.
func firstNot(is func(byte) bool, s string) int {
	for i := range len(s) {
		if !is(s[i]) {
			return i
		}
	}
	return len(s)
}

func isTag(s string) bool {
	if len(s) == 3 && !isCapital(s[2]) || s == opening || s == closing {
		return false
	}
	return (len(s) == 2 || len(s) == 3) && isDigit(s[0]) && isDigit(s[1])
}

func isQualifier(s string) bool {
	return len(s) == qualSize && firstNot(isDigitOrCapital, s) == qualSize
}

func isName(s string) bool {
	return 0 < len(s) && len(s) <= nameSize && firstNot(isDigitOrCapital, s) == len(s)
}

// goesOn tells whether each line of a text behind the first one has a byte, and would not be taken for a line of another kind.
func goesOn(text string) bool {
	for i := range len(text) {
		if text[i] != '\n' {
			continue
		}
		if i+1 == len(text) || strings.IndexByte("\n:-", text[i+1]) >= 0 {
			return false
		}
	}
	return true
}
