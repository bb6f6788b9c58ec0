package impl

import "strings"

// Limits of texts.
const (
	MaxText = 200
	MaxAtom = 40
)

type byteRange struct {
	first byte
	last  byte
}

// atomMarks holds the bytes that an atom may have beside letters and digits.
var atomMarks = [...]byteRange{
	{33, 33}, {35, 39}, {42, 43}, {45, 45}, {47, 47},
	{61, 61}, {63, 63}, {94, 96}, {123, 126},
}

// TextValid reports whether a text is short, and has printed bytes only.
func TextValid(s string) bool {
	if len(s) > MaxText {
		return false
	}
	for i := 0; i < len(s); i++ {
		if s[i] < 32 || s[i] > 126 {
			return false
		}
	}
	return true
}

// AtomValid reports whether a word needs no quotes.
func AtomValid(s string) bool {
	return len(s) >= 1 && len(s) <= MaxAtom && atomEnd(s, 0) == len(s)
}

// QuoteWord returns a word, in quotes if it needs them.
func QuoteWord(s string) string {
	if !TextValid(s) {
		return ""
	}
	if AtomValid(s) {
		return s
	}
	var word strings.Builder
	word.WriteByte('"')
	for i := 0; i < len(s); i++ {
		if s[i] == '"' || s[i] == '\\' {
			word.WriteByte('\\')
		}
		word.WriteByte(s[i])
	}
	word.WriteByte('"')
	return word.String()
}

// UnquoteWord returns the word of a text.
func UnquoteWord(s string) (string, bool) {
	if AtomValid(s) {
		return s, true
	}
	if s == "" || s[0] != '"' {
		return "", false
	}
	text, _, ok := readQuoted(s, 0)
	// Writing the text again rejects every form but the one of QuoteWord:
	// needless quotes and backslashes, and bytes behind the last quote.
	if !ok || QuoteWord(text) != s {
		return "", false
	}
	return text, true
}

// SplitWords returns the words of a text.
func SplitWords(s string) ([]string, bool) {
	if !TextValid(s) {
		return nil, false
	}
	var list []string
	at := skipSpaces(s, 0)
	for at < len(s) {
		word, end, ok := readWord(s, at)
		if !ok || end < len(s) && s[end] != ' ' {
			return nil, false
		}
		list = append(list, word)
		at = skipSpaces(s, end)
	}
	return list, true
}

// JoinWords returns the text of words.
func JoinWords(list []string) string {
	var line strings.Builder
	for i, text := range list {
		if !TextValid(text) {
			return ""
		}
		if i > 0 {
			line.WriteByte(' ')
		}
		line.WriteString(QuoteWord(text))
		if line.Len() > MaxText {
			return ""
		}
	}
	return line.String()
}

// LowerText makes capital letters small.
func LowerText(s string) string {
	// Byte by byte, since strings.ToLower would change bytes above 127.
	lower := []byte(s)
	for i, c := range lower {
		if isCapital(c) {
			lower[i] = c - 'A' + 'a'
		}
	}
	return string(lower)
}

// SameText reports whether two texts differ in capital letters at most.
func SameText(a string, b string) bool {
	return LowerText(a) == LowerText(b)
}

func isCapital(c byte) bool {
	return c >= 'A' && c <= 'Z'
}

func isSmall(c byte) bool {
	return c >= 'a' && c <= 'z'
}

func isLetter(c byte) bool {
	return isCapital(c) || isSmall(c)
}

func isDigit(c byte) bool {
	return c >= '0' && c <= '9'
}

func isAtomByte(c byte) bool {
	if isLetter(c) || isDigit(c) {
		return true
	}
	for _, r := range atomMarks {
		if c >= r.first && c <= r.last {
			return true
		}
	}
	return false
}

// atomEnd returns the place of the first byte from at on that no atom has.
func atomEnd(s string, at int) int {
	for at < len(s) && isAtomByte(s[at]) {
		at++
	}
	return at
}

func skipSpaces(s string, at int) int {
	for at < len(s) && s[at] == ' ' {
		at++
	}
	return at
}

// readWord reads what is written at a place, and returns the place behind it.
func readWord(s string, at int) (string, int, bool) {
	if s[at] == '"' {
		return readQuoted(s, at)
	}
	end := atomEnd(s, at)
	return s[at:end], end, end > at
}

// readQuoted reads from a double quote up to the one that ends it, and returns
// what is between, and the place behind the last quote.
func readQuoted(s string, at int) (string, int, bool) {
	var text strings.Builder
	for i := at + 1; i < len(s); i++ {
		if s[i] == '"' {
			return text.String(), i + 1, true
		}
		if s[i] == '\\' {
			i++
			if i == len(s) {
				break
			}
		}
		text.WriteByte(s[i])
	}
	return "", 0, false
}
