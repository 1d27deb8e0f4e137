package impl

import (
	"slices"
	"strconv"
	"strings"
)

const (
	maxName   = 10
	maxDigits = 7
	maxText   = 60000
	sizeBytes = 2
)

func NameOk(s string) bool {
	if len(s) == 0 || len(s) > maxName || !isSmall(s[0]) {
		return false
	}
	for i := range len(s) {
		if !isSmall(s[i]) && !isDigit(s[i]) && s[i] != '-' {
			return false
		}
	}
	return true
}

func PlainOk(s string, most int) bool {
	if len(s) > most {
		return false
	}
	for i := range len(s) {
		if !isPlain(s[i]) {
			return false
		}
	}
	return true
}

func isSmall(c byte) bool { return 'a' <= c && c <= 'z' }

func isDigit(c byte) bool { return '0' <= c && c <= '9' }

func isPlain(c byte) bool { return ' ' <= c && c <= '~' }

func NumText(n int) string { return strconv.Itoa(max(n, 0)) }

// ParseNum does not lean on strconv.Atoi, which takes signs and noughts ahead.
func ParseNum(s string, most int) (int, bool) {
	if len(s) == 0 || len(s) > maxDigits || s[0] == '0' && len(s) > 1 {
		return 0, false
	}
	n := 0
	for i := range len(s) {
		if !isDigit(s[i]) {
			return 0, false
		}
		n = n*10 + int(s[i]-'0')
	}
	if n > most {
		return 0, false
	}
	return n, true
}

// Split clones each piece, as a piece cut out of s would share its memory.
func Split(s string, by byte) []string {
	var out []string
	for {
		end := strings.IndexByte(s, by)
		if end < 0 {
			return append(out, strings.Clone(s))
		}
		out = append(out, strings.Clone(s[:end]))
		s = s[end+1:]
	}
}

// Join does not lean on strings.Join, which hands out a lone text itself.
func Join(l []string, by string) string {
	var out strings.Builder
	for i, s := range l {
		if i > 0 {
			out.WriteString(by)
		}
		out.WriteString(s)
	}
	return out.String()
}

func Sorted(l []string) []string {
	out := make([]string, len(l))
	copy(out, l)
	slices.Sort(out)
	out = slices.Compact(out)
	for i, s := range out {
		out[i] = strings.Clone(s)
	}
	return out
}

func PutText(b []byte, s string) []byte { return putTexts(b, s) }

// putTexts begins with a copy: an append to b itself could write into the spare room behind it.
func putTexts(b []byte, texts ...string) []byte {
	out := make([]byte, len(b))
	copy(out, b)
	for _, s := range texts {
		if len(s) <= maxText {
			out = append(out, byte(len(s)>>8), byte(len(s)))
			out = append(out, s...)
		}
	}
	return out
}

// GetText compares by what is left of b, as a sum with a great place would wrap round.
func GetText(b []byte, at int) (string, int, bool) {
	if at < 0 || at > len(b)-sizeBytes {
		return "", 0, false
	}
	size := int(b[at])<<8 | int(b[at+1])
	from := at + sizeBytes
	if size > maxText || size > len(b)-from {
		return "", 0, false
	}
	return string(b[from : from+size]), from + size, true
}
