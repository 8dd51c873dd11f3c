// Package chars says of which bytes names, signs and strings are made.
package chars

const (
	MaxSign   = 20  // bytes of a sign
	MaxString = 200 // bytes of a string
)

// IsLetter reports whether a byte is a letter.
func IsLetter(c byte) bool {
	return c >= 'a' && c <= 'z' || c >= 'A' && c <= 'Z'
}

// IsDigit reports whether a byte is a digit.
func IsDigit(c byte) bool { return c >= '0' && c <= '9' }

// IsNameByte reports whether a byte can be in a name.
func IsNameByte(c byte) bool { return IsLetter(c) || IsDigit(c) || c == '_' }

func isSignByte(c byte) bool {
	return c >= 33 && c <= 126 && !IsNameByte(c) && c != '"' && c != '\'' && c != '\\'
}

// IsSign reports whether s is made as a sign of a language is.
func IsSign(s string) bool {
	return s != "" && len(s) <= MaxSign && All(s, isSignByte)
}

// IsString reports whether s can be a string of a language.
func IsString(s string) bool {
	if len(s) > MaxString {
		return false
	}
	for _, c := range s {
		if c < 32 || c > 126 || c == '"' || c == '\\' {
			return false
		}
	}
	return true
}

// Run returns the longest beginning of s in which all bytes are wanted.
func Run(s string, want func(c byte) bool) string {
	for i := range len(s) {
		if !want(s[i]) {
			return s[:i]
		}
	}
	return s
}

// All reports whether all bytes of s are wanted.
func All(s string, want func(c byte) bool) bool { return len(Run(s, want)) == len(s) }
