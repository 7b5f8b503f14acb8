package lex

func isBlank(c byte) bool { return c == '\t' || c == '\n' || c == '\r' || c == ' ' }

func isDigit(c byte) bool { return '0' <= c && c <= '9' }

func isSmall(c byte) bool { return 'a' <= c && c <= 'z' }

func isGreat(c byte) bool { return 'A' <= c && c <= 'Z' }

func beginsName(c byte) bool { return isSmall(c) || c == '_' }

func isLetter(c byte) bool {
	return isSmall(c) || isGreat(c) || isDigit(c) || c == '_' || c == '\''
}

// run returns the bytes that s begins with and that are of one class, which no byte above 127 is.
func run(s string, is func(c byte) bool) string {
	for i, r := range s {
		if r > 127 || !is(byte(r)) {
			return s[:i]
		}
	}
	return s
}
