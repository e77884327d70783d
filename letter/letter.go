// Package letter tells letters a to z and A to Z, and digits, byte by byte: the library's calls take others for letters, too, and change bytes that are none.
package letter

// OrDigit is whether a byte is a letter, or a digit.
func OrDigit(c byte) bool {
	return 'a' <= c && c <= 'z' || 'A' <= c && c <= 'Z' || '0' <= c && c <= '9'
}

// Small is a byte, of a letter A to Z the small one.
func Small(c byte) byte {
	if 'A' <= c && c <= 'Z' {
		return c - 'A' + 'a'
	}
	return c
}
