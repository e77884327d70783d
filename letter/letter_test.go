package letter_test

import (
	"strings"
	"testing"

	"scriptorium/letter"
)

// The letters, each at the place at which the other list has it in the other size.
const (
	small  = "abcdefghijklmnopqrstuvwxyz"
	large  = "ABCDEFGHIJKLMNOPQRSTUVWXYZ"
	digits = "0123456789"
)

func TestOrDigit(t *testing.T) {
	for c := range 256 {
		want := strings.IndexByte(small+large+digits, byte(c)) >= 0
		if letter.OrDigit(byte(c)) != want {
			t.Errorf("%d: got %v", c, !want)
		}
	}
}

func TestSmall(t *testing.T) {
	for c := range 256 {
		want := byte(c)
		if at := strings.IndexByte(large, byte(c)); at >= 0 {
			want = small[at]
		}
		if got := letter.Small(byte(c)); got != want {
			t.Errorf("%d: got %d, want %d", c, got, want)
		}
	}
}
