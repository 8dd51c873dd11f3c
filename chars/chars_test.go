package chars_test

import (
	"strings"
	"testing"

	"voussoir/chars"
)

const (
	letters = "ABCDEFGHIJKLMNOPQRSTUVWXYZabcdefghijklmnopqrstuvwxyz"
	digits  = "0123456789"
	others  = "!#$%&()*+,-./:;<=>?@[]^`{|}~"
)

// every calls see with each byte, as a string.
func every(see func(c byte, s string)) {
	for i := range 256 {
		see(byte(i), string([]byte{byte(i)}))
	}
}

func TestBytes(t *testing.T) {
	every(func(c byte, s string) {
		if chars.IsLetter(c) != strings.Contains(letters, s) || chars.IsDigit(c) != strings.Contains(digits, s) || chars.IsNameByte(c) != strings.Contains(letters+digits+"_", s) {
			t.Errorf("%q", s)
		}
	})
}

func TestIsSign(t *testing.T) {
	every(func(c byte, s string) {
		want := strings.Contains(others, s)
		if chars.IsSign(s) != want || chars.IsSign("+"+s) != want || chars.IsSign(s+"+") != want {
			t.Errorf("%q", s)
		}
	})
	for n, want := range map[int]bool{0: false, 1: true, 20: true, 21: false, 1000: false} {
		if chars.IsSign(strings.Repeat("+", n)) != want {
			t.Error(n)
		}
	}
}

func TestIsString(t *testing.T) {
	every(func(c byte, s string) {
		want := strings.Contains(letters+digits+others+"_' ", s)
		if chars.IsString(s) != want || chars.IsString("a"+s) != want || chars.IsString(s+"a") != want {
			t.Errorf("%q", s)
		}
	})
	for n, want := range map[int]bool{0: true, 1: true, 200: true, 201: false} {
		if chars.IsString(strings.Repeat("a", n)) != want {
			t.Error(n)
		}
	}
	if chars.IsString("é") {
		t.Error("a letter of two bytes")
	}
}

func TestRun(t *testing.T) {
	for s, want := range map[string]string{"": "", "a": "", "1": "1", "12a3": "12", "a12": "", "123": "123"} {
		if got := chars.Run(s, chars.IsDigit); got != want {
			t.Errorf("%q: %q", s, got)
		}
		if chars.All(s, chars.IsDigit) != (s == want) {
			t.Errorf("%q", s)
		}
	}
}
