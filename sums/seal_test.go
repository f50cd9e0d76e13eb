package sums_test

import (
	"strings"
	"testing"

	"shardkeep/api"
	"shardkeep/sums"
)

// refused asks that s is not opened, and why.
func refused(t *testing.T, name, s string, want error) {
	t.Helper()
	if got, err := sums.Open(s); got != "" || err != want {
		t.Errorf("%s: Open(%.20q) = %.20q, %v, want %v", name, s, got, err, want)
	}
}

// changed has one byte otherwise.
func changed(s string, place int, by byte) string {
	text := []byte(s)
	text[place] ^= by
	return string(text)
}

// P41
func TestSealOfKnownTexts(t *testing.T) {
	for s, want := range map[string]string{
		"":                 "\x00\x00\x00\x00",
		"a":                "a\xe8\xb7\xbe\x43",
		"abc":              "abc\x35\x24\x41\xc2",
		"123456789":        "123456789\xcb\xf4\x39\x26",
		"\x00":             "\x00\xd2\x02\xef\x8d",
		"\xff":             "\xff\xff\x00\x00\x00",
		"\x00\x00\x00\x00": "\x00\x00\x00\x00\x21\x44\xdf\x1c",
	} {
		if got := sums.Seal(s); got != want {
			t.Errorf("Seal(%q) = %q, want %q", s, got, want)
		}
	}
}

// P41
func TestSealHasTheHighestByteFirst(t *testing.T) {
	for _, s := range texts() {
		got := sums.Seal(s)
		if len(got) != len(s)+4 || got[:len(s)] != s {
			t.Errorf("Seal of %d bytes: %d bytes, or other ones", len(s), len(got))
			continue
		}
		sum := uint32(0)
		for _, b := range []byte(got[len(s):]) {
			sum = sum*256 + uint32(b)
		}
		if want := slowCRC(s); sum != want {
			t.Errorf("Seal of %d bytes, %.20q ends with %#x, want %#x", len(s), s, sum, want)
		}
	}
}

// P41: fewer than four bytes are none, whatever they are.
func TestOpenOfFewerThanFourBytes(t *testing.T) {
	refused(t, "no bytes", "", api.ErrText)
	for a := range 256 {
		for size := 1; size < 4; size++ {
			refused(t, "few bytes", strings.Repeat(string([]byte{byte(a)}), size), api.ErrText)
		}
	}
	for _, s := range []string{"", "a", "abc", "\x00"} {
		for size := range 4 {
			refused(t, "cut off", sums.Seal(s)[:size], api.ErrText)
		}
	}
}

// P41: of four bytes only the sum of no bytes is one.
func TestOpenOfJustFourBytes(t *testing.T) {
	if got, err := sums.Open("\x00\x00\x00\x00"); got != "" || err != nil {
		t.Errorf("Open of the sum of no bytes = %q, %v", got, err)
	}
	for place := range 4 {
		for by := 1; by < 256; by++ {
			refused(t, "one byte wrong", changed("\x00\x00\x00\x00", place, byte(by)), api.ErrSum)
		}
	}
	for _, s := range []string{"abcd", "\xff\xff\xff\xff", "1234", sums.Seal("a")[1:]} {
		refused(t, "another four bytes", s, api.ErrSum)
	}
}

// P41
func TestOpenOfWrongSums(t *testing.T) {
	for _, s := range []string{"", "a", "abc", "\x00", mixed(40, 1), mixed(1000, 2)} {
		sealed := sums.Seal(s)
		for i := range 4 {
			for by := 1; by < 256; by++ {
				refused(t, "one byte of the sum wrong", changed(sealed, len(s)+i, byte(by)), api.ErrSum)
			}
		}
	}
	refused(t, "the lowest byte first", "abc\xc2\x41\x24\x35", api.ErrSum)
	refused(t, "the sum ahead", "\x35\x24\x41\xc2abc", api.ErrSum)
	refused(t, "another text's sum", "abd\x35\x24\x41\xc2", api.ErrSum)
	refused(t, "not turned at the end", "abc\xca\xdb\xbe\x3d", api.ErrSum)
	refused(t, "one byte more", "abc\x35\x24\x41\xc2\x00", api.ErrSum)
	refused(t, "one byte less", "abc\x35\x24\x41", api.ErrSum)
	refused(t, "a byte 0 ahead", "\x00abc\x35\x24\x41\xc2", api.ErrSum)
}

// P42
func TestWhatIsSealedIsOpened(t *testing.T) {
	for _, s := range texts() {
		if got, err := sums.Open(sums.Seal(s)); got != s || err != nil {
			t.Errorf("%d bytes, %.20q: opened %.20q, %v", len(s), s, got, err)
		}
		if got, err := sums.Open(sums.Seal(sums.Seal(s))); got != sums.Seal(s) || err != nil {
			t.Errorf("%d bytes, %.20q, sealed twice: opened %.20q, %v", len(s), s, got, err)
		}
	}
}
