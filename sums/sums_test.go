package sums

import (
	"crypto/hkdf"
	"crypto/hmac"
	"crypto/sha256"
	"strings"
	"testing"
)

// longest is above all that package ratchet hands in, and above what Derive
// hands to Mac (a piece, the info and the counter: 32 + 200 + 1).
const longest = 300

func pattern(n int) string {
	b := make([]byte, n)
	for i := range b {
		b[i] = byte(31*i + 5*n + 128)
	}
	return string(b)
}

func wantHash(data string) string {
	sum := sha256.Sum256([]byte(data))
	return string(sum[:])
}

func wantMac(key string, data string) string {
	h := hmac.New(sha256.New, []byte(key))
	h.Write([]byte(data))
	return string(h.Sum(nil))
}

func wantDerive(t *testing.T, salt string, key string, info string, n int) string {
	t.Helper()
	b, err := hkdf.Key(sha256.New, []byte(key), []byte(salt), info, n)
	if err != nil {
		t.Fatal(err)
	}
	return string(b)
}

func TestHashOfEveryLength(t *testing.T) {
	for n := range longest + 1 {
		for _, data := range []string{pattern(n), strings.Repeat("\x00", n), strings.Repeat("\xff", n)} {
			if got, want := Hash(data), wantHash(data); got != want {
				t.Errorf("Hash of %d bytes %x = %x, want %x", n, data, got, want)
			}
		}
	}
}

func TestHashOfAMillionBytes(t *testing.T) {
	data := strings.Repeat("a", 1000000)
	if got, want := Hash(data), wantHash(data); got != want {
		t.Errorf("Hash of a million bytes = %x, want %x", got, want)
	}
}

func TestMacOfEveryLength(t *testing.T) {
	for n := range longest + 1 {
		for _, c := range [][2]string{{pattern(n), "data"}, {"key", pattern(n)}, {pattern(n), pattern(longest - n)}} {
			if got, want := Mac(c[0], c[1]), wantMac(c[0], c[1]); got != want {
				t.Errorf("Mac(%x, %x) = %x, want %x", c[0], c[1], got, want)
			}
		}
	}
}

func TestDeriveOfEveryLength(t *testing.T) {
	for n := range 255*32 + 1 {
		if n > longest && n < 255*32-1 {
			continue
		}
		got, want := Derive("salt", "key", "info", n), wantDerive(t, "salt", "key", "info", n)
		if got != want {
			t.Errorf("Derive of %d bytes = %x, want %x", n, got, want)
		}
	}
	for n := range longest + 1 {
		for _, c := range [][3]string{{pattern(n), "key", "info"}, {"salt", pattern(n), "info"}, {"salt", "key", pattern(n)}} {
			got, want := Derive(c[0], c[1], c[2], 100), wantDerive(t, c[0], c[1], c[2], 100)
			if got != want {
				t.Errorf("Derive(%x, %x, %x, 100) = %x, want %x", c[0], c[1], c[2], got, want)
			}
		}
	}
}
