package ratchet

import "ratchet/sums"

const keySize = 32

// The number 9, the lowest byte first, as RFC 7748 writes it.
const basePoint = "\x09" + "\x00\x00\x00\x00\x00\x00\x00" +
	"\x00\x00\x00\x00\x00\x00\x00\x00" +
	"\x00\x00\x00\x00\x00\x00\x00\x00" +
	"\x00\x00\x00\x00\x00\x00\x00\x00"

// Shared is X25519 (P5).
func Shared(secret string, public string) (string, error) {
	if !areKeys(secret, public) {
		return "", ErrKey
	}
	return sums.Shared(secret, public), nil
}

// Public is the public key of a secret (P5).
func Public(secret string) (string, error) {
	return Shared(secret, basePoint)
}

func areKeys(all ...string) bool {
	for _, s := range all {
		if len(s) != keySize {
			return false
		}
	}
	return true
}
