// Package ratchet lets two parties talk under keys that go on: see DOC.md.
package ratchet

import (
	"errors"

	"ratchet/sums"
)

// What a call refuses with.
var (
	ErrLong = errors.New("ratchet: above a bound")
	ErrKey  = errors.New("ratchet: a key that is none")
	ErrForm = errors.New("ratchet: no frame")
	ErrAuth = errors.New("ratchet: not from the other one, or not for the first time")
	ErrSkip = errors.New("ratchet: too much is skipped")
	ErrNone = errors.New("ratchet: there is no chain yet")
	ErrFull = errors.New("ratchet: the chain is at its end")
)

const (
	maxData = 200
	maxMade = 128
)

// Hash is SHA-256 (P3).
func Hash(data string) (string, error) {
	if anyLong(data) {
		return "", ErrLong
	}
	return sums.Hash(data), nil
}

// Mac is HMAC-SHA-256 (P3).
func Mac(key string, data string) (string, error) {
	if anyLong(key, data) {
		return "", ErrLong
	}
	return sums.Mac(key, data), nil
}

// Derive is HKDF-SHA-256 (P4).
func Derive(salt string, key string, info string, n int) (string, error) {
	if anyLong(salt, key, info) || n < 0 || n > maxMade {
		return "", ErrLong
	}
	return sums.Derive(salt, key, info, n), nil
}

func anyLong(all ...string) bool {
	for _, s := range all {
		if len(s) > maxData {
			return true
		}
	}
	return false
}
