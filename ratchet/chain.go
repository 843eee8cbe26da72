package ratchet

import (
	"strings"

	"ratchet/sums"
)

// chain makes the keys of messages, one behind the other. Without a key of its
// own it has not begun.
type chain struct {
	key  string
	next int
}

func (c *chain) begun() bool { return c.key != "" }

// step answers the next message's key and forgets what made it (P7).
func (c *chain) step() string {
	made := sums.Mac(c.key, "\x01")
	c.key = sums.Mac(c.key, "\x02")
	c.next++
	return made
}

// skip makes the steps up to the message number n, left out, and answers their
// keys. theirs is the public key that the chain's messages come with.
func (c *chain) skip(theirs string, n int) []keptKey {
	var skipped []keptKey
	for c.next < n {
		number := c.next
		skipped = append(skipped, keptKey{theirs, number, c.step()})
	}
	return skipped
}

// halves answers two strings that share no memory: a root lives longer than
// the key beside it, and would hold on to what nobody shall go back to.
func halves(both string) (string, string) {
	return strings.Clone(both[:keySize]), strings.Clone(both[keySize:])
}
