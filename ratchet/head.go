package ratchet

import "strings"

// head is what stands ahead of the sealed text in a frame.
type head struct {
	theirs string // The sender's public key.
	before int    // How many messages the sender's chain ahead of this one had.
	number int
}

func (h head) bytes() string {
	return h.theirs + twoBytes(h.before) + twoBytes(h.number)
}

// readHead copies the public key, which a party may keep for longer than the
// frame that it came in.
func readHead(frame string) head {
	return head{
		theirs: strings.Clone(frame[:keySize]),
		before: readTwo(frame[keySize:]),
		number: readTwo(frame[keySize+2:]),
	}
}

func twoBytes(n int) string {
	return string([]byte{byte(n >> 8), byte(n)})
}

func readTwo(s string) int {
	return int(s[0])<<8 | int(s[1])
}
