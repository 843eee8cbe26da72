package sums

const (
	innerMask = 0x36
	outerMask = 0x5c
)

// Mac is HMAC (RFC 2104) with Hash.
func Mac(key string, data string) string {
	if len(key) > blockSize {
		key = Hash(key)
	}
	return Hash(masked(key, outerMask) + Hash(masked(key, innerMask)+data))
}

// masked fills a key of at most one block up with zeros, and masks it.
func masked(key string, mask byte) string {
	block := make([]byte, blockSize)
	copy(block, key)
	for i := range block {
		block[i] ^= mask
	}
	return string(block)
}

// Derive is HKDF (RFC 5869) with Mac: n bytes, from 0 to the 255*32 that a
// counter of one byte can tell apart. An empty salt is as good as one of
// zeros, as the RFC asks: Mac fills it up.
func Derive(salt string, key string, info string, n int) string {
	extracted := Mac(salt, key)
	made, last := "", ""
	for count := 1; len(made) < n; count++ {
		last = Mac(extracted, last+info+string([]byte{byte(count)}))
		made += last
	}
	return made[:n]
}
