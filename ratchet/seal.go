package ratchet

import "ratchet/sums"

const (
	maxText  = 64
	maxAd    = 32
	headSize = 36
	tagSize  = 16
)

// What goes beside a text that is sealed may be a frame's head behind an ad.
const maxBeside = maxAd + headSize

// Seal hides a text, and proves it and what goes beside it (P6).
func Seal(key string, ad string, text string) (string, error) {
	if len(ad) > maxBeside || len(text) > maxText {
		return "", ErrLong
	}
	if !areKeys(key) {
		return "", ErrKey
	}
	return sealText(key, ad, text), nil
}

// sealText is Seal of what is within its limits.
func sealText(key string, ad string, text string) string {
	hiding, proving := sealKeys(key)
	box := hidden(hiding, text)
	return box + tag(proving, ad, box)
}

// Open answers the text that was sealed with the key, beside ad (P6).
func Open(key string, ad string, sealed string) (string, error) {
	if len(ad) > maxBeside || len(sealed) > maxText+tagSize {
		return "", ErrLong
	}
	if !areKeys(key) {
		return "", ErrKey
	}
	if len(sealed) < tagSize {
		return "", ErrAuth
	}
	hiding, proving := sealKeys(key)
	box, given := sealed[:len(sealed)-tagSize], sealed[len(sealed)-tagSize:]
	if !sameTag(given, tag(proving, ad, box)) {
		return "", ErrAuth
	}
	return hidden(hiding, box), nil
}

func sealKeys(key string) (string, string) {
	both := sums.Derive("", key, "seal", 2*keySize)
	return both[:keySize], both[keySize:]
}

// hidden joins a text with the key's stream. Done twice, it is undone.
func hidden(key string, text string) string {
	stream := ""
	for count := 0; len(stream) < len(text); count++ {
		stream += sums.Mac(key, fourBytes(count))
	}
	box := []byte(text)
	for i := range box {
		box[i] ^= stream[i]
	}
	return string(box)
}

// tag has the length of ad ahead, so that no byte can move between ad and box.
func tag(key string, ad string, box string) string {
	return sums.Mac(key, fourBytes(len(ad))+ad+box)[:tagSize]
}

func fourBytes(n int) string {
	return string([]byte{byte(n >> 24), byte(n >> 16), byte(n >> 8), byte(n)})
}

// sameTag looks at every byte, wherever the first difference is: else the time
// taken would tell how much of a forged tag is right.
func sameTag(a string, b string) bool {
	differ := byte(0)
	for i := range tagSize {
		differ |= a[i] ^ b[i]
	}
	return differ == 0
}
