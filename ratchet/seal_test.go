package ratchet

import (
	"crypto/hkdf"
	"crypto/hmac"
	"crypto/sha256"
	"encoding/binary"
	"strings"
	"testing"
)

// The document's numbers, written again: a wrong one in the program must show.
const (
	textBound   = 64
	besideBound = 32 + 36
	sealedBound = 64 + 16
)

func wantMac(key []byte, data []byte) []byte {
	h := hmac.New(sha256.New, key)
	h.Write(data)
	return h.Sum(nil)
}

// wantSealed seals by the Go library alone.
func wantSealed(t *testing.T, key string, ad string, text string) string {
	t.Helper()
	k, err := hkdf.Key(sha256.New, []byte(key), nil, "seal", 64)
	if err != nil {
		t.Fatal(err)
	}
	var stream []byte
	for c := range uint32(3) {
		stream = append(stream, wantMac(k[:32], binary.BigEndian.AppendUint32(nil, c))...)
	}
	box := make([]byte, len(text))
	for i := range box {
		box[i] = text[i] ^ stream[i]
	}
	proved := binary.BigEndian.AppendUint32(nil, uint32(len(ad)))
	proved = append(append(proved, ad...), box...)
	return string(box) + string(wantMac(k[32:], proved)[:16])
}

// flipped is a string with one bit turned.
func flipped(s string, bit int) string {
	b := []byte(s)
	b[bit/8] ^= 1 << (bit % 8)
	return string(b)
}

func TestP6SealExamples(t *testing.T) {
	key := hashOf("2")
	for _, c := range []struct{ ad, text, want string }{
		{"", "", "dd549fc26412479db8fdd5c19bd65bd6"},
		{"", "a", "59f76dad37d07bfcf69417e1c4e94d2523"},
		{"ad", "text", "4cb59298e0c374988d58835acd304f9d2fe2f897"},
	} {
		got, err := Seal(key, c.ad, c.text)
		checkAnswer(t, "Seal of "+c.text, got, err, unhex(t, c.want))
		got, err = Open(key, c.ad, unhex(t, c.want))
		checkAnswer(t, "Open of "+c.text, got, err, c.text)
	}
}

// Every length of text and of ad that the bounds let in, both ways.
func TestP6SealAndOpenOfEveryLength(t *testing.T) {
	keys := []string{hashOf("key"), strings.Repeat("\x00", 32), strings.Repeat("\xff", 32)}
	for n := range textBound + 1 {
		for _, size := range []int{0, 1, n, besideBound - 1, besideBound} {
			key, ad, text := keys[n%len(keys)], pattern(size), pattern(n)
			want := wantSealed(t, key, ad, text)
			got, err := Seal(key, ad, text)
			checkAnswer(t, "Seal of some bytes", got, err, want)
			got, err = Open(key, ad, want)
			checkAnswer(t, "Open of some bytes", got, err, text)
		}
	}
	for size := range besideBound + 1 {
		key, ad := keys[0], pattern(size)
		want := wantSealed(t, key, ad, "text")
		got, err := Seal(key, ad, "text")
		checkAnswer(t, "Seal beside some bytes", got, err, want)
		got, err = Open(key, ad, want)
		checkAnswer(t, "Open beside some bytes", got, err, "text")
	}
}

func TestP6OpenWithABitTurned(t *testing.T) {
	key := hashOf("key")
	for _, c := range [][2]string{{"", ""}, {"", "text"}, {"ad", ""}, {"ad", "text"}, {pattern(besideBound), pattern(textBound)}} {
		ad, sealed := c[0], wantSealed(t, key, c[0], c[1])
		for bit := range 8 * len(sealed) {
			got, err := Open(key, ad, flipped(sealed, bit))
			checkRefused(t, "Open with a bit of the box or the tag turned", got, err, ErrAuth)
		}
		for bit := range 8 * len(ad) {
			got, err := Open(key, flipped(ad, bit), sealed)
			checkRefused(t, "Open with a bit of ad turned", got, err, ErrAuth)
		}
		for bit := range 8 * len(key) {
			got, err := Open(flipped(key, bit), ad, sealed)
			checkRefused(t, "Open with a bit of the key turned", got, err, ErrAuth)
		}
	}
}

// A byte more or less anywhere, or one that has moved from ad to the box.
func TestP6OpenOfOtherLengths(t *testing.T) {
	key, ad, text := hashOf("key"), "beside", "some text"
	sealed := wantSealed(t, key, ad, text)
	for _, c := range [][2]string{
		{ad, sealed[1:]}, {ad, sealed[:len(sealed)-1]}, {ad, "\x00" + sealed}, {ad, sealed + "\x00"},
		{ad, sealed[len(text):]}, {ad, sealed[:len(text)] + sealed[:16]},
		{ad[1:], sealed}, {ad[:len(ad)-1], sealed}, {ad + "\x00", sealed}, {"\x00" + ad, sealed}, {"", sealed},
		{ad[:len(ad)-1], ad[len(ad)-1:] + sealed}, {ad + sealed[:1], sealed[1:]}, {"", ad + sealed},
	} {
		got, err := Open(key, c[0], c[1])
		checkRefused(t, "Open of what was not sealed so", got, err, ErrAuth)
	}
}

func TestP6OpenOfTooFewBytes(t *testing.T) {
	key := hashOf("key")
	empty := wantSealed(t, key, "", "")
	for n := range 16 {
		for _, sealed := range []string{pattern(n), strings.Repeat("\x00", n), empty[:n], empty[16-n:]} {
			got, err := Open(key, "", sealed)
			checkRefused(t, "Open of too few bytes", got, err, ErrAuth)
			got, err = Open(key, pattern(besideBound), sealed)
			checkRefused(t, "Open of too few bytes", got, err, ErrAuth)
		}
	}
}

func TestP6Long(t *testing.T) {
	for _, key := range []string{hashOf("key"), "", pattern(31), pattern(33), pattern(70000)} {
		for _, more := range []int{1, 2, 100, 256, 65536} {
			for _, c := range [][2]string{{pattern(besideBound + more), ""}, {"", pattern(textBound + more)}, {pattern(besideBound + more), pattern(textBound + more)}} {
				got, err := Seal(key, c[0], c[1])
				checkRefused(t, "Seal of long bytes", got, err, ErrLong)
			}
			for _, c := range [][2]string{{pattern(besideBound + more), ""}, {pattern(besideBound + more), pattern(20)}, {"", pattern(sealedBound + more)}, {pattern(besideBound + more), pattern(sealedBound + more)}} {
				got, err := Open(key, c[0], c[1])
				checkRefused(t, "Open of long bytes", got, err, ErrLong)
			}
		}
	}
}

// ErrKey comes behind ErrLong and ahead of ErrAuth.
func TestP6NoKeys(t *testing.T) {
	sealed := wantSealed(t, hashOf("key"), "ad", "text")
	for _, n := range []int{0, 1, 16, 31, 33, 64, 200, 201, 288, 70000} {
		for _, c := range [][2]string{{"", ""}, {"ad", "text"}, {pattern(besideBound), pattern(textBound)}} {
			got, err := Seal(pattern(n), c[0], c[1])
			checkRefused(t, "Seal with a wrong key", got, err, ErrKey)
		}
		for _, c := range [][2]string{{"ad", sealed}, {"", ""}, {"", pattern(15)}, {"", pattern(16)}, {pattern(besideBound), pattern(sealedBound)}} {
			got, err := Open(pattern(n), c[0], c[1])
			checkRefused(t, "Open with a wrong key", got, err, ErrKey)
		}
	}
}
