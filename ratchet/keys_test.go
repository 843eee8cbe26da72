package ratchet

import (
	"crypto/ecdh"
	"strings"
	"testing"
)

// nine is the number 9 in 32 bytes, the lowest first.
func nine() string { return "\x09" + strings.Repeat("\x00", 31) }

// hashOf makes 32 bytes that look like a key.
func hashOf(seed string) string {
	sum, _ := Hash(seed)
	return sum
}

// wantShared is what the library answers; it refuses where all is zeros.
func wantShared(t *testing.T, secret string, public string) string {
	t.Helper()
	own, err := ecdh.X25519().NewPrivateKey([]byte(secret))
	if err != nil {
		t.Fatal(err)
	}
	theirs, err := ecdh.X25519().NewPublicKey([]byte(public))
	if err != nil {
		t.Fatal(err)
	}
	both, err := own.ECDH(theirs)
	if err != nil {
		return strings.Repeat("\x00", 32)
	}
	return string(both)
}

// The examples of RFC 7748, section 5.2.
func TestP5SharedExamples(t *testing.T) {
	for _, c := range []struct{ secret, public, want string }{
		{"a546e36bf0527c9d3b16154b82465edd62144c0ac1fc5a18506a2244ba449ac4", "e6db6867583030db3594c1a424b15f7c726624ec26b3353b10a903a6d0ab1c4c", "c3da55379de9c6908e94ea4df28d084f32eccf03491c71f754b4075577a28552"},
		{"4b66e9d4d1b4673c5ad22691957d6af5c11b6421e0ea01d42ca4169e7918ba0d", "e5210f12786811d3f4b7959d0538ae2c31dbe7106fc03c3efc4cd549c715a493", "95cbde9476e8907d7aade45cb4b873f88b595a68799fa152e6f8f7647aac7957"},
	} {
		got, err := Shared(unhex(t, c.secret), unhex(t, c.public))
		checkAnswer(t, "Shared of an example", got, err, unhex(t, c.want))
	}
}

// The same section's walk: the answer is the next secret, the secret the next
// public key.
func TestP5SharedManyTimes(t *testing.T) {
	secret, public := nine(), nine()
	for count := 1; count <= 1000; count++ {
		got, err := Shared(secret, public)
		switch count {
		case 1:
			checkAnswer(t, "Shared once", got, err, unhex(t, "422c8e7a6227d7bca1350b3e2bb7279f7897b87bb6854b783c60e80311ae3079"))
		case 1000:
			checkAnswer(t, "Shared a thousand times", got, err, unhex(t, "684cf59ba83309552800ef566f2f4d3c1c3887c49360e3875f2eb94d99532c51"))
		}
		secret, public = got, secret
	}
}

// The example of RFC 7748, section 6.1.
func TestP5TwoShare(t *testing.T) {
	one := unhex(t, "77076d0a7318a57d3c16c17251b26645df4c2f87ebc0992ab177fba51db92c2a")
	other := unhex(t, "5dab087e624a8a4b79e17f8b83800ee66f3bb1292618b6fd1c2f8b27ff88e0eb")
	onePublic := unhex(t, "8520f0098930a754748b7ddcb43ef75a0dbf3a0d26381af4eba4a98eaa9b4e6a")
	otherPublic := unhex(t, "de9edb7d7b7dc1b4d35b61c2ece435373f8343c85b78674dadfc7e146f882b4f")
	both := unhex(t, "4a5d9d5ba4ce2de1728e3bf480350f25e07e21c947d19e3376f09b3c1e161742")
	got, err := Public(one)
	checkAnswer(t, "Public of the one", got, err, onePublic)
	got, err = Public(other)
	checkAnswer(t, "Public of the other", got, err, otherPublic)
	got, err = Shared(one, otherPublic)
	checkAnswer(t, "Shared by the one", got, err, both)
	got, err = Shared(other, onePublic)
	checkAnswer(t, "Shared by the other", got, err, both)
}

func TestP5SharedOfOrdinaryKeys(t *testing.T) {
	for i := range 100 {
		secret, public := hashOf(pattern(i)), hashOf(pattern(i+100))
		for _, theirs := range []string{public, flipped(public, 255)} {
			got, err := Shared(secret, theirs)
			checkAnswer(t, "Shared of ordinary keys", got, err, wantShared(t, secret, theirs))
		}
	}
}

func TestP5SharedOfEveryBit(t *testing.T) {
	plain := hashOf("plain")
	for i := range 256 {
		bit := flipped(strings.Repeat("\x00", 32), i)
		for _, c := range [][2]string{{plain, bit}, {bit, plain}, {bit, bit}} {
			got, err := Shared(c[0], c[1])
			checkAnswer(t, "Shared of a key with one bit", got, err, wantShared(t, c[0], c[1]))
		}
	}
}

// A public key's highest bit says nothing, nor do the secret's two highest and
// three lowest.
func TestP5BitsThatSayNothing(t *testing.T) {
	secret, public := hashOf("secret"), hashOf("public")
	want, _ := Shared(secret, public)
	got, err := Shared(secret, flipped(public, 255))
	checkAnswer(t, "Shared with the highest bit turned", got, err, want)
	for _, bit := range []int{0, 1, 2, 254, 255} {
		got, err = Shared(flipped(secret, bit), public)
		checkAnswer(t, "Shared with a bit of the secret turned", got, err, want)
	}
}

// From 2^255 - 19 on a public key stands for what is left of it.
func TestP5PublicKeysAboveThePrime(t *testing.T) {
	for above := range 19 {
		small := string([]byte{byte(above)}) + strings.Repeat("\x00", 31)
		for _, high := range []byte{0x7f, 0xff} {
			great := string([]byte{byte(0xed + above)}) + strings.Repeat("\xff", 30) + string([]byte{high})
			for _, secret := range []string{hashOf("a"), hashOf("b"), strings.Repeat("\x00", 32), strings.Repeat("\xff", 32)} {
				want := wantShared(t, secret, small)
				got, err := Shared(secret, great)
				checkAnswer(t, "Shared of a public key above the prime", got, err, want)
				got, err = Shared(secret, small)
				checkAnswer(t, "Shared of a small public key", got, err, want)
			}
		}
	}
}

func TestP5ZerosAreAnswered(t *testing.T) {
	zeros := strings.Repeat("\x00", 32)
	for _, text := range []string{
		"0000000000000000000000000000000000000000000000000000000000000000",
		"0100000000000000000000000000000000000000000000000000000000000000",
		"e0eb7a7c3b41b8ae1656e3faf19fc46ada098deb9c32b1fd866205165f49b800",
		"5f9c95bca3508c24b1d0b1559c83ef5b04445cc4581c8e86d8224eddd09f1157",
		"ecffffffffffffffffffffffffffffffffffffffffffffffffffffffffffff7f",
		"edffffffffffffffffffffffffffffffffffffffffffffffffffffffffffff7f",
		"eeffffffffffffffffffffffffffffffffffffffffffffffffffffffffffff7f",
	} {
		for _, public := range []string{unhex(t, text), flipped(unhex(t, text), 255)} {
			for _, secret := range []string{hashOf("a"), nine(), zeros, strings.Repeat("\xff", 32), public} {
				got, err := Shared(secret, public)
				checkAnswer(t, "Shared of a public key of small order", got, err, zeros)
			}
		}
	}
}

func TestP5Public(t *testing.T) {
	for i := range 60 {
		for _, secret := range []string{hashOf(pattern(i)), strings.Repeat(string([]byte{byte(17 * i)}), 32)} {
			got, err := Public(secret)
			checkAnswer(t, "Public", got, err, wantShared(t, secret, nine()))
			same, err := Shared(secret, nine())
			checkAnswer(t, "Shared with 9", same, err, got)
		}
	}
}

func TestP5NoKeys(t *testing.T) {
	good := hashOf("good")
	for _, n := range []int{0, 1, 16, 31, 33, 64, 200, 201, 288, 70000} {
		for _, bad := range []string{pattern(n), strings.Repeat("\x00", n)} {
			got, err := Shared(bad, good)
			checkRefused(t, "Shared of a wrong secret", got, err, ErrKey)
			got, err = Shared(good, bad)
			checkRefused(t, "Shared of a wrong public key", got, err, ErrKey)
			got, err = Shared(bad, bad)
			checkRefused(t, "Shared of two wrong keys", got, err, ErrKey)
			got, err = Public(bad)
			checkRefused(t, "Public of a wrong secret", got, err, ErrKey)
		}
	}
	got, err := Shared(good[:31], good+"x")
	checkRefused(t, "Shared of 64 bytes parted wrongly", got, err, ErrKey)
}
