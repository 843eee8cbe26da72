package ratchet

import (
	"crypto/hkdf"
	"crypto/hmac"
	"crypto/sha256"
	"encoding/hex"
	"math"
	"strings"
	"testing"
)

// The document's numbers, written again: a wrong one in the program must show.
const (
	dataBound = 200
	madeBound = 128
)

func pattern(n int) string {
	b := make([]byte, n)
	for i := range b {
		b[i] = byte(31*i + 5*n + 128)
	}
	return string(b)
}

// span is the bytes from one value to another, as the RFCs' examples have them.
func span(from int, to int) string {
	var b []byte
	for i := from; i <= to; i++ {
		b = append(b, byte(i))
	}
	return string(b)
}

func unhex(t *testing.T, text string) string {
	t.Helper()
	b, err := hex.DecodeString(text)
	if err != nil {
		t.Fatal(err)
	}
	return string(b)
}

// checkAnswer holds what a call answered against the answer that it owes.
func checkAnswer(t *testing.T, call string, got string, err error, want string) {
	t.Helper()
	if got != want || err != nil {
		t.Errorf("%s = %x, %v, want %x", call, got, err, want)
	}
}

// checkRefused: just the one error, and nothing beside it.
func checkRefused(t *testing.T, call string, got string, err error, want error) {
	t.Helper()
	if got != "" || !isJust(err, want) {
		t.Errorf("%s = %x, %v, want only the error %v", call, got, err, want)
	}
}

func TestP3HashExamples(t *testing.T) {
	for data, want := range map[string]string{
		"":    "e3b0c44298fc1c149afbf4c8996fb92427ae41e4649b934ca495991b7852b855",
		"abc": "ba7816bf8f01cfea414140de5dae2223b00361a396177a9cb410ff61f20015ad",
		"abcdbcdecdefdefgefghfghighijhijkijkljklmklmnlmnomnopnopq":                                                         "248d6a61d20638b8e5c026930c3e6039a33ce45964ff2167f6ecedd419db06c1",
		"abcdefghbcdefghicdefghijdefghijkefghijklfghijklmghijklmnhijklmnoijklmnopjklmnopqklmnopqrlmnopqrsmnopqrstnopqrstu": "cf5b16a778af8380036ce59e7b0492370b249b11e8f07a51afac45037afee9d1",
	} {
		got, err := Hash(data)
		checkAnswer(t, "Hash of "+data, got, err, unhex(t, want))
	}
}

func TestP3HashOfEveryLength(t *testing.T) {
	for n := range dataBound + 1 {
		want := sha256.Sum256([]byte(pattern(n)))
		got, err := Hash(pattern(n))
		checkAnswer(t, "Hash of some bytes", got, err, string(want[:]))
	}
}

// The examples of RFC 4231, but the one whose answer is cut short.
func TestP3MacExamples(t *testing.T) {
	for _, c := range []struct{ key, data, want string }{
		{strings.Repeat("\x0b", 20), "Hi There", "b0344c61d8db38535ca8afceaf0bf12b881dc200c9833da726e9376c2e32cff7"},
		{"Jefe", "what do ya want for nothing?", "5bdcc146bf60754e6a042426089575c75a003f089d2739839dec58b964ec3843"},
		{strings.Repeat("\xaa", 20), strings.Repeat("\xdd", 50), "773ea91e36800e46854db8ebd09181a72959098b3ef8c122d9635514ced565fe"},
		{span(1, 25), strings.Repeat("\xcd", 50), "82558a389a443c0ea4cc819899f2083a85f0faa3e578f8077a2e3ff46729665b"},
		{strings.Repeat("\xaa", 131), "Test Using Larger Than Block-Size Key - Hash Key First", "60e431591ee0b67f0d8a26aacbf5b77f8e0bc6213728c5140546040f0ee37f54"},
		{strings.Repeat("\xaa", 131), "This is a test using a larger than block-size key and a larger than block-size data. The key needs to be hashed before being used by the HMAC algorithm.", "9b09ffa71b942fcb27635fbcd5b0e944bfdc63644f0713938a7f51535c3a35e2"},
	} {
		got, err := Mac(c.key, c.data)
		checkAnswer(t, "Mac of "+c.data, got, err, unhex(t, c.want))
	}
}

func TestP3MacOfEveryLength(t *testing.T) {
	for n := range dataBound + 1 {
		for _, c := range [][2]string{{pattern(n), "data"}, {"key", pattern(n)}, {pattern(n), pattern(dataBound - n)}, {pattern(n), pattern(dataBound)}} {
			h := hmac.New(sha256.New, []byte(c[0]))
			h.Write([]byte(c[1]))
			got, err := Mac(c[0], c[1])
			checkAnswer(t, "Mac of some bytes", got, err, string(h.Sum(nil)))
		}
	}
}

func TestP3Long(t *testing.T) {
	for _, n := range []int{dataBound + 1, dataBound + 2, 255, 256, 257, 511, 512, 65536, 1 << 20} {
		long := pattern(n)
		got, err := Hash(long)
		checkRefused(t, "Hash of a long string", got, err, ErrLong)
		for _, other := range []string{"", "x", pattern(dataBound), long} {
			got, err = Mac(long, other)
			checkRefused(t, "Mac with a long key", got, err, ErrLong)
			got, err = Mac(other, long)
			checkRefused(t, "Mac of long data", got, err, ErrLong)
		}
	}
}

// The examples of RFC 5869 with SHA-256.
func TestP4DeriveExamples(t *testing.T) {
	for _, c := range []struct {
		salt, key, info string
		n               int
		want            string
	}{
		{span(0x00, 0x0c), strings.Repeat("\x0b", 22), span(0xf0, 0xf9), 42, "3cb25f25faacd57a90434f64d0362f2a2d2d0a90cf1a5a4c5db02d56ecc4c5bf34007208d5b887185865"},
		{span(0x60, 0xaf), span(0x00, 0x4f), span(0xb0, 0xff), 82, "b11e398dc80327a1c8e7f78c596a49344f012eda2d4efad8a050cc4c19afa97c59045a99cac7827271cb41c65e590e09da3275600c2f09b8367793a9aca3db71cc30c58179ec3e87c14c01d5c1f3434f1d87"},
		{"", strings.Repeat("\x0b", 22), "", 42, "8da4e775a563c18f715f802a063c5a31b8a11f5c5ee1879ec3454e5f3c738d2d9d201395faa4b61a96c8"},
	} {
		got, err := Derive(c.salt, c.key, c.info, c.n)
		checkAnswer(t, "Derive of an example", got, err, unhex(t, c.want))
	}
}

func TestP4DeriveOfEveryNumber(t *testing.T) {
	for _, size := range []int{0, 1, 32, 64, 65, dataBound} {
		salt, key, info := pattern(size), pattern(dataBound-size), pattern(dataBound)
		for n := range madeBound + 1 {
			want, fault := hkdf.Key(sha256.New, []byte(key), []byte(salt), info, n)
			if fault != nil {
				t.Fatal(fault)
			}
			got, err := Derive(salt, key, info, n)
			checkAnswer(t, "Derive of some bytes", got, err, string(want))
		}
	}
}

func TestP4DeriveAtTheBounds(t *testing.T) {
	full := pattern(dataBound)
	want, fault := hkdf.Key(sha256.New, []byte(full), []byte(full), full, madeBound)
	if fault != nil {
		t.Fatal(fault)
	}
	got, err := Derive(full, full, full, madeBound)
	checkAnswer(t, "Derive at the bounds", got, err, string(want))
	got, err = Derive("", "", "", 0)
	checkAnswer(t, "Derive of nothing", got, err, "")
	got, err = Derive(full, full, full, 0)
	checkAnswer(t, "Derive of no bytes", got, err, "")
}

func TestP4DeriveEmptySaltIsZeros(t *testing.T) {
	want, fault := hkdf.Key(sha256.New, []byte("key"), nil, "info", madeBound)
	if fault != nil {
		t.Fatal(fault)
	}
	for _, salt := range []string{"", strings.Repeat("\x00", 32)} {
		got, err := Derive(salt, "key", "info", madeBound)
		checkAnswer(t, "Derive with an empty salt", got, err, string(want))
	}
}

func TestP4Long(t *testing.T) {
	for _, n := range []int{math.MinInt, math.MinInt32, -256, -1, madeBound + 1, 255 * 32, 255*32 + 1, 1 << 32, 1<<32 + 1, math.MaxInt} {
		for _, s := range []string{"", "x", pattern(dataBound), pattern(dataBound + 1)} {
			got, err := Derive(s, s, s, n)
			checkRefused(t, "Derive of a wrong number", got, err, ErrLong)
		}
	}
	for _, size := range []int{dataBound + 1, 256, 257, 65536} {
		long := pattern(size)
		for _, n := range []int{0, 1, madeBound} {
			for _, c := range [][3]string{{long, "", ""}, {"", long, ""}, {"", "", long}, {long, "x", long}, {long, long, long}} {
				got, err := Derive(c[0], c[1], c[2], n)
				checkRefused(t, "Derive of a long string", got, err, ErrLong)
			}
		}
	}
}
