package sums

import (
	"math/big"
	"math/rand"
	"testing"
)

func prime() *big.Int {
	p := new(big.Int).Lsh(big.NewInt(1), 255)
	return p.Sub(p, big.NewInt(19))
}

func value(a number) *big.Int {
	sum := new(big.Int)
	for i := limbCount - 1; i >= 0; i-- {
		sum.Lsh(sum, limbBits).Add(sum, new(big.Int).SetUint64(a[i]))
	}
	return sum
}

// wantBytes writes a value modulo the prime, the lowest byte first.
func wantBytes(v *big.Int) string {
	data := new(big.Int).Mod(v, prime()).FillBytes(make([]byte, 32))
	for i := range 16 {
		data[i], data[31-i] = data[31-i], data[i]
	}
	return string(data)
}

// someNumbers are those at the edges of what a number's limbs may be, and
// others between.
func someNumbers() []number {
	const top = limbMask
	all := []number{
		{}, {1}, {2}, {18}, {19}, {20}, {curveNumber},
		{0, 0, 0, 0, top}, {0, 0, 0, 0, 1 << 50}, {top}, {1 << limbBits}, {top + 256},
		{top - 19, top, top, top, top}, {top - 18, top, top, top, top}, {top - 17, top, top, top, top},
		{top - 1, top, top, top, top}, {top, top, top, top, top}, {top + 1, top, top, top, top},
		{top + 19, top, top, top, top}, {top + 256, top, top, top, top},
	}
	source := rand.New(rand.NewSource(1))
	for range 40 {
		var a number
		for i := range a {
			a[i] = source.Uint64() & limbMask
		}
		all = append(all, a)
	}
	return all
}

func checkNumber(t *testing.T, what string, got number, want *big.Int) {
	t.Helper()
	if got.bytes() != wantBytes(want) {
		t.Errorf("%s = %v (%x), want %x", what, got, got.bytes(), wantBytes(want))
	}
	for i, limb := range got {
		if limb > limbMask && (i != 0 || limb > limbMask+256) {
			t.Errorf("%s: the limb %d of %v is above its bound", what, i, got)
		}
	}
}

func TestNumberSums(t *testing.T) {
	for _, a := range someNumbers() {
		checkNumber(t, "the number", a, value(a))
		checkNumber(t, "the least", a.least(), value(a))
		for _, b := range someNumbers() {
			checkNumber(t, "the sum", a.plus(b), new(big.Int).Add(value(a), value(b)))
			checkNumber(t, "the difference", a.minus(b), new(big.Int).Sub(value(a), value(b)))
			checkNumber(t, "the product", a.times(b), new(big.Int).Mul(value(a), value(b)))
		}
	}
}

func TestNumberInverse(t *testing.T) {
	exponent := new(big.Int).Sub(prime(), big.NewInt(2))
	for _, a := range someNumbers() {
		checkNumber(t, "the inverse", a.inverse(), new(big.Int).Exp(value(a), exponent, prime()))
	}
}

func TestReadNumber(t *testing.T) {
	for i := range 256 {
		var data [32]byte
		data[i/8] = 1 << (i % 8)
		want := new(big.Int).Lsh(big.NewInt(1), uint(i))
		if i == 255 {
			want.SetInt64(0)
		}
		if got := readNumber(data); value(got).Cmp(want) != 0 {
			t.Errorf("the number with the bit %d alone is %v", i, got)
		}
	}
}
