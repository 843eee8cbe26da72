package sums

// curveNumber is (486662 - 2) / 4, of the curve's own number (RFC 7748, 4.1).
const curveNumber = 121665

// point is the place x / z on the curve: so only the last step must divide.
type point struct {
	x, z number
}

// Shared is X25519 (RFC 7748), for 32 bytes each. What comes out may be all
// zeros: whoever asks says what that means.
func Shared(secret string, public string) string {
	var given [32]byte
	copy(given[:], public)
	x := readNumber(given)
	factor := clamped(secret)
	low, high := point{number{1}, number{}}, point{x, number{1}}
	crossed := uint64(0)
	for i := 254; i >= 0; i-- {
		bit := uint64(factor[i/8]>>(i%8)) & 1
		low, high = swapped(crossed^bit, low, high)
		low, high = doubled(low), added(low, high, x)
		crossed = bit
	}
	low, _ = swapped(crossed, low, high)
	return low.x.times(low.z.inverse()).bytes()
}

// clamped makes a factor of a secret: a multiple of 8, so that a point of small
// order tells nothing of it, and one with bit 254 set, as RFC 7748 asks.
func clamped(secret string) [32]byte {
	var factor [32]byte
	copy(factor[:], secret)
	factor[0] &= 0xf8
	factor[31] = factor[31]&0x7f | 0x40
	return factor
}

// swapped turns two points round if bit is 1. Without a branch, so that the
// time taken tells nothing of the secret.
func swapped(bit uint64, a point, b point) (point, point) {
	mask := -bit
	for i := range limbCount {
		x := mask & (a.x[i] ^ b.x[i])
		z := mask & (a.z[i] ^ b.z[i])
		a.x[i], b.x[i] = a.x[i]^x, b.x[i]^x
		a.z[i], b.z[i] = a.z[i]^z, b.z[i]^z
	}
	return a, b
}

func doubled(a point) point {
	sum, difference := a.x.plus(a.z), a.x.minus(a.z)
	sum, difference = sum.times(sum), difference.times(difference)
	between := sum.minus(difference)
	return point{
		x: sum.times(difference),
		z: between.times(sum.plus(between.times(number{curveNumber}))),
	}
}

// added is the sum of two points whose difference is at the place x.
func added(a point, b point, x number) point {
	one := b.x.minus(b.z).times(a.x.plus(a.z))
	other := b.x.plus(b.z).times(a.x.minus(a.z))
	sum, difference := one.plus(other), one.minus(other)
	return point{
		x: sum.times(sum),
		z: x.times(difference.times(difference)),
	}
}
