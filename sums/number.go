package sums

import "math/bits"

const (
	limbCount = 5
	limbBits  = 51
	limbMask  = 1<<limbBits - 1
	// What a carry out of the highest limb is worth: 2^255 is 19 there.
	foldBy = 19
)

// number is one modulo the prime 2^255 - 19, in limbs of 51 bits, the lowest
// first. Each method takes and answers limbs below 2^51, but the lowest, which
// may be above by less than 2^8: so no sum here overflows, and a number stays
// below twice the prime.
type number [limbCount]uint64

// readNumber leaves out the highest bit of 32 bytes, and takes numbers from the
// prime on too: RFC 7748, section 5, asks for both.
func readNumber(data [32]byte) number {
	var a number
	for i := range limbCount * limbBits {
		bit := uint64(data[i/8]>>(i%8)) & 1
		a[i/limbBits] |= bit << (i % limbBits)
	}
	return a
}

func (a number) bytes() string {
	a = a.least()
	var data [32]byte
	for i := range limbCount * limbBits {
		bit := byte(a[i/limbBits]>>(i%limbBits)) & 1
		data[i/8] |= bit << (i % 8)
	}
	return string(data[:])
}

// least takes the prime off where it is in the number: it is, if 19 more would
// reach 2^255. Without a branch, so that the time taken tells nothing.
func (a number) least() number {
	over := uint64(foldBy)
	for _, limb := range a {
		over = (limb + over) >> limbBits
	}
	carry := foldBy * over
	for i := range a {
		a[i] += carry
		carry = a[i] >> limbBits
		a[i] &= limbMask
	}
	return a
}

func (a number) plus(b number) number {
	for i := range a {
		a[i] += b[i]
	}
	return a.settled()
}

// minus adds twice the prime, so that no limb falls below 0.
func (a number) minus(b number) number {
	a[0] += 2 * (1<<limbBits - foldBy)
	for i := 1; i < limbCount; i++ {
		a[i] += 2 * limbMask
	}
	for i := range a {
		a[i] -= b[i]
	}
	return a.settled()
}

func (a number) settled() number {
	carry := uint64(0)
	for i := range a {
		a[i] += carry
		carry = a[i] >> limbBits
		a[i] &= limbMask
	}
	a[0] += foldBy * carry
	return a
}

func (a number) times(b number) number {
	var product number
	carry := uint64(0)
	for i := range product {
		high, low := uint64(0), carry
		for k := range a {
			high, low = addProduct(high, low, a[k], folded(b, i-k))
		}
		product[i] = low & limbMask
		carry = high<<(64-limbBits) | low>>limbBits
	}
	product[0] += foldBy * carry
	return product.settled()
}

// folded is the limb of b at a place, from -4 on: a place below 0 stands for
// one that went round above the highest.
func folded(b number, at int) uint64 {
	if at < 0 {
		return foldBy * b[at+limbCount]
	}
	return b[at]
}

func addProduct(high uint64, low uint64, x uint64, y uint64) (uint64, uint64) {
	productHigh, productLow := bits.Mul64(x, y)
	low, carry := bits.Add64(low, productLow, 0)
	high, _ = bits.Add64(high, productHigh, carry)
	return high, low
}

// inverse is the power with the exponent 2^255 - 21 (the prime less 2), whose
// bits are all 1, but those of 4 and 16. Of 0 it is 0.
func (a number) inverse() number {
	power := a
	for bit := 253; bit >= 0; bit-- {
		power = power.times(power)
		if bit != 2 && bit != 4 {
			power = power.times(a)
		}
	}
	return power
}
