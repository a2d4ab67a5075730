// Package limb is layer 1: numbers below 2^256, in four digits of 64 bits, the lowest first. Nothing is kept.
package limb

import (
	"math/bits"

	"witan/api"
)

// Add tells the sum modulo 2^256, and 1 as carry, if it was 2^256 or more.
func Add(a, b api.Num) (sum api.Num, carry uint64) {
	for i := range sum {
		sum[i], carry = bits.Add64(a[i], b[i], carry)
	}
	return sum, carry
}

// Sub tells the difference modulo 2^256, and 1 as borrow, if a is below b.
func Sub(a, b api.Num) (rest api.Num, borrow uint64) {
	for i := range rest {
		rest[i], borrow = bits.Sub64(a[i], b[i], borrow)
	}
	return rest, borrow
}

// Mul tells the product: hi times 2^256 and lo. The rows stand one by one, without arrays between: all layers above wait for this call.
func Mul(a, b api.Num) (lo, hi api.Num) {
	lo0, h0, h1, h2, h3 := addRow(0, 0, 0, 0, a[0], b)
	lo1, h0, h1, h2, h3 := addRow(h0, h1, h2, h3, a[1], b)
	lo2, h0, h1, h2, h3 := addRow(h0, h1, h2, h3, a[2], b)
	lo3, h0, h1, h2, h3 := addRow(h0, h1, h2, h3, a[3], b)
	return api.Num{lo0, lo1, lo2, lo3}, api.Num{h0, h1, h2, h3}
}

// addRow tells the four digits from s0 on, and digit times b: in five digits, the lowest first.
func addRow(s0, s1, s2, s3, digit uint64, b api.Num) (t0, t1, t2, t3, t4 uint64) {
	t0, carry := mulAdd(digit, b[0], s0, 0)
	t1, carry = mulAdd(digit, b[1], s1, carry)
	t2, carry = mulAdd(digit, b[2], s2, carry)
	t3, t4 = mulAdd(digit, b[3], s3, carry)
	return t0, t1, t2, t3, t4
}

// mulAdd tells x times y and both of c and d, in two digits: it is at most 2^128 - 1, so that high never wraps.
func mulAdd(x, y, c, d uint64) (low, high uint64) {
	high, low = bits.Mul64(x, y)
	low, carry := bits.Add64(low, c, 0)
	high += carry
	low, carry = bits.Add64(low, d, 0)
	return low, high + carry
}

// Cmp tells -1, 0, 1: a is below b, the same, above.
func Cmp(a, b api.Num) int {
	for i := len(a) - 1; i >= 0; i-- {
		if a[i] < b[i] {
			return -1
		}
		if a[i] > b[i] {
			return 1
		}
	}
	return 0
}

// Bit tells the bit of 2^i: 0, if i is below 0 or above 255.
func Bit(a api.Num, i int) int {
	if i < 0 || i > 255 {
		return 0
	}
	return int(a[i/64] >> (i % 64) & 1)
}

// Len tells the least n with a below 2^n.
func Len(a api.Num) int {
	for i := len(a) - 1; i >= 0; i-- {
		if a[i] != 0 {
			return 64*i + bits.Len64(a[i])
		}
	}
	return 0
}

// Of tells the number that 32 bytes are, the highest first.
func Of(b [32]byte) api.Num {
	var a api.Num
	for i, x := range b {
		place := 31 - i
		a[place/8] |= uint64(x) << (8 * (place % 8))
	}
	return a
}

// Bytes tells a in 32 bytes, the highest first.
func Bytes(a api.Num) [32]byte {
	var b [32]byte
	for i := range b {
		place := 31 - i
		b[i] = byte(a[place/8] >> (8 * (place % 8)))
	}
	return b
}

// Mod tells what is left of hi times 2^256 and lo, divided by m: ErrArg, if m is 0.
func Mod(hi, lo, m api.Num) (api.Num, api.Errno) {
	if m == (api.Num{}) {
		return api.Num{}, api.ErrArg
	}
	left := hi
	if Cmp(hi, m) >= 0 {
		left = takeBits(api.Num{}, hi, m)
	}
	return takeBits(left, lo, m), api.OK
}

// takeBits tells what is left of left times 2^256 and a, divided by m, where left is below m.
func takeBits(left, a, m api.Num) api.Num {
	for i := 255; i >= 0; i-- {
		left = takeBit(left, uint64(Bit(a, i)), m)
	}
	return left
}

// takeBit tells what is left of twice left and bit, divided by m, where left is below m. As that is below twice m, m is taken away at most once; a carry out of the doubling is what that Sub borrows.
func takeBit(left api.Num, bit uint64, m api.Num) api.Num {
	twice, carry := Add(left, left)
	twice[0] |= bit
	rest, borrow := Sub(twice, m)
	if carry == 0 && borrow == 1 {
		return twice
	}
	return rest
}
