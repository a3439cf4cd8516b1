package curve

import (
	"math/bits"

	"burrow/api"
	"burrow/codec"
)

const (
	wordBytes = 8
	wordBits  = 64
	limbs     = 5
	limbBits  = 51
	limbMask  = 1<<limbBits - 1
	// fold is what 2^255, which is the unit above the highest limb, is modulo p = 2^255 - 19.
	fold = 19
)

// The limbs of 2 p.
const (
	twiceLowest = 2 * (limbMask + 1 - fold)
	twiceOther  = 2 * limbMask
)

// number is a sum of limbs, each of which counts 2^51 times as much as the one ahead of it; it stands for its remainder modulo p. It is called small if its limbs have 51 bits, except that the lowest one may exceed them by fold. What numberOf and multiply return is small.
type number [limbs]uint64

// numberOf returns the number of a point without its highest bit.
func numberOf(point api.Key) number {
	w0 := codec.ReadLittle(point[:8])
	w1 := codec.ReadLittle(point[8:16])
	w2 := codec.ReadLittle(point[16:24])
	w3 := codec.ReadLittle(point[24:])
	return number{
		w0 & limbMask,
		(w0>>51 | w1<<13) & limbMask,
		(w1>>38 | w2<<26) & limbMask,
		(w2>>25 | w3<<39) & limbMask,
		w3 >> 12 & limbMask,
	}
}

// bytesOf returns the bytes of a small n modulo p.
func bytesOf(n number) api.Key {
	// n is below 2 p, and carry takes p away from what reaches 2^255. Hence it turns n + 19 into the remainder of n, plus 19, without a branch whose time would tell about n; its limbs have 51 bits.
	raised := n
	raised[0] += fold
	r := carry(raised)
	words := [...]uint64{
		r[0] | r[1]<<51,
		r[1]>>13 | r[2]<<38,
		r[2]>>26 | r[3]<<25,
		r[3]>>39 | r[4]<<12,
	}
	var b api.Key
	under := uint64(fold)
	for i := range words {
		words[i], under = bits.Sub64(words[i], under, 0)
		copy(b[i*wordBytes:], codec.Little(words[i], wordBytes))
	}
	return b
}

// add returns x + y for small numbers. Its limbs are below 2^53, as multiply needs them.
func add(x, y number) number {
	sum := x
	for i := range sum {
		sum[i] += y[i]
	}
	return sum
}

// subtract returns x - y for small numbers. Because 2 p is added, no limb is below 0; all of them are below 2^53, as multiply needs them.
func subtract(x, y number) number {
	difference := number{twiceLowest, twiceOther, twiceOther, twiceOther, twiceOther}
	for i := range difference {
		difference[i] += x[i] - y[i]
	}
	return difference
}

// multiply returns x y as a small number. The limbs of x and y are below 2^53, so each sum of products is below 2^113, and that of the highest limb, in which nothing is folded, is below 2^109: what is carried has less than 64 bits, also when it is folded.
func multiply(x, y number) number {
	var product number
	var over uint64
	for k := range product {
		high, low := uint64(0), over
		for i := range x {
			j, factor := k-i, uint64(1)
			if j < 0 {
				j, factor = j+limbs, fold
			}
			above, below := bits.Mul64(x[i], factor*y[j])
			sum, more := bits.Add64(low, below, 0)
			high, low = high+above+more, sum
		}
		product[k] = low & limbMask
		over = high<<(wordBits-limbBits) | low>>limbBits
	}
	product[0] += fold * over
	return carry(product)
}

// carry moves what a limb has beyond 51 bits to the next one, and folds it from the highest one into the lowest one.
func carry(n number) number {
	carried := n
	var over uint64
	for i := range carried {
		carried[i] += over
		over = carried[i] >> limbBits
		carried[i] &= limbMask
	}
	carried[0] += fold * over
	return carried
}

// invert returns n^(p - 2), which is 1/n, or 0 for 0. The names tell exponents: n9 is n^9, and ones5 is n^(2^5 - 1), whose exponent is five bits 1. That of the result is 250 bits 1 and 01011.
func invert(n number) number {
	n2 := multiply(n, n)
	n9 := multiply(square(n2, 2), n)
	n11 := multiply(n9, n2)
	ones5 := multiply(square(n11, 1), n9)
	ones10 := multiply(square(ones5, 5), ones5)
	ones20 := multiply(square(ones10, 10), ones10)
	ones40 := multiply(square(ones20, 20), ones20)
	ones50 := multiply(square(ones40, 10), ones10)
	ones100 := multiply(square(ones50, 50), ones50)
	ones200 := multiply(square(ones100, 100), ones100)
	ones250 := multiply(square(ones200, 50), ones50)
	return multiply(square(ones250, 5), n11)
}

// square returns n^(2^times): the exponent 1 with so many bits 0 behind it.
func square(n number, times int) number {
	power := n
	for range times {
		power = multiply(power, power)
	}
	return power
}
