package curve

import (
	"math/big"
	"math/rand"
	"testing"

	"burrow/api"
)

// greatest has the greatest limbs of a small number.
var greatest = number{limbMask + fold, limbMask, limbMask, limbMask, limbMask}

// limbValue returns the value of a number with limbs of any size.
func limbValue(n number) *big.Int {
	value := new(big.Int)
	for i := limbs - 1; i >= 0; i-- {
		value.Lsh(value, limbBits)
		value.Add(value, new(big.Int).SetUint64(n[i]))
	}
	return value
}

// checkNumber compares n with value modulo p.
func checkNumber(t *testing.T, what string, n number, value *big.Int) {
	t.Helper()
	got, want := limbValue(n), new(big.Int).Mod(value, prime())
	if got.Mod(got, prime()); got.Cmp(want) != 0 {
		t.Errorf("%s is %x, not %x", what, got, want)
	}
}

// checkLimbs fails if a limb exceeds that of limits.
func checkLimbs(t *testing.T, what string, n, limits number) {
	t.Helper()
	for i, limb := range n {
		if limb > limits[i] {
			t.Errorf("%s: limb %d is %x", what, i, limb)
		}
	}
}

// alike returns the number whose limbs are all the same.
func alike(limb uint64) number {
	return number{limb, limb, limb, limb, limb}
}

// smallNumbers returns small numbers, among them those with the least and the greatest limbs.
func smallNumbers() []number {
	random := rand.New(rand.NewSource(1))
	numbers := []number{{}, {1}, greatest, alike(limbMask), alike(1), {limbMask + fold}, {0, 0, 0, 0, limbMask}}
	for range 10 {
		var n number
		for i := range n {
			n[i] = []uint64{0, limbMask, random.Uint64() & limbMask}[random.Intn(3)]
		}
		numbers = append(numbers, n)
	}
	return numbers
}

// The sums and differences of small numbers are right, and small enough for multiply.
func TestAddAndSubtract(t *testing.T) {
	limits := alike(1<<53 - 1)
	for _, x := range smallNumbers() {
		for _, y := range smallNumbers() {
			sum, difference := add(x, y), subtract(x, y)
			checkNumber(t, "the sum", sum, new(big.Int).Add(limbValue(x), limbValue(y)))
			checkNumber(t, "the difference", difference, new(big.Int).Sub(limbValue(x), limbValue(y)))
			checkLimbs(t, "the sum", sum, limits)
			checkLimbs(t, "the difference", difference, limits)
		}
	}
}

// The products of small numbers, and of numbers with the greatest limbs that multiply allows, are right and small.
func TestMultiply(t *testing.T) {
	numbers := append(smallNumbers(), alike(1<<53-1), number{1<<53 - 1}, number{4: 1<<53 - 1}, alike(1<<52))
	for _, x := range numbers {
		for _, y := range numbers {
			product := multiply(x, y)
			checkNumber(t, "the product", product, new(big.Int).Mul(limbValue(x), limbValue(y)))
			checkLimbs(t, "the product", product, greatest)
		}
	}
}

func TestInvert(t *testing.T) {
	exponent := new(big.Int).Sub(prime(), big.NewInt(2))
	for _, n := range smallNumbers() {
		inverse := invert(n)
		checkNumber(t, "the inverse", inverse, new(big.Int).Exp(limbValue(n), exponent, prime()))
		checkLimbs(t, "the inverse", inverse, greatest)
	}
}

// The bytes of small numbers, also around p and 2^255.
func TestBytesOf(t *testing.T) {
	numbers := smallNumbers()
	for i := range uint64(2 * fold) {
		last := greatest
		last[0] -= i
		numbers = append(numbers, last, number{limbMask + fold - i, 0, 5})
	}
	for _, n := range numbers {
		want := littleKey(new(big.Int).Mod(limbValue(n), prime()))
		if got := bytesOf(n); got != want {
			t.Errorf("the bytes of %x are %x, not %x", n, got, want)
		}
	}
}

// Each bit of a point but the highest one is a bit of its number, which is small.
func TestNumberOf(t *testing.T) {
	for bit := range uint(256) {
		power := new(big.Int).Lsh(big.NewInt(1), bit)
		n := numberOf(littleKey(power))
		if bit == 255 {
			power.SetInt64(0)
		}
		if limbValue(n).Cmp(power) != 0 {
			t.Errorf("bit %d: %x", bit, n)
		}
	}
	n := numberOf(onesKey())
	if n != alike(limbMask) {
		t.Errorf("ones: %x", n)
	}
	if n := numberOf(api.Key{}); n != (number{}) {
		t.Errorf("zeros: %x", n)
	}
}
