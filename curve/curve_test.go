package curve

import (
	"bytes"
	"crypto/ecdh"
	"encoding/hex"
	"math/big"
	"math/rand"
	"slices"
	"testing"

	"burrow/api"
)

// fromHex returns the key of hexadecimal digits.
func fromHex(t *testing.T, text string) api.Key {
	t.Helper()
	b, err := hex.DecodeString(text)
	if err != nil || len(b) != len(api.Key{}) {
		t.Fatalf("%s is no key", text)
	}
	return api.Key(b)
}

// randomKey returns a key with all kinds of bytes.
func randomKey(random *rand.Rand) api.Key {
	var k api.Key
	random.Read(k[:])
	return k
}

// sparseKey returns a key most of whose bytes are 0 or 255: they fill or empty whole limbs.
func sparseKey(random *rand.Rand) api.Key {
	k := randomKey(random)
	for i := range k {
		switch random.Intn(5) {
		case 0, 1:
			k[i] = 0
		case 2, 3:
			k[i] = 255
		}
	}
	return k
}

// onesKey returns the key whose bits are all 1.
func onesKey() api.Key {
	return api.Key(bytes.Repeat([]byte{255}, 32))
}

// prime returns 2^255 - 19.
func prime() *big.Int {
	p := new(big.Int).Lsh(big.NewInt(1), 255)
	return p.Sub(p, big.NewInt(19))
}

// littleNumber returns the number of bytes of which the first one is the least significant.
func littleNumber(k api.Key) *big.Int {
	slices.Reverse(k[:])
	return new(big.Int).SetBytes(k[:])
}

// littleKey returns the 32 bytes of a number below 2^256.
func littleKey(n *big.Int) api.Key {
	var k api.Key
	n.FillBytes(k[:])
	slices.Reverse(k[:])
	return k
}

// aroundPrime returns the key of p + distance.
func aroundPrime(distance int64) api.Key {
	return littleKey(new(big.Int).Add(prime(), big.NewInt(distance)))
}

// withHighest returns k with another highest bit.
func withHighest(k api.Key) api.Key {
	k[31] ^= 128
	return k
}

// plainMul follows P8.2 word for word, with exact numbers.
func plainMul(scalar, point api.Key) api.Key {
	u := new(big.Int).SetBit(littleNumber(point), 255, 0)
	return littleKey(plainLadder(littleNumber(plainClamp(scalar)), u.Mod(u, prime())))
}

// plainLadder is plainMul for a number n below 2^255, clamped or not, and a number u below p.
func plainLadder(n, u *big.Int) *big.Int {
	p := prime()
	plus := func(x, y *big.Int) *big.Int { z := new(big.Int).Add(x, y); return z.Mod(z, p) }
	minus := func(x, y *big.Int) *big.Int { z := new(big.Int).Sub(x, y); return z.Mod(z, p) }
	times := func(x, y *big.Int) *big.Int { z := new(big.Int).Mul(x, y); return z.Mod(z, p) }
	x1, x2, z2, x3, z3 := u, big.NewInt(1), big.NewInt(0), u, big.NewInt(1)
	for t := 254; t >= 0; t-- {
		if t < 254 && n.Bit(t) != n.Bit(t+1) || t == 254 && n.Bit(t) != 0 {
			x2, x3, z2, z3 = x3, x2, z3, z2
		}
		a, b := plus(x2, z2), minus(x2, z2)
		aa, bb := times(a, a), times(b, b)
		e, c, d := minus(aa, bb), plus(x3, z3), minus(x3, z3)
		da, cb := times(d, a), times(c, b)
		x3 = times(plus(da, cb), plus(da, cb))
		z3 = times(x1, times(minus(da, cb), minus(da, cb)))
		x2 = times(aa, bb)
		z2 = times(e, plus(aa, times(big.NewInt(121665), e)))
	}
	if n.Bit(0) == 1 {
		x2, z2 = x3, z3
	}
	power := new(big.Int).Exp(z2, new(big.Int).Sub(p, big.NewInt(2)), p)
	return times(x2, power)
}

// plainClamp follows P8.1 word for word.
func plainClamp(k api.Key) api.Key {
	n := littleNumber(k)
	for _, bit := range []int{0, 1, 2, 255} {
		n.SetBit(n, bit, 0)
	}
	return littleKey(n.SetBit(n, 254, 1))
}

func checkMul(t *testing.T, scalar, point api.Key) {
	t.Helper()
	if got, want := Mul(scalar, point), plainMul(scalar, point); got != want {
		t.Errorf("Mul(%x, %x) is %x, not %x", scalar, point, got, want)
	}
}

// P8.1: single bits, and all bits but one.
func TestClampEachBit(t *testing.T) {
	if got, want := Clamp(api.Key{}), (api.Key{31: 64}); got != want {
		t.Errorf("zeros: %x", got)
	}
	ones := onesKey()
	full := ones
	full[0], full[31] = 248, 127
	if got := Clamp(ones); got != full {
		t.Errorf("ones: %x", got)
	}
	for bit := range 256 {
		one, without, wantOne, wantWithout := api.Key{}, ones, api.Key{31: 64}, full
		one[bit/8] |= 1 << (bit % 8)
		without[bit/8] &^= 1 << (bit % 8)
		if bit >= 3 && bit != 255 {
			wantOne[bit/8] |= 1 << (bit % 8)
		}
		if bit != 254 {
			wantWithout[bit/8] &^= 1 << (bit % 8)
		}
		if got := Clamp(one); got != wantOne {
			t.Errorf("bit %d: %x, not %x", bit, got, wantOne)
		}
		if got := Clamp(without); got != wantWithout {
			t.Errorf("all bits but %d: %x, not %x", bit, got, wantWithout)
		}
	}
}

// P8.1, for keys with all kinds of bytes.
func TestClampAgainstTerms(t *testing.T) {
	random := rand.New(rand.NewSource(1))
	for range 500 {
		k := randomKey(random)
		got := Clamp(k)
		if want := plainClamp(k); got != want {
			t.Errorf("Clamp(%x) is %x, not %x", k, got, want)
		}
		if Clamp(got) != got {
			t.Errorf("%x is changed by a second Clamp", got)
		}
	}
}

// P8.2: the examples of RFC 7748, 5.2.
func TestMulExamples(t *testing.T) {
	tests := []struct{ scalar, point, want string }{
		{"a546e36bf0527c9d3b16154b82465edd62144c0ac1fc5a18506a2244ba449ac4",
			"e6db6867583030db3594c1a424b15f7c726624ec26b3353b10a903a6d0ab1c4c",
			"c3da55379de9c6908e94ea4df28d084f32eccf03491c71f754b4075577a28552"},
		{"4b66e9d4d1b4673c5ad22691957d6af5c11b6421e0ea01d42ca4169e7918ba0d",
			"e5210f12786811d3f4b7959d0538ae2c31dbe7106fc03c3efc4cd549c715a493",
			"95cbde9476e8907d7aade45cb4b873f88b595a68799fa152e6f8f7647aac7957"},
	}
	for _, test := range tests {
		got := Mul(fromHex(t, test.scalar), fromHex(t, test.point))
		if got != fromHex(t, test.want) {
			t.Errorf("%x, not %s", got, test.want)
		}
	}
}

// P8.2: the repeated products of RFC 7748, 5.2.
func TestMulRepeated(t *testing.T) {
	scalar, point := api.Key{9}, api.Key{9}
	for i := 1; i <= 1000; i++ {
		scalar, point = Mul(scalar, point), scalar
		if i == 1 && scalar != fromHex(t, "422c8e7a6227d7bca1350b3e2bb7279f7897b87bb6854b783c60e80311ae3079") {
			t.Errorf("once: %x", scalar)
		}
	}
	if scalar != fromHex(t, "684cf59ba83309552800ef566f2f4d3c1c3887c49360e3875f2eb94d99532c51") {
		t.Errorf("1000 times: %x", scalar)
	}
}

// P8.2, for scalars and points with all kinds of bytes, for those of which most bytes are 0 or 255.
func TestMulAgainstTerms(t *testing.T) {
	random := rand.New(rand.NewSource(2))
	for range 50 {
		checkMul(t, randomKey(random), randomKey(random))
		checkMul(t, sparseKey(random), randomKey(random))
		checkMul(t, randomKey(random), sparseKey(random))
		checkMul(t, sparseKey(random), sparseKey(random))
	}
}

// P8.2: the smallest and the greatest numbers, and those around the modulus.
func TestMulOfExtremes(t *testing.T) {
	random := rand.New(rand.NewSource(3))
	scalars := []api.Key{{}, onesKey(), {31: 63}, {31: 64}, {0: 8}, randomKey(random)}
	points := []api.Key{onesKey(), withHighest(onesKey()), {31: 64}, {31: 128}}
	for distance := int64(-3); distance <= 18; distance++ {
		points = append(points, aroundPrime(distance))
	}
	for small := range byte(12) {
		points = append(points, api.Key{small}, api.Key{31: small})
	}
	for _, scalar := range scalars {
		for _, point := range points {
			checkMul(t, scalar, point)
			checkMul(t, scalar, withHighest(point))
		}
	}
}

// P8.2: points with single bits, and points in which a limb begins or ends.
func TestMulOfSingleBits(t *testing.T) {
	random := rand.New(rand.NewSource(4))
	one := big.NewInt(1)
	for bit := range uint(256) {
		power := new(big.Int).Lsh(one, bit)
		checkMul(t, randomKey(random), littleKey(power))
		checkMul(t, littleKey(power), randomKey(random))
		if bit%limbBits == 0 {
			checkMul(t, randomKey(random), littleKey(new(big.Int).Sub(power, one)))
			checkMul(t, randomKey(random), littleKey(new(big.Int).Add(power, one)))
		}
	}
}

// P8.2 and P8.3, compared with the standard library.
func TestAgainstLibrary(t *testing.T) {
	random := rand.New(rand.NewSource(5))
	for i := range 1500 {
		scalar, point := randomKey(random), randomKey(random)
		if i%3 == 0 {
			scalar, point = sparseKey(random), sparseKey(random)
		}
		private, err := ecdh.X25519().NewPrivateKey(scalar[:])
		if err != nil {
			t.Fatal(err)
		}
		public, err := ecdh.X25519().NewPublicKey(point[:])
		if err != nil {
			t.Fatal(err)
		}
		want, err := private.ECDH(public)
		if err != nil {
			t.Fatal(err)
		}
		if got, failed := Share(scalar, point); failed != api.OK || !bytes.Equal(got[:], want) {
			t.Errorf("Share(%x, %x) is %x, %d, not %x", scalar, point, got, failed, want)
		}
		if got := Public(scalar); !bytes.Equal(got[:], private.PublicKey().Bytes()) {
			t.Errorf("Public(%x) is %x", scalar, got)
		}
	}
}

// P8.3: the example of RFC 7748, 6.1.
func TestShareExample(t *testing.T) {
	alice := fromHex(t, "77076d0a7318a57d3c16c17251b26645df4c2f87ebc0992ab177fba51db92c2a")
	bob := fromHex(t, "5dab087e624a8a4b79e17f8b83800ee66f3bb1292618b6fd1c2f8b27ff88e0eb")
	alicePublic := fromHex(t, "8520f0098930a754748b7ddcb43ef75a0dbf3a0d26381af4eba4a98eaa9b4e6a")
	bobPublic := fromHex(t, "de9edb7d7b7dc1b4d35b61c2ece435373f8343c85b78674dadfc7e146f882b4f")
	secret := fromHex(t, "4a5d9d5ba4ce2de1728e3bf480350f25e07e21c947d19e3376f09b3c1e161742")
	if got := Public(alice); got != alicePublic {
		t.Errorf("the public key of Alice is %x", got)
	}
	if got := Public(bob); got != bobPublic {
		t.Errorf("the public key of Bob is %x", got)
	}
	if got, err := Share(alice, bobPublic); err != api.OK || got != secret {
		t.Errorf("Alice has %x, %d", got, err)
	}
	if got, err := Share(bob, alicePublic); err != api.OK || got != secret {
		t.Errorf("Bob has %x, %d", got, err)
	}
}

// P8.3: Public is a product of the point 9.
func TestPublic(t *testing.T) {
	random := rand.New(rand.NewSource(6))
	for _, scalar := range []api.Key{{}, onesKey(), {1}, {31: 128}, randomKey(random), sparseKey(random)} {
		if got, want := Public(scalar), plainMul(scalar, api.Key{9}); got != want || got != Mul(scalar, api.Key{9}) {
			t.Errorf("Public(%x) is %x, not %x", scalar, got, want)
		}
	}
}

// smallPoints returns the points, with and without the highest bit, whose products with all scalars are zero: their order divides 8.
func smallPoints(t *testing.T) []api.Key {
	points := []api.Key{
		{}, {1}, aroundPrime(-1), aroundPrime(0), aroundPrime(1),
		fromHex(t, "e0eb7a7c3b41b8ae1656e3faf19fc46ada098deb9c32b1fd866205165f49b800"),
		fromHex(t, "5f9c95bca3508c24b1d0b1559c83ef5b04445cc4581c8e86d8224eddd09f1157"),
	}
	for _, point := range slices.Clone(points) {
		points = append(points, withHighest(point))
	}
	return points
}

// P8.3 and P8.4: the product is zero, and Share says so.
func TestShareZero(t *testing.T) {
	random := rand.New(rand.NewSource(7))
	scalars := []api.Key{{}, onesKey(), {8}, randomKey(random), sparseKey(random)}
	for _, point := range smallPoints(t) {
		for _, scalar := range scalars {
			if got := Mul(scalar, point); got != (api.Key{}) {
				t.Errorf("Mul(%x, %x) is %x", scalar, point, got)
			}
			if got, err := Share(scalar, point); err != api.ErrZero || got != (api.Key{}) {
				t.Errorf("Share(%x, %x) is %x, %d", scalar, point, got, err)
			}
		}
	}
}

// P8.3: points close to those of TestShareZero have secrets.
func TestShareNotZero(t *testing.T) {
	random := rand.New(rand.NewSource(8))
	points := []api.Key{{2}, {0, 1}, {31: 1}, {31: 64}, aroundPrime(-2), aroundPrime(2), aroundPrime(18)}
	for _, point := range points {
		for _, point := range []api.Key{point, withHighest(point)} {
			for _, scalar := range []api.Key{{}, onesKey(), randomKey(random)} {
				got, err := Share(scalar, point)
				if want := plainMul(scalar, point); err != api.OK || got != want || want == (api.Key{}) {
					t.Errorf("Share(%x, %x) is %x, %d, not %x", scalar, point, got, err, want)
				}
			}
		}
	}
}

// groupOrders returns the orders of the largest groups of points of the curve and of its twist that are prime.
func groupOrders() []*big.Int {
	curve, _ := new(big.Int).SetString("27742317777372353535851937790883648493", 10)
	twist, _ := new(big.Int).SetString("-55484635554744707071703875581767296995", 10)
	one := big.NewInt(1)
	return []*big.Int{curve.Add(curve, new(big.Int).Lsh(one, 252)), twist.Add(twist, new(big.Int).Lsh(one, 253))}
}

// pointFor returns a point whose product with the scalar is secret, if it finds one.
func pointFor(scalar, secret api.Key) (api.Key, bool) {
	for _, order := range groupOrders() {
		inverse := new(big.Int).ModInverse(littleNumber(plainClamp(scalar)), order)
		point := littleKey(plainLadder(inverse, littleNumber(secret)))
		if plainMul(scalar, point) == secret {
			return point, true
		}
	}
	return api.Key{}, false
}

// searchSecret returns a secret that ends with a byte of its own at the place, and has the byte below at all places ahead of it, and the point whose product with the scalar it is.
func searchSecret(t *testing.T, scalar api.Key, place int, below byte) (secret, point api.Key) {
	t.Helper()
	for i := range place {
		secret[i] = below
	}
	for value := byte(2); value < 128; value++ {
		secret[place] = value
		if point, ok := pointFor(scalar, secret); ok {
			return secret, point
		}
	}
	t.Fatalf("no secret that ends with byte %d", place)
	return secret, point
}

// P8.2 and P8.3: one byte that is not zero makes a secret, wherever it is; a secret may begin with many bits 1.
func TestShareOfChosenSecrets(t *testing.T) {
	scalar := randomKey(rand.New(rand.NewSource(9)))
	for place := range 32 {
		for _, below := range []byte{0, 255} {
			secret, point := searchSecret(t, scalar, place, below)
			if got, err := Share(scalar, point); err != api.OK || got != secret {
				t.Errorf("Share(%x, %x) is %x, %d, not %x", scalar, point, got, err, secret)
			}
		}
	}
}

// P8.4: both owners have the same secret, which is another one for other owners.
func TestShareAgrees(t *testing.T) {
	random := rand.New(rand.NewSource(10))
	scalars := []api.Key{{}, {8}, onesKey(), {1, 2, 3}, {7, 31: 9}}
	for range 15 {
		scalars = append(scalars, randomKey(random), sparseKey(random))
	}
	seen := map[api.Key]bool{}
	for i, a := range scalars {
		for _, b := range scalars[:i] {
			secret := Mul(a, Public(b))
			if other := Mul(b, Public(a)); other != secret {
				t.Errorf("%x and %x have %x and %x", a, b, secret, other)
			}
			seen[secret] = true
		}
	}
	if want := len(scalars) * (len(scalars) - 1) / 2; len(seen) != want {
		t.Errorf("%d different secrets, not %d", len(seen), want)
	}
}

// P8.4: the bits that Clamp changes make no difference, every other bit does.
func TestMulClamps(t *testing.T) {
	random := rand.New(rand.NewSource(11))
	scalar, point := randomKey(random), randomKey(random)
	product := Mul(scalar, point)
	if Mul(Clamp(scalar), point) != product {
		t.Error("the clamped scalar has another product")
	}
	for bit := range 256 {
		other := scalar
		other[bit/8] ^= 1 << (bit % 8)
		changed := bit < 3 || bit >= 254
		if same := Mul(other, point) == product; same != changed {
			t.Errorf("bit %d of the scalar: makes no difference: %v", bit, same)
		}
		if same := Public(other) == Public(scalar); same != changed {
			t.Errorf("bit %d of a private key: makes no difference: %v", bit, same)
		}
	}
}

// P8.4: the highest bit of the point makes no difference, every other bit does.
func TestMulOfEachPointBit(t *testing.T) {
	random := rand.New(rand.NewSource(12))
	scalar, point := randomKey(random), randomKey(random)
	product := Mul(scalar, point)
	for bit := range 256 {
		other := point
		other[bit/8] ^= 1 << (bit % 8)
		if same := Mul(scalar, other) == product; same != (bit == 255) {
			t.Errorf("bit %d of the point: makes no difference: %v", bit, same)
		}
	}
}

// P8.4: the points p to 2^255 - 1 are the points 0 to 18; p + 19 is none of them, but the point 0 with the highest bit.
func TestMulModulo(t *testing.T) {
	random := rand.New(rand.NewSource(13))
	for _, scalar := range []api.Key{{}, onesKey(), randomKey(random), sparseKey(random)} {
		for small := range byte(19) {
			product, point := Mul(scalar, api.Key{small}), aroundPrime(int64(small))
			if got := Mul(scalar, point); got != product {
				t.Errorf("p + %d: %x, not %x", small, got, product)
			}
			if got := Mul(scalar, withHighest(point)); got != product {
				t.Errorf("p + %d with the highest bit: %x, not %x", small, got, product)
			}
		}
		if got := Mul(scalar, aroundPrime(19)); got != (api.Key{}) {
			t.Errorf("2^255: %x", got)
		}
	}
	if Public(api.Key{1}) != Mul(api.Key{1}, aroundPrime(9)) {
		t.Error("p + 9 is not the point 9")
	}
}

// R3 and R4: a second call returns the same, and the arguments stay as they are.
func TestSecondCall(t *testing.T) {
	random := rand.New(rand.NewSource(14))
	scalar, point := randomKey(random), randomKey(random)
	keptScalar, keptPoint := scalar, point
	clamped, product, public := Clamp(scalar), Mul(scalar, point), Public(scalar)
	if _, err := Share(point, api.Key{}); err != api.ErrZero {
		t.Errorf("the point 0: %d", err)
	}
	if secret, err := Share(scalar, point); err != api.OK || secret != product {
		t.Errorf("Share returns %x, %d", secret, err)
	}
	if Clamp(scalar) != clamped || Mul(scalar, point) != product || Public(scalar) != public {
		t.Error("a second call returns something else")
	}
	if scalar != keptScalar || point != keptPoint {
		t.Error("an argument was changed")
	}
}

func BenchmarkMul(b *testing.B) {
	random := rand.New(rand.NewSource(15))
	scalar, point := randomKey(random), randomKey(random)
	for b.Loop() {
		Mul(scalar, point)
	}
}
