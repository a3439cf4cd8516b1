package poly

import (
	"bytes"
	"encoding/hex"
	"math/big"
	"math/rand"
	"slices"
	"strings"
	"testing"

	"burrow/api"
)

// fromHex returns the bytes of hexadecimal digits; white space is skipped.
func fromHex(t *testing.T, text string) []byte {
	t.Helper()
	b, err := hex.DecodeString(strings.Join(strings.Fields(text), ""))
	if err != nil {
		t.Fatal(err)
	}
	return b
}

// keyOf returns the key with these halves.
func keyOf(r, s []byte) api.Key {
	var k api.Key
	copy(k[:16], r)
	copy(k[16:], s)
	return k
}

// littleNumber returns the number of bytes of which the first one is the least significant.
func littleNumber(b []byte) *big.Int {
	reversed := bytes.Clone(b)
	slices.Reverse(reversed)
	return new(big.Int).SetBytes(reversed)
}

// littleBytes returns the 16 lowest bytes of a number.
func littleBytes(n *big.Int) api.Tag {
	var tag api.Tag
	rest := new(big.Int).Mod(n, new(big.Int).Lsh(big.NewInt(1), 128))
	rest.FillBytes(tag[:])
	slices.Reverse(tag[:])
	return tag
}

// prime returns 2^130 - 5.
func prime() *big.Int {
	p := new(big.Int).Lsh(big.NewInt(1), 130)
	return p.Sub(p, big.NewInt(5))
}

// plainSum follows P3.1 word for word, with exact numbers.
func plainSum(k api.Key, data []byte) api.Tag {
	first := bytes.Clone(k[:16])
	for _, i := range []int{3, 7, 11, 15} {
		for bit := 4; bit < 8; bit++ {
			first[i] &^= 1 << bit
		}
	}
	for _, i := range []int{4, 8, 12} {
		for bit := range 2 {
			first[i] &^= 1 << bit
		}
	}
	r, s, a := littleNumber(first), littleNumber(k[16:]), new(big.Int)
	for piece := range slices.Chunk(data, 16) {
		a.Add(a, littleNumber(append(bytes.Clone(piece), 1)))
		a.Mul(a, r)
		a.Mod(a, prime())
	}
	return littleBytes(a.Add(a, s))
}

func checkSum(t *testing.T, k api.Key, data []byte) {
	t.Helper()
	if got, want := Sum(k, data), plainSum(k, data); got != want {
		t.Errorf("Sum(%x, %x) is %x, not %x", k, data, got, want)
	}
}

const contribution = `Any submission to the IETF intended by the Contributor for publication as all or part of an IETF Internet-Draft or RFC and any statement made within the context of an IETF activity is considered an "IETF Contribution". Such statements include oral statements in IETF sessions, as well as written and electronic communications made at any time or place, which are addressed to`

const jabberwocky = "'Twas brillig, and the slithy toves\nDid gyre and gimble in the wabe:\nAll mimsy were the borogoves,\nAnd the mome raths outgrabe."

// P3.1: the examples of RFC 8439, 2.5.2 and A.3.
func TestSumExamples(t *testing.T) {
	const ones = "ffffffffffffffffffffffffffffffff"
	const zeros = "00000000000000000000000000000000"
	tests := []struct{ name, r, s, data, want string }{
		{"2.5.2", "85d6be7857556d337f4452fe42d506a8", "0103808afb0db2fd4abff6af4149f51b",
			hex.EncodeToString([]byte("Cryptographic Forum Research Group")), "a8061dc1305136c6c22b8baf0c0127a9"},
		{"A.3, 1", "", "", zeros + zeros + zeros + zeros, zeros},
		{"A.3, 2", "", "36e5f6b5c5e06070f0efca96227a863e",
			hex.EncodeToString([]byte(contribution)), "36e5f6b5c5e06070f0efca96227a863e"},
		{"A.3, 3", "36e5f6b5c5e06070f0efca96227a863e", "",
			hex.EncodeToString([]byte(contribution)), "f3477e7cd95417af89a6b8794c310cf0"},
		{"A.3, 4", "1c9240a5eb55d38af333888604f6b5f0", "473917c1402b80099dca5cbc207075c0",
			hex.EncodeToString([]byte(jabberwocky)), "4541669a7eaaee61e708dc7cbcc5eb62"},
		{"A.3, 5", "02", "", ones, "03000000000000000000000000000000"},
		{"A.3, 6", "02", ones, "02000000000000000000000000000000", "03000000000000000000000000000000"},
		{"A.3, 7", "01", "", ones + "f0ffffffffffffffffffffffffffffff" + "11000000000000000000000000000000",
			"05000000000000000000000000000000"},
		{"A.3, 8", "01", "", ones + "fbfefefefefefefefefefefefefefefe" + "01010101010101010101010101010101", zeros},
		{"A.3, 9", "02", "", "fdffffffffffffffffffffffffffffff", "faffffffffffffffffffffffffffffff"},
		{"A.3, 10", "0100000000000000 0400000000000000", "", `
			e33594d7505e43b90000000000000000 3394d7505e4379cd0100000000000000
			00000000000000000000000000000000 01000000000000000000000000000000`, "14000000000000005500000000000000"},
		{"A.3, 11", "0100000000000000 0400000000000000", "", `
			e33594d7505e43b90000000000000000 3394d7505e4379cd0100000000000000
			00000000000000000000000000000000`, "13000000000000000000000000000000"},
	}
	for _, test := range tests {
		k := keyOf(fromHex(t, test.r), fromHex(t, test.s))
		got := Sum(k, fromHex(t, test.data))
		if want := fromHex(t, test.want); !bytes.Equal(got[:], want) {
			t.Errorf("%s: %x, not %x", test.name, got, want)
		}
	}
}

// P3.1: small numbers, whose results can be seen.
func TestSumOfSmallNumbers(t *testing.T) {
	tests := []struct {
		r, s byte
		data []byte
		want api.Tag
	}{
		{1, 0, []byte{5}, api.Tag{5, 1}},           // 5 + 256
		{2, 0, []byte{0}, api.Tag{0, 2}},           // 2 * 256
		{1, 255, []byte{5}, api.Tag{4, 2}},         // 261 + 255
		{1, 0, make([]byte, 15), api.Tag{15: 1}},   // 2^120
		{1, 0, make([]byte, 16), api.Tag{}},        // 2^128
		{1, 7, make([]byte, 17), api.Tag{7, 1}},    // 2^128 + 2^8 + 7
		{4, 0, make([]byte, 16), api.Tag{5}},       // 4 * 2^128 is 2^130
		{4, 0, make([]byte, 32), api.Tag{5*4 + 5}}, // (5 + 2^128) * 4
	}
	for _, test := range tests {
		if got := Sum(api.Key{0: test.r, 16: test.s}, test.data); got != test.want {
			t.Errorf("r %d, s %d, %x: %x, not %x", test.r, test.s, test.data, got, test.want)
		}
	}
}

// lengths has the lengths around the ends of pieces.
var lengths = []int{0, 1, 2, 7, 8, 9, 15, 16, 17, 31, 32, 33, 47, 48, 49, 255, 256, 257, api.MaxPlain, api.MaxDatagram}

// P3.1, for keys and data with all kinds of bytes.
func TestSumAgainstTerms(t *testing.T) {
	random := rand.New(rand.NewSource(1))
	for _, length := range lengths {
		for range 50 {
			var k api.Key
			data := make([]byte, length)
			random.Read(k[:])
			random.Read(data)
			checkSum(t, k, data)
		}
	}
}

// P3.1, for keys and data with many bits 1, which carry most, and with single bits.
func TestSumOfExtremes(t *testing.T) {
	ones := bytes.Repeat([]byte{255}, 1<<16)
	full := keyOf(ones[:16], ones[:16])
	keys := []api.Key{{}, full, keyOf(ones[:16], nil), keyOf(nil, ones[:16]), keyOf([]byte{1}, ones[:16])}
	for bit := range 128 {
		var r [16]byte
		r[bit/8] = 1 << (bit % 8)
		keys = append(keys, keyOf(r[:], nil), keyOf(r[:], ones[:16]))
	}
	for _, k := range keys {
		for _, length := range []int{1, 15, 16, 17, 32, 48, 64, 100} {
			checkSum(t, k, ones[:length])
			checkSum(t, k, make([]byte, length))
		}
	}
	if got, want := Sum(full, ones), plainSum(full, ones); got != want {
		t.Errorf("%d bytes 255: %x, not %x", len(ones), got, want)
	}
}

// P3.1, for bytes of which most are 0 or 255: they fill or empty whole limbs.
func TestSumOfFullLimbs(t *testing.T) {
	random := rand.New(rand.NewSource(2))
	sparse := func(b []byte) {
		for i := range b {
			switch random.Intn(5) {
			case 0, 1:
				b[i] = 0
			case 2, 3:
				b[i] = 255
			default:
				b[i] = byte(random.Intn(256))
			}
		}
	}
	for range 5000 {
		var k api.Key
		data := make([]byte, random.Intn(100))
		sparse(k[:])
		sparse(data)
		checkSum(t, k, data)
	}
}

// P3.1: where the sum passes 2^130 - 5, and where it passes 2^130. With r = 1 it is that of the numbers of three pieces: 3 * 2^128 and what the pieces contain.
func TestSumAroundPrime(t *testing.T) {
	above := new(big.Int).Lsh(big.NewInt(1), 128)
	for _, distance := range []int64{-70, -6, -5, -4, -3, -2, -1, 0, 1, 2, 3, 4} {
		// The first piece contains 2^128 - 5 + distance, the others 0: the sum is 2^130 - 5 + distance.
		first := littleBytes(new(big.Int).Add(above, big.NewInt(distance-5)))
		data := append(first[:], make([]byte, 32)...)
		want := littleBytes(big.NewInt(distance))
		if distance < 0 {
			want = littleBytes(new(big.Int).Add(prime(), big.NewInt(distance)))
		}
		if got := Sum(api.Key{1}, data); got != want {
			t.Errorf("2^130 - 5 + %d: %x, not %x", distance, got, want)
		}
		// The other pieces pass the border, too.
		for _, more := range []byte{1, 4, 5, 6, 255} {
			data[16] = more
			checkSum(t, api.Key{1}, data)
			checkSum(t, keyOf([]byte{1}, bytes.Repeat([]byte{255}, 16)), data)
		}
	}
}

// P3.1: the bits of r that are set to 0 make no difference, every other bit does.
func TestSumClamps(t *testing.T) {
	random := rand.New(rand.NewSource(3))
	var k api.Key
	data := make([]byte, 100)
	random.Read(k[:])
	random.Read(data)
	for bit := range 128 {
		i := bit / 8
		cleared := i%4 == 3 && bit%8 >= 4 || i%4 == 0 && i > 0 && bit%8 < 2
		other := k
		other[i] ^= 1 << (bit % 8)
		if same := Sum(other, data) == Sum(k, data); same != cleared {
			t.Errorf("bit %d of byte %d: makes no difference: %v", bit%8, i, same)
		}
	}
}

// P3.1: s is added modulo 2^128, and its carries run through.
func TestSumAddsModulo(t *testing.T) {
	ones := bytes.Repeat([]byte{255}, 16)
	// 2^8 + 1 and 2^128 - 1 are 2^8 modulo 2^128.
	if got := Sum(keyOf([]byte{1}, ones), []byte{1}); got != (api.Tag{0, 1}) {
		t.Errorf("2^8 + 1: %x", got)
	}
	// 2^128 + 2^64 - 1 and 1: the carry reaches the upper half.
	data := make([]byte, 16)
	copy(data, ones[:8])
	if got := Sum(keyOf([]byte{1}, []byte{1}), data); got != (api.Tag{8: 1}) {
		t.Errorf("2^64 - 1: %x", got)
	}
	// Both are below 2^64, so that nothing is added to the upper half.
	if got := Sum(keyOf([]byte{1}, ones[:8]), nil); got != (api.Tag{255, 255, 255, 255, 255, 255, 255, 255}) {
		t.Errorf("without data: %x", got)
	}
}

// P3.1: zero bytes at the end of data make a difference.
func TestSumOfZerosAtEnd(t *testing.T) {
	k := keyOf([]byte{2, 3, 5, 7, 8}, nil)
	seen := map[api.Tag]int{}
	for length := range 50 {
		tag := Sum(k, make([]byte, length))
		if other, ok := seen[tag]; ok {
			t.Errorf("%d and %d zero bytes have the same tag", other, length)
		}
		seen[tag] = length
	}
}

// P3.2
func TestSumIsSecret(t *testing.T) {
	random := rand.New(rand.NewSource(4))
	for _, length := range lengths {
		var k api.Key
		data := make([]byte, length)
		random.Read(k[:])
		random.Read(data)
		s := api.Tag(k[16:])
		if got := Sum(keyOf(nil, s[:]), data); got != s {
			t.Errorf("r = 0, %d bytes: %x, not %x", length, got, s)
		}
		// Without the bits that are set to 0, this r is 0.
		zero := []byte{3: 0xf0, 4: 3, 7: 0xf0, 8: 3, 11: 0xf0, 12: 3, 15: 0xf0}
		if got := Sum(keyOf(zero, s[:]), data); got != s {
			t.Errorf("only bits that are set to 0, %d bytes: %x, not %x", length, got, s)
		}
		for _, none := range [][]byte{nil, {}, data[:0]} {
			if got := Sum(k, none); got != s {
				t.Errorf("without data: %x, not %x", got, s)
			}
		}
	}
}

// R3 and R4: data stays as it is, what lies behind it makes no difference, and a second call returns the same.
func TestSumMemory(t *testing.T) {
	room := bytes.Repeat([]byte{5}, 64)
	k := keyOf([]byte{9, 8, 7}, []byte{6})
	got := Sum(k, room[:37])
	if !bytes.Equal(room, bytes.Repeat([]byte{5}, 64)) {
		t.Error("Sum changed its argument")
	}
	if other := Sum(k, bytes.Repeat([]byte{5}, 37)); other != got {
		t.Errorf("%x and %x", got, other)
	}
}

// numberValue returns the value of a number with limbs of any size.
func numberValue(n number) *big.Int {
	value := new(big.Int)
	for i := limbs - 1; i >= 0; i-- {
		value.Lsh(value, limbBits)
		value.Add(value, new(big.Int).SetUint64(n[i]))
	}
	return value
}

// The bounds that the comments of multiply and finish name: with the greatest limbs nothing is lost, and then the limbs are small again.
func TestMultiplyBounds(t *testing.T) {
	var x, y number
	for i := range x {
		x[i], y[i] = 1<<28-1, limbMask
	}
	product := multiply(x, y)
	want := new(big.Int).Mul(numberValue(x), numberValue(y))
	want.Mod(want, prime())
	if got := new(big.Int).Mod(numberValue(product), prime()); got.Cmp(want) != 0 {
		t.Errorf("%x, not %x", got, want)
	}
	if product[0] > limbMask+fold || slices.Max(product[1:]) > limbMask {
		t.Errorf("limbs: %x", product)
	}
}

// What finish may get at the border: the last round of multiply has folded, or all limbs are full.
func TestFinishAtBorder(t *testing.T) {
	for _, n := range []number{
		{limbMask + fold, 0, 0, 0, 0},
		{limbMask + 1, 700, 0, 0, 0},
		{limbMask + fold, limbMask, limbMask, limbMask, limbMask},
		{limbMask + 1, limbMask, limbMask, limbMask, limbMask},
		{limbMask, limbMask, limbMask, limbMask, limbMask},
		{limbMask - fold + 1, limbMask, limbMask, limbMask, limbMask},
		{limbMask - fold, limbMask, limbMask, limbMask, limbMask},
		{limbMask, limbMask, limbMask, limbMask, limbMask - 1},
		{},
	} {
		want := littleBytes(new(big.Int).Mod(numberValue(n), prime()))
		if got := finish(n, api.Key{}); got != want {
			t.Errorf("finish(%x) is %x, not %x", n, got, want)
		}
	}
}

func BenchmarkSum(b *testing.B) {
	data := make([]byte, api.MaxPlain)
	b.SetBytes(int64(len(data)))
	for b.Loop() {
		Sum(api.Key{1, 2, 3}, data)
	}
}
