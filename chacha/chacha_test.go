package chacha

import (
	"bytes"
	"encoding/binary"
	"encoding/hex"
	"math/rand"
	"strings"
	"testing"

	"burrow/api"
)

// fromHex returns the bytes of hexadecimal digits; white space is skipped.
func fromHex(t *testing.T, text string) []byte {
	t.Helper()
	b, err := hex.DecodeString(strings.Join(strings.Fields(text), ""))
	if err != nil {
		t.Fatal(err)
	}
	return b
}

// countingKey returns the key 00 01 .. 1f of the RFC's examples.
func countingKey() api.Key {
	var k api.Key
	for i := range k {
		k[i] = byte(i)
	}
	return k
}

// rfcState is the initial state of RFC 8439, 2.3.2.
var rfcState = [16]uint32{
	0x61707865, 0x3320646e, 0x79622d32, 0x6b206574,
	0x03020100, 0x07060504, 0x0b0a0908, 0x0f0e0d0c,
	0x13121110, 0x17161514, 0x1b1a1918, 0x1f1e1d1c,
	0x00000001, 0x09000000, 0x4a000000, 0x00000000,
}

// Terms: the quarter round (RFC 8439, 2.1.1 and 2.2.1).
func TestQuarterRound(t *testing.T) {
	tests := []struct{ in, want [4]uint32 }{
		{[4]uint32{0x11111111, 0x01020304, 0x9b8d6f43, 0x01234567}, [4]uint32{0xea2a92f4, 0xcb1cf8ce, 0x4581472e, 0x5881c4bb}},
		{[4]uint32{0x516461b1, 0x2a5f714c, 0x53372767, 0x3d631689}, [4]uint32{0xbdb886dc, 0xcfacafd2, 0xe46bea80, 0xccc07c79}},
		{[4]uint32{}, [4]uint32{}},
	}
	for _, test := range tests {
		var got [4]uint32
		got[0], got[1], got[2], got[3] = quarterRound(test.in[0], test.in[1], test.in[2], test.in[3])
		if got != test.want {
			t.Errorf("quarterRound(%08x) is %08x, not %08x", test.in, got, test.want)
		}
	}
}

// P2.1
func TestCore(t *testing.T) {
	in := rfcState
	want := [16]uint32{
		0x837778ab, 0xe238d763, 0xa67ae21e, 0x5950bb2f,
		0xc4f2d0c7, 0xfc62bb2f, 0x8fa018fc, 0x3f5ec7b7,
		0x335271c2, 0xf29489f3, 0xeabda8fc, 0x82e46ebd,
		0xd19c12b4, 0xb04e16de, 0x9e83d0cb, 0x4e3c50a2,
	}
	if got := Core(in); got != want {
		t.Errorf("RFC 8439, 2.3.2: Core is %08x, not %08x", got, want)
	}
	if in != rfcState {
		t.Error("Core changed its argument")
	}
	if got := Core([16]uint32{}); got != [16]uint32{} {
		t.Errorf("Core of zero words is %08x", got)
	}
}

// plainCore follows the chapter's terms word for word, with exact sums that are reduced modulo 2^32.
func plainCore(in [16]uint32) [16]uint32 {
	double := [][4]int{
		{0, 4, 8, 12}, {1, 5, 9, 13}, {2, 6, 10, 14}, {3, 7, 11, 15},
		{0, 5, 10, 15}, {1, 6, 11, 12}, {2, 7, 8, 13}, {3, 4, 9, 14},
	}
	add := func(x, y uint32) uint32 { return uint32((uint64(x) + uint64(y)) % (1 << 32)) }
	rotate := func(x uint32, n int) uint32 { return x<<n | x>>(32-n) }
	w := in
	for range 10 {
		for _, q := range double {
			a, b, c, d := &w[q[0]], &w[q[1]], &w[q[2]], &w[q[3]]
			for _, turns := range [][2]int{{16, 12}, {8, 7}} {
				*a = add(*a, *b)
				*d = rotate(*d^*a, turns[0])
				*c = add(*c, *d)
				*b = rotate(*b^*c, turns[1])
			}
		}
	}
	return w
}

// P2.1, for words with all kinds of bits.
func TestCoreAgainstTerms(t *testing.T) {
	random := rand.New(rand.NewSource(1))
	states := [][16]uint32{{}}
	for i := range 16 {
		var one, top [16]uint32
		one[i], top[i] = 1, 1<<31
		states = append(states, one, top)
	}
	var full [16]uint32
	for i := range full {
		full[i] = 1<<32 - 1
	}
	states = append(states, full)
	for range 200 {
		var s [16]uint32
		for i := range s {
			s[i] = random.Uint32()
		}
		states = append(states, s)
	}
	for _, s := range states {
		if got, want := Core(s), plainCore(s); got != want {
			t.Errorf("Core(%08x) is %08x, not %08x", s, got, want)
		}
	}
}

// P2.2: the examples of RFC 8439, 2.3.2 and A.1.
func TestBlockExamples(t *testing.T) {
	tests := []struct {
		name    string
		key     api.Key
		counter uint32
		nonce   api.Nonce
		want    string
	}{
		{"2.3.2", countingKey(), 1, api.Nonce{3: 9, 7: 0x4a}, `
			10f1e7e4d13b5915500fdd1fa32071c4c7d1f4c733c068030422aa9ac3d46c4e
			d2826446079faa0914c2d705d98b02a2b5129cd1de164eb9cbd083e8a2503c4e`},
		{"A.1, 1", api.Key{}, 0, api.Nonce{}, `
			76b8e0ada0f13d90405d6ae55386bd28bdd219b8a08ded1aa836efcc8b770dc7
			da41597c5157488d7724e03fb8d84a376a43b8f41518a11cc387b669b2ee6586`},
		{"A.1, 2", api.Key{}, 1, api.Nonce{}, `
			9f07e7be5551387a98ba977c732d080dcb0f29a048e3656912c6533e32ee7aed
			29b721769ce64e43d57133b074d839d531ed1f28510afb45ace10a1f4b794d6f`},
		{"A.1, 3", api.Key{31: 1}, 1, api.Nonce{}, `
			3aeb5224ecf849929b9d828db1ced4dd832025e8018b8160b82284f3c949aa5a
			8eca00bbb4a73bdad192b5c42f73f2fd4e273644c8b36125a64addeb006c13a0`},
		{"A.1, 4", api.Key{1: 0xff}, 2, api.Nonce{}, `
			72d54dfbf12ec44b362692df94137f328fea8da73990265ec1bbbea1ae9af0ca
			13b25aa26cb4a648cb9b9d1be65b2c0924a66c54d545ec1b7374f4872e99f096`},
		{"A.1, 5", api.Key{}, 0, api.Nonce{11: 2}, `
			c2c64d378cd536374ae204b9ef933fcd1a8b2288b3dfa49672ab765b54ee27c7
			8a970e0e955c14f3a88e741b97c286f75f8fc299e8148362fa198a39531bed6d`},
	}
	for _, test := range tests {
		got := Block(test.key, test.counter, test.nonce)
		if want := fromHex(t, test.want); !bytes.Equal(got[:], want) {
			t.Errorf("%s: %x, not %x", test.name, got, want)
		}
	}
}

// plainBlock follows P2.2 word for word.
func plainBlock(k api.Key, counter uint32, n api.Nonce) []byte {
	in := rfcState
	for i := range 8 {
		in[4+i] = binary.LittleEndian.Uint32(k[4*i:])
	}
	in[12] = counter
	for i := range 3 {
		in[13+i] = binary.LittleEndian.Uint32(n[4*i:])
	}
	mixed := plainCore(in)
	var block []byte
	for i := range in {
		block = binary.LittleEndian.AppendUint32(block, in[i]+mixed[i])
	}
	return block
}

// randomInput returns a key, a counter and a nonce.
func randomInput(random *rand.Rand) (api.Key, uint32, api.Nonce) {
	var k api.Key
	var n api.Nonce
	random.Read(k[:])
	random.Read(n[:])
	return k, random.Uint32(), n
}

// P2.2, for keys, counters and nonces with all kinds of bytes.
func TestBlockAgainstTerms(t *testing.T) {
	random := rand.New(rand.NewSource(2))
	for range 200 {
		k, counter, n := randomInput(random)
		got, want := Block(k, counter, n), plainBlock(k, counter, n)
		if !bytes.Equal(got[:], want) {
			t.Errorf("Block(%x, %d, %x) is %x, not %x", k, counter, n, got, want)
		}
	}
	for _, counter := range []uint32{0, 1, 255, 256, 1<<31 - 1, 1 << 31, 1<<32 - 1} {
		got, want := Block(countingKey(), counter, api.Nonce{1}), plainBlock(countingKey(), counter, api.Nonce{1})
		if !bytes.Equal(got[:], want) {
			t.Errorf("counter %d: %x, not %x", counter, got, want)
		}
	}
}

// P2.3: the example of RFC 8439, 2.4.2.
func TestXorExample(t *testing.T) {
	plain := "Ladies and Gentlemen of the class of '99: If I could offer you only one tip for the future, sunscreen would be it."
	want := fromHex(t, `
		6e2e359a2568f98041ba0728dd0d6981e97e7aec1d4360c20a27afccfd9fae0b
		f91b65c5524733ab8f593dabcd62b3571639d624e65152ab8f530c359f0861d8
		07ca0dbf500d6a6156a38e088a22b65e52bc514d16ccf806818ce91ab7793736
		5af90bbf74a35be6b40b8eedf2785e42874d`)
	if got := Xor(countingKey(), 1, api.Nonce{7: 0x4a}, []byte(plain)); !bytes.Equal(got, want) {
		t.Errorf("%x, not %x", got, want)
	}
}

// lengths has the lengths around the ends of blocks.
var lengths = []int{0, 1, 2, 16, 63, 64, 65, 127, 128, 129, 191, 192, 193, api.MaxPlain}

// plainXor follows P2.3 word for word.
func plainXor(k api.Key, counter uint32, n api.Nonce, data []byte) []byte {
	var result, stream []byte
	for i, x := range data {
		if i%64 == 0 {
			stream = append(stream, plainBlock(k, counter+uint32(i/64), n)...)
		}
		result = append(result, x^stream[i])
	}
	return result
}

// P2.3, for all kinds of lengths.
func TestXorAgainstTerms(t *testing.T) {
	random := rand.New(rand.NewSource(3))
	for _, length := range lengths {
		k, counter, n := randomInput(random)
		data := make([]byte, length)
		random.Read(data)
		if got, want := Xor(k, counter, n, data), plainXor(k, counter, n, data); !bytes.Equal(got, want) {
			t.Errorf("length %d: %x, not %x", length, got, want)
		}
	}
}

// P2.3: the counter is modulo 2^32, and the nonce does not take the carry.
func TestXorCounterWraps(t *testing.T) {
	n := api.Nonce{0xff, 0xff, 0xff, 0xff, 1}
	got := Xor(countingKey(), 1<<32-2, n, make([]byte, 4*64))
	for i, counter := range []uint32{1<<32 - 2, 1<<32 - 1, 0, 1} {
		if want := plainBlock(countingKey(), counter, n); !bytes.Equal(got[64*i:64*i+64], want) {
			t.Errorf("block %d is not that of the counter %d", i, counter)
		}
	}
}

// P2.4
func TestXorConsequences(t *testing.T) {
	random := rand.New(rand.NewSource(4))
	for _, length := range lengths {
		k, counter, n := randomInput(random)
		data := make([]byte, length)
		random.Read(data)
		whole := Xor(k, counter, n, data)
		if !bytes.Equal(Xor(k, counter, n, whole), data) {
			t.Errorf("length %d: Xor of Xor is not data", length)
		}
		for first := range min(length, 200) {
			if !bytes.Equal(Xor(k, counter, n, data[:first]), whole[:first]) {
				t.Errorf("length %d: Xor of the first %d bytes", length, first)
			}
		}
		if length > 64 && !bytes.Equal(Xor(k, counter+1, n, data[64:]), whole[64:]) {
			t.Errorf("length %d: Xor behind 64 bytes", length)
		}
	}
}

// R3 and R5: the argument stays as it is, the result is new memory, and nil is like an empty slice.
func TestXorMemory(t *testing.T) {
	data := bytes.Repeat([]byte{5}, 130)
	got := Xor(countingKey(), 1, api.Nonce{}, data)
	if !bytes.Equal(data, bytes.Repeat([]byte{5}, 130)) {
		t.Error("Xor changed its argument")
	}
	kept := bytes.Clone(got)
	clear(data)
	if !bytes.Equal(got, kept) {
		t.Error("the result shares memory with the argument")
	}
	if len(Xor(countingKey(), 1, api.Nonce{}, nil)) != 0 || len(Xor(countingKey(), 1, api.Nonce{}, []byte{})) != 0 {
		t.Error("Xor of nothing is not empty")
	}
}

func BenchmarkXor(b *testing.B) {
	data := make([]byte, api.MaxPlain)
	b.SetBytes(int64(len(data)))
	for b.Loop() {
		Xor(api.Key{}, 0, api.Nonce{}, data)
	}
}
