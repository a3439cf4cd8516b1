package xchacha

import (
	"bytes"
	"encoding/binary"
	"encoding/hex"
	"math/rand"
	"strings"
	"testing"

	"burrow/aead"
	"burrow/api"
	"burrow/chacha"
)

// fromHex returns the bytes of hexadecimal digits; white space is skipped.
func fromHex(t *testing.T, text string) []byte {
	t.Helper()
	b, err := hex.DecodeString(strings.Join(strings.Fields(text), ""))
	if err != nil {
		t.Fatal(err)
	}
	return b
}

// randomBytes returns so many bytes.
func randomBytes(random *rand.Rand, length int) []byte {
	b := make([]byte, length)
	random.Read(b)
	return b
}

// randomInput returns a key and a nonce.
func randomInput(random *rand.Rand) (api.Key, api.Long) {
	return api.Key(randomBytes(random, 32)), api.Long(randomBytes(random, 24))
}

// checkRefused reports what Open accepts, or refuses with another error or with data.
func checkRefused(t *testing.T, name string, want api.Errno, k api.Key, n api.Long, sealed, more []byte) {
	t.Helper()
	if got, err := Open(k, n, sealed, more); err != want || len(got) != 0 {
		t.Errorf("%s: Open returns %x and error %d, not error %d", name, got, err, want)
	}
}

// P5.1: the example of the chapter (draft-irtf-cfrg-xchacha-03, 2.2.1) and zero bytes.
func TestDeriveExamples(t *testing.T) {
	tests := []struct{ name, key, in, want string }{
		{"the chapter's", "000102030405060708090a0b0c0d0e0f101112131415161718191a1b1c1d1e1f",
			"000000090000004a0000000031415927",
			"82413b4227b27bfed30e42508a877d73a0f9e4d58a74a853c12ec41326d3ecdc"},
		{"zero bytes", strings.Repeat("00", 32), strings.Repeat("00", 16),
			"1140704c328d1d5d0e30086cdf209dbd6a43b8f41518a11cc387b669b2ee6586"},
	}
	for _, test := range tests {
		got := Derive(api.Key(fromHex(t, test.key)), [16]byte(fromHex(t, test.in)))
		if want := fromHex(t, test.want); !bytes.Equal(got[:], want) {
			t.Errorf("%s: %x, not %x", test.name, got, want)
		}
	}
}

// plainState is the state of P5.1, word for word.
func plainState(k api.Key, in [16]byte) [16]uint32 {
	state := [16]uint32{0x61707865, 0x3320646e, 0x79622d32, 0x6b206574}
	for i := range 8 {
		state[4+i] = binary.LittleEndian.Uint32(k[4*i:])
	}
	for i := range 4 {
		state[12+i] = binary.LittleEndian.Uint32(in[4*i:])
	}
	return state
}

// plainDerive follows P5.1 word for word.
func plainDerive(k api.Key, in [16]byte) api.Key {
	words := chacha.Core(plainState(k, in))
	var result []byte
	for _, i := range []int{0, 1, 2, 3, 12, 13, 14, 15} {
		result = binary.LittleEndian.AppendUint32(result, words[i])
	}
	return api.Key(result)
}

// blockDerive computes Derive from chacha.Block, from which it takes what Block adds.
func blockDerive(k api.Key, in [16]byte) api.Key {
	block := chacha.Block(k, binary.LittleEndian.Uint32(in[:]), api.Nonce(in[4:]))
	state := plainState(k, in)
	var result []byte
	for _, i := range []int{0, 1, 2, 3, 12, 13, 14, 15} {
		result = binary.LittleEndian.AppendUint32(result, binary.LittleEndian.Uint32(block[4*i:])-state[i])
	}
	return api.Key(result)
}

// checkDerive compares Derive with two other computations.
func checkDerive(t *testing.T, k api.Key, in [16]byte) {
	t.Helper()
	got := Derive(k, in)
	if want := plainDerive(k, in); got != want {
		t.Errorf("Derive(%x, %x) is %x, not %x", k, in, got, want)
	}
	if want := blockDerive(k, in); got != want {
		t.Errorf("Derive(%x, %x) is %x, but %x by chacha.Block", k, in, got, want)
	}
}

// P5.1, for keys and inputs with all kinds of bytes.
func TestDeriveAgainstTerms(t *testing.T) {
	random := rand.New(rand.NewSource(1))
	for range 300 {
		checkDerive(t, api.Key(randomBytes(random, 32)), [16]byte(randomBytes(random, 16)))
	}
	full := bytes.Repeat([]byte{0xff}, 32)
	checkDerive(t, api.Key{}, [16]byte{})
	checkDerive(t, api.Key(full), [16]byte(full[:16]))
	checkDerive(t, api.Key(full), [16]byte{})
	checkDerive(t, api.Key{}, [16]byte(full[:16]))
}

// P5.1: each bit of the key and of in counts.
func TestDeriveEachBit(t *testing.T) {
	seen := map[api.Key]bool{Derive(api.Key{}, [16]byte{}): true}
	for bit := range 8 * 32 {
		var k api.Key
		k[bit/8] = 1 << (bit % 8)
		checkDerive(t, k, [16]byte{})
		seen[Derive(k, [16]byte{})] = true
	}
	for bit := range 8 * 16 {
		var in [16]byte
		in[bit/8] = 1 << (bit % 8)
		checkDerive(t, api.Key{}, in)
		seen[Derive(api.Key{}, in)] = true
	}
	if len(seen) != 1+8*32+8*16 {
		t.Errorf("%d different keys", len(seen))
	}
}

// P5.2: the example of draft-irtf-cfrg-xchacha-03, A.3.1.
func TestExample(t *testing.T) {
	plain := "Ladies and Gentlemen of the class of '99: If I could offer you only one tip for the future, sunscreen would be it."
	k := api.Key(fromHex(t, "808182838485868788898a8b8c8d8e8f909192939495969798999a9b9c9d9e9f"))
	n := api.Long(fromHex(t, "404142434445464748494a4b4c4d4e4f5051525354555657"))
	more := fromHex(t, "50515253c0c1c2c3c4c5c6c7")
	sealed := fromHex(t, `
		bd6d179d3e83d43b9576579493c0e939572a1700252bfaccbed2902c21396cbb
		731c7f1b0b4aa6440bf3a82f4eda7e39ae64c6708c54c216cb96b72e1213b452
		2f8c9ba40db5d945b11b69b982c1bb9e3f3fac2bc369488f76b2383565d3fff9
		21f9664c97637da9768812f615c68b13b52e
		c0875924c1c7987947deafd8780acf49`)
	if got := Seal(k, n, []byte(plain), more); !bytes.Equal(got, sealed) {
		t.Errorf("Seal returns %x, not %x", got, sealed)
	}
	if got, err := Open(k, n, sealed, more); err != api.OK || string(got) != plain {
		t.Errorf("Open returns %q and error %d", got, err)
	}
}

// lengths has the lengths around the ends of pieces and of blocks, that of a cookie and the greatest ones.
var lengths = []int{0, 1, 2, 15, 16, 17, 32, 63, 64, 65, 128, 129, 256, api.MaxPlain, api.MaxDatagram}

// plainSeal follows P5.2 word for word.
func plainSeal(k api.Key, n api.Long, plain, more []byte) []byte {
	short := append([]byte{0, 0, 0, 0}, n[16:]...)
	return aead.Seal(plainDerive(k, [16]byte(n[:16])), api.Nonce(short), plain, more)
}

// P5.2 and P5.3, for all lengths of plain beside all lengths of more.
func TestAgainstTerms(t *testing.T) {
	random := rand.New(rand.NewSource(2))
	for _, length := range lengths {
		for _, moreLength := range lengths {
			k, n := randomInput(random)
			plain, more := randomBytes(random, length), randomBytes(random, moreLength)
			sealed := Seal(k, n, plain, more)
			if want := plainSeal(k, n, plain, more); !bytes.Equal(sealed, want) {
				t.Errorf("lengths %d and %d: %x, not %x", length, moreLength, sealed, want)
			}
			if len(sealed) != length+16 {
				t.Errorf("lengths %d and %d: %d bytes", length, moreLength, len(sealed))
			}
			if got, err := Open(k, n, sealed, more); err != api.OK || !bytes.Equal(got, plain) {
				t.Errorf("lengths %d and %d: Open returns %x and error %d", length, moreLength, got, err)
			}
		}
	}
}

// P5.2: Open of what was sealed without Seal.
func TestOpenAgainstTerms(t *testing.T) {
	random := rand.New(rand.NewSource(3))
	for _, length := range lengths {
		k, n := randomInput(random)
		plain, more := randomBytes(random, length), randomBytes(random, random.Intn(50))
		sealed := plainSeal(k, n, plain, more)
		if got, err := Open(k, n, sealed, more); err != api.OK || !bytes.Equal(got, plain) {
			t.Errorf("length %d: Open returns %x and error %d", length, got, err)
		}
	}
}

// P5.2: each bit of the nonce counts, in its own place.
func TestNonceEachBit(t *testing.T) {
	k := api.Key{1, 2, 3}
	plain, more := []byte("a packet"), []byte("more")
	seen := map[string]bool{}
	for bit := range 8 * 24 {
		var n api.Long
		n[bit/8] = 1 << (bit % 8)
		sealed := Seal(k, n, plain, more)
		if want := plainSeal(k, n, plain, more); !bytes.Equal(sealed, want) {
			t.Errorf("nonce %x: %x, not %x", n, sealed, want)
		}
		seen[string(sealed)] = true
	}
	if len(seen) != 8*24 {
		t.Errorf("%d different texts", len(seen))
	}
}

// P5.2: ErrShort for fewer than 16 bytes, also if they are the beginning or the end of a tag.
func TestOpenShort(t *testing.T) {
	k, n := api.Key{1, 2}, api.Long{3}
	more := []byte("more")
	sealed := Seal(k, n, nil, more)
	if got, err := Open(k, n, sealed, more); err != api.OK || len(got) != 0 {
		t.Errorf("16 bytes: Open returns %x and error %d", got, err)
	}
	for length := range 16 {
		checkRefused(t, "the beginning of a tag", api.ErrShort, k, n, sealed[:length], more)
		checkRefused(t, "the end of a tag", api.ErrShort, k, n, sealed[16-length:], more)
	}
	checkRefused(t, "nil", api.ErrShort, k, n, nil, nil)
}

// flipped returns b with another bit.
func flipped(b []byte, bit int) []byte {
	other := bytes.Clone(b)
	other[bit/8] ^= 1 << (bit % 8)
	return other
}

// P5.2: ErrTag if a single bit of any argument is another one.
func TestOpenChangedBit(t *testing.T) {
	random := rand.New(rand.NewSource(4))
	for _, length := range []int{0, 1, 16, 65} {
		k, n := randomInput(random)
		plain, more := randomBytes(random, length), randomBytes(random, 20)
		sealed := Seal(k, n, plain, more)
		for bit := range 8 * len(sealed) {
			checkRefused(t, "changed sealed", api.ErrTag, k, n, flipped(sealed, bit), more)
		}
		for bit := range 8 * len(more) {
			checkRefused(t, "changed more", api.ErrTag, k, n, sealed, flipped(more, bit))
		}
		for bit := range 8 * len(k) {
			checkRefused(t, "changed key", api.ErrTag, api.Key(flipped(k[:], bit)), n, sealed, more)
		}
		for bit := range 8 * len(n) {
			checkRefused(t, "changed nonce", api.ErrTag, k, api.Long(flipped(n[:], bit)), sealed, more)
		}
	}
}

// P5.2: ErrTag if bytes are missing or added.
func TestOpenOtherLengths(t *testing.T) {
	random := rand.New(rand.NewSource(5))
	k, n := randomInput(random)
	plain, more := randomBytes(random, 70), make([]byte, 20)
	sealed := Seal(k, n, plain, more)
	for length := 16; length < len(sealed); length++ {
		checkRefused(t, "the beginning of sealed", api.ErrTag, k, n, sealed[:length], more)
		checkRefused(t, "the end of sealed", api.ErrTag, k, n, sealed[len(sealed)-length:], more)
	}
	for added := 1; added < 40; added++ {
		checkRefused(t, "zero bytes behind", api.ErrTag, k, n, append(bytes.Clone(sealed), make([]byte, added)...), more)
	}
	for length := range 40 {
		if length != len(more) {
			checkRefused(t, "other zero bytes", api.ErrTag, k, n, sealed, make([]byte, length))
		}
	}
}

// P5.2: the key is the derived one, and the nonce is no part of the text; aead with the key itself refuses it.
func TestOtherKey(t *testing.T) {
	k, n := api.Key{5}, api.Long{16: 1, 17: 2, 23: 8}
	sealed := Seal(k, n, []byte("a packet"), nil)
	short := api.Nonce{4: 1, 5: 2, 11: 8}
	if _, err := aead.Open(k, short, sealed, nil); err != api.ErrTag {
		t.Errorf("with the key: error %d", err)
	}
	if got, err := aead.Open(Derive(k, [16]byte{}), short, sealed, nil); err != api.OK || string(got) != "a packet" {
		t.Errorf("with the derived key: %q and error %d", got, err)
	}
}

// R3 and R4: the arguments stay as they are, also the room behind them, the results are new memory, and a second call returns the same.
func TestMemory(t *testing.T) {
	k, n := api.Key{9}, api.Long{8, 20: 7}
	room, moreRoom := bytes.Repeat([]byte{5}, 128), bytes.Repeat([]byte{6}, 128)
	plain, more := room[:37], moreRoom[:21]
	sealed := Seal(k, n, plain, more)
	opened := append(bytes.Clone(sealed), bytes.Repeat([]byte{7}, 50)...)
	kept := bytes.Clone(opened)
	got, err := Open(k, n, opened[:len(sealed)], more)
	if err != api.OK {
		t.Fatal(err)
	}
	if !bytes.Equal(room, bytes.Repeat([]byte{5}, 128)) || !bytes.Equal(moreRoom, bytes.Repeat([]byte{6}, 128)) || !bytes.Equal(opened, kept) {
		t.Error("an argument was changed")
	}
	if !bytes.Equal(Seal(k, n, plain, more), sealed) {
		t.Error("a second call returns something else")
	}
	clear(room)
	clear(moreRoom)
	clear(opened)
	if !bytes.Equal(sealed, kept[:len(sealed)]) || !bytes.Equal(got, bytes.Repeat([]byte{5}, 37)) {
		t.Error("a result shares memory with an argument")
	}
}

// R5: nil and an empty slice are equivalent.
func TestNothing(t *testing.T) {
	k, n := api.Key{7}, api.Long{6}
	sealed := Seal(k, n, nil, nil)
	if !bytes.Equal(Seal(k, n, []byte{}, []byte{}), sealed) {
		t.Error("Seal makes a difference between nil and nothing")
	}
	for _, more := range [][]byte{nil, {}} {
		if got, err := Open(k, n, sealed, more); err != api.OK || len(got) != 0 {
			t.Errorf("Open returns %x and error %d", got, err)
		}
	}
}
