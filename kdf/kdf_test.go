package kdf

import (
	"bytes"
	"encoding/hex"
	"math"
	"math/rand"
	"slices"
	"testing"

	"burrow/api"
	"burrow/blake"
)

// fromHex returns the key of hexadecimal digits.
func fromHex(t *testing.T, text string) api.Key {
	t.Helper()
	b, err := hex.DecodeString(text)
	if err != nil || len(b) != len(api.Key{}) {
		t.Fatalf("%s is no key", text)
	}
	return api.Key(b)
}

// randomBytes returns so many bytes.
func randomBytes(random *rand.Rand, length int) []byte {
	b := make([]byte, length)
	random.Read(b)
	return b
}

// counting returns the bytes 0, 1, 2, ..
func counting(length int) []byte {
	b := make([]byte, length)
	for i := range b {
		b[i] = byte(i)
	}
	return b
}

// patterns returns the data and the key whose values Python computed, too.
func patterns() (data, key []byte) {
	data, key = make([]byte, 300), make([]byte, 200)
	for i := range data {
		data[i] = byte((i*i + 7*i + 3) % 251)
	}
	for i := range key {
		key[i] = byte(i*37 + 5)
	}
	return data, key
}

// P7.1: values that Python's hmac and hashlib computed.
func TestHmacExamples(t *testing.T) {
	tests := []struct {
		name      string
		key, data []byte
		want      string
	}{
		{"nothing", nil, nil, "eaf4bb25938f4d20e72656bbbc7a9bf63c0c18537333c35bdb67db1402661acd"},
		{"text", []byte("key"), []byte("The quick brown fox jumps over the lazy dog"), "f93215bb90d4af4c3061cd932fb169fb8bb8a91d0b4022baea1271e1323cd9a0"},
		{"a key of 32 bytes only", counting(32), nil, "e2641d24dfa8dd89e8cb77f1cdc77d8c006e5bebdfc4d6a3a3a6f8d5b7586fb0"},
		{"32 bytes each", counting(32), counting(32), "8d2cc42fc1055ea43277dfd5d35d3863b228f9cc0c02007dc2afb20907bd7312"},
		{"a key of 64 bytes", counting(64), []byte("data"), "4b81ec2b5a886a8e48889159bf60ce9481942a2fb185e8a171a144fffcf39fc9"},
		{"a key of 65 bytes", counting(65), []byte("data"), "5ca9289fc0fa892f707640f3664a3107b34c700b0b1a9bd89a6e5eaeb84ece01"},
		{"200 bytes each", counting(200), counting(200), "e1a785b674d72bc7f6d2fcd9eb7cbcb19bd61fc665bcfaa479f568fc47a9b3d0"},
	}
	for _, test := range tests {
		if got := Hmac(test.key, test.data); got != fromHex(t, test.want) {
			t.Errorf("%s: %x, not %s", test.name, got, test.want)
		}
	}
}

// P7.1, for all lengths of keys up to 200 and lengths of data around the ends of blocks: the hash value of all values was computed by Python.
func TestHmacOfAllKeyLengths(t *testing.T) {
	data, key := patterns()
	var values []byte
	for keyLength := range len(key) + 1 {
		for _, length := range []int{0, 1, 31, 32, 63, 64, 65, 127, 128, 129, 300} {
			value := Hmac(key[:keyLength], data[:length])
			values = append(values, value[:]...)
		}
	}
	want := fromHex(t, "aae0ddd816b110dceafc2126432cbf9d90d375860be193473d6069431fedbdc7")
	if got := blake.Hash(values); got != want {
		t.Errorf("%x, not %x", got, want)
	}
}

// plainHmac follows P7.1 word for word.
func plainHmac(key, data []byte) api.Key {
	filled := bytes.Clone(key)
	if len(key) > 64 {
		hash := blake.Hash(key)
		filled = hash[:]
	}
	for len(filled) < 64 {
		filled = append(filled, 0)
	}
	var inner, outer []byte
	for _, x := range filled {
		inner = append(inner, x^0x36)
		outer = append(outer, x^0x5c)
	}
	hash := blake.Hash(append(inner, data...))
	return blake.Hash(append(outer, hash[:]...))
}

// plainExpand follows P7.2 word for word, for n from 1 to 255.
func plainExpand(key, input []byte, n int) []api.Key {
	first := plainHmac(key, input)
	keys := []api.Key{plainHmac(first[:], []byte{1})}
	for i := 2; i <= n; i++ {
		before := keys[len(keys)-1]
		keys = append(keys, plainHmac(first[:], append(before[:], byte(i))))
	}
	return keys
}

// checkHmac compares Hmac of the parts of data with plainHmac of data.
func checkHmac(t *testing.T, key, data []byte, parts ...[]byte) {
	t.Helper()
	if got, want := Hmac(key, parts...), plainHmac(key, data); got != want {
		t.Errorf("Hmac(%x, %x) is %x, not %x", key, parts, got, want)
	}
}

// checkExpand compares Expand with plainExpand.
func checkExpand(t *testing.T, key, input []byte, n int) {
	t.Helper()
	if got, want := Expand(key, input, n), plainExpand(key, input, n); !slices.Equal(got, want) {
		t.Errorf("Expand(%x, %x, %d) is %x, not %x", key, input, n, got, want)
	}
}

// P7.1, for keys and data with all kinds of bytes.
func TestHmacAgainstTerms(t *testing.T) {
	random := rand.New(rand.NewSource(1))
	for length := range 200 {
		data := randomBytes(random, length)
		checkHmac(t, randomBytes(random, random.Intn(140)), data, data)
		checkHmac(t, randomBytes(random, length), nil)
	}
	zeros, ones := make([]byte, 140), bytes.Repeat([]byte{255}, 140)
	for length := range 140 {
		checkHmac(t, zeros[:length], ones, ones)
		checkHmac(t, ones[:length], zeros, zeros)
	}
	for _, length := range []int{api.MaxPlain, api.MaxDatagram, 1<<17 + 9} {
		long := randomBytes(random, length)
		checkHmac(t, long[:32], long, long)
		checkHmac(t, long, long[:32], long[:32])
	}
}

// P7.1: the parts count one after the other, wherever they are divided; there may be none.
func TestHmacParts(t *testing.T) {
	random := rand.New(rand.NewSource(2))
	for _, length := range []int{0, 1, 2, 63, 64, 65, 128, 130} {
		data, key := randomBytes(random, length), randomBytes(random, random.Intn(100))
		for place := range length + 1 {
			other := place + random.Intn(length-place+1)
			checkHmac(t, key, data, data[:place], data[place:])
			checkHmac(t, key, data, data[:place], nil, data[place:other], []byte{}, data[other:])
		}
	}
	data := counting(200)
	var parts [][]byte
	for i := range data {
		parts = append(parts, data[i:i+1])
	}
	checkHmac(t, []byte("key"), data, parts...)
	checkHmac(t, []byte("key"), nil)
	checkHmac(t, []byte("key"), nil, nil, nil)
	if Hmac([]byte("key"), []byte("a"), []byte("b")) == Hmac([]byte("key"), []byte("b"), []byte("a")) {
		t.Error("the order of the parts makes no difference")
	}
}

// P7.1: each bit of the key, of one that fills a block, and of one that is hashed, and each bit of the data counts.
func TestHmacEachBit(t *testing.T) {
	for _, length := range []int{1, 32, 64, 65, 130} {
		key, data := make([]byte, length), make([]byte, 70)
		seen := map[api.Key]bool{Hmac(key, data): true}
		for _, b := range [][]byte{key, data} {
			for bit := range 8 * len(b) {
				b[bit/8] ^= 1 << (bit % 8)
				seen[Hmac(key, data)] = true
				b[bit/8] ^= 1 << (bit % 8)
			}
		}
		if want := 1 + 8*(len(key)+len(data)); len(seen) != want {
			t.Errorf("a key of %d bytes: %d different values, not %d", length, len(seen), want)
		}
	}
}

// P7.1: a key of up to 64 bytes is filled with zero bytes, a longer one is hashed first.
func TestHmacKeys(t *testing.T) {
	data := []byte("data")
	zeros, key := make([]byte, 128), append([]byte("key"), make([]byte, 125)...)
	for length := range 65 {
		if Hmac(zeros[:length], data) != Hmac(nil, data) {
			t.Errorf("%d zero bytes are another key than none", length)
		}
	}
	for length := 3; length <= 64; length++ {
		if Hmac(key[:length], data) != Hmac([]byte("key"), data) {
			t.Errorf("a key filled to %d bytes is another one", length)
		}
	}
	seen := map[api.Key]bool{Hmac(nil, data): true, Hmac([]byte("key"), data): true}
	for length := 65; length <= 128; length++ {
		hash := blake.Hash(key[:length])
		if Hmac(key[:length], data) != Hmac(hash[:], data) {
			t.Errorf("a key of %d bytes is not its hash value", length)
		}
		seen[Hmac(key[:length], data)] = true
		seen[Hmac(zeros[:length], data)] = true
	}
	if len(seen) != 2+2*64 {
		t.Errorf("%d different values, not %d", len(seen), 2+2*64)
	}
}

// P7.1: the code is neither a hash value of key and data nor the keyed hash of blake.
func TestHmacIsNoHash(t *testing.T) {
	key, data := counting(32), []byte("data")
	value := Hmac(key, data)
	code := blake.Code(key, data)
	if value == blake.Hash(key, data) || value == blake.Hash(data) || bytes.Equal(value[:len(code)], code[:]) {
		t.Error("the code is a hash value")
	}
}

// P7.2: values that Python's hmac computed.
func TestExpandExamples(t *testing.T) {
	tests := []struct {
		key, input []byte
		want       []string
	}{
		{[]byte("key"), []byte("input"), []string{
			"8634e011904dc07e7803dcbab0f6f0630d9145f3e9fc2c55af6673ac21953904",
			"bd483f35cc5ea680c3a0264e1c7da5ccd1d21257e1847024e306bf490730224b",
			"a187069798bb7211b5a9f32857881cde6d1fc1cc4fa81215a2705bcd3952e1f6",
		}},
		{nil, nil, []string{
			"8387b46bf43eccfcf349552a095d8315c4055beb90208fb1be23b894bc2ed5d0",
			"58a0e5f6faefccf4807bff1f05fa8a9217945762040bcec2f4b4a62bdfe0e86e",
			"0ce6ea98ec548f8e281e93e32db65621c45eb18dc6f0a7ad94178610a2f7338e",
		}},
	}
	for _, test := range tests {
		var want []api.Key
		for _, text := range test.want {
			want = append(want, fromHex(t, text))
		}
		if got := Expand(test.key, test.input, len(want)); !slices.Equal(got, want) {
			t.Errorf("Expand(%q, %q, %d) is %x, not %x", test.key, test.input, len(want), got, want)
		}
	}
}

// hashOf returns the hash value of the keys one after the other.
func hashOf(keys []api.Key) api.Key {
	var b []byte
	for _, k := range keys {
		b = append(b, k[:]...)
	}
	return blake.Hash(b)
}

// P7.2: the hash values of all 255 keys, and of keys for many lengths of key and input, were computed by Python.
func TestExpandOfAllLengths(t *testing.T) {
	data, key := patterns()
	want := fromHex(t, "f339397cbbb17a98fb605054fc4562b14e92e79f6822a8683a24fdfa63ad18d5")
	if got := hashOf(Expand(key[:32], data[:48], 255)); got != want {
		t.Errorf("255 keys: %x, not %x", got, want)
	}
	var keys []api.Key
	for _, keyLength := range []int{0, 1, 32, 63, 64, 65, 128, 200} {
		for _, length := range []int{0, 1, 32, 64, 65, 300} {
			keys = append(keys, Expand(key[:keyLength], data[:length], 4)...)
		}
	}
	want = fromHex(t, "daccfe2f2a946a8501a9a03cab498aa28ad637e711333d1f845c5873b7065e73")
	if got := hashOf(keys); got != want {
		t.Errorf("many lengths: %x, not %x", got, want)
	}
}

// P7.2, for keys and inputs with all kinds of bytes and for every n.
func TestExpandAgainstTerms(t *testing.T) {
	random := rand.New(rand.NewSource(3))
	for range 200 {
		checkExpand(t, randomBytes(random, random.Intn(140)), randomBytes(random, random.Intn(140)), 1+random.Intn(5))
	}
	key, input := randomBytes(random, 32), randomBytes(random, 32)
	for n := 1; n <= 255; n++ {
		checkExpand(t, key, input, n)
	}
	checkExpand(t, randomBytes(random, 1<<16), randomBytes(random, 1<<16), 3)
}

// P7.2: the range of n, at both ends and far beyond, also where the lowest byte of n is in the range.
func TestExpandRange(t *testing.T) {
	key, input := []byte("key"), []byte("input")
	for _, n := range []int{1, 2, 254, 255} {
		if got := Expand(key, input, n); len(got) != n {
			t.Errorf("%d keys for n = %d", len(got), n)
		}
	}
	for _, n := range []int{math.MinInt, -1<<32 + 3, -256, -255, -253, -1, 0, 256, 257, 511, 512, 1 << 16, 1<<32 + 1, math.MaxInt} {
		for _, k := range [][]byte{nil, key, counting(65)} {
			if got := Expand(k, input, n); len(got) != 0 {
				t.Errorf("%d keys for n = %d", len(got), n)
			}
		}
	}
}

// P7.3: the first keys do not depend on n.
func TestExpandBegins(t *testing.T) {
	for _, length := range []int{0, 3, 32, 64, 65} {
		key, input := counting(length), []byte("input")
		all := Expand(key, input, 255)
		for n := 1; n <= 255; n++ {
			if !slices.Equal(Expand(key, input, n), all[:n]) {
				t.Errorf("a key of %d bytes: the first %d keys of 255 are others", length, n)
			}
		}
	}
}

// P7.2: all keys differ from each other, and so do those of other keys and inputs, also where the bytes of key and input are the same one after the other.
func TestExpandKeysDiffer(t *testing.T) {
	seen := map[api.Key]bool{}
	for _, pair := range [][2]string{{"key", "input"}, {"keyi", "nput"}, {"ke", "yinput"}, {"", "keyinput"}, {"keyinput", ""}, {"input", "key"}} {
		for _, k := range Expand([]byte(pair[0]), []byte(pair[1]), 255) {
			seen[k] = true
		}
	}
	if len(seen) != 6*255 {
		t.Errorf("%d different keys, not %d", len(seen), 6*255)
	}
}

// R3 and R4: the arguments stay as they are, also the room behind them, the results are new memory, and a second call returns the same.
func TestMemory(t *testing.T) {
	room, keyRoom := bytes.Repeat([]byte{5}, 256), bytes.Repeat([]byte{6}, 256)
	marker := []byte("behind the parts")
	for _, keyLength := range []int{20, 64, 65} {
		key, input := keyRoom[:keyLength], room[:100]
		parts := [][]byte{room[:40], nil, room[40:100], marker}
		code, keys := Hmac(key, parts[:3]...), Expand(key, input, 3)
		kept := slices.Clone(keys)
		if !bytes.Equal(room, bytes.Repeat([]byte{5}, 256)) || !bytes.Equal(keyRoom, bytes.Repeat([]byte{6}, 256)) {
			t.Error("the bytes of an argument were changed")
		}
		if len(parts[0]) != 40 || parts[1] != nil || len(parts[2]) != 60 || string(parts[3]) != "behind the parts" {
			t.Error("the parts were changed")
		}
		other := Expand(key, input, 3)
		if !slices.Equal(other, keys) || Hmac(key, input) != code {
			t.Error("a second call returns something else")
		}
		clear(other[:cap(other)])
		if !slices.Equal(keys, kept) {
			t.Error("a result shares memory with another one")
		}
	}
}

// R5: nil and an empty slice are equivalent.
func TestNothing(t *testing.T) {
	code, keys := plainHmac(nil, nil), plainExpand(nil, nil, 2)
	for _, key := range [][]byte{nil, {}} {
		for _, data := range [][]byte{nil, {}} {
			if got := Hmac(key, data); got != code {
				t.Errorf("Hmac is %x, not %x", got, code)
			}
			if got := Expand(key, data, 2); !slices.Equal(got, keys) {
				t.Errorf("Expand returns %x, not %x", got, keys)
			}
		}
		if got := Hmac(key); got != code {
			t.Errorf("Hmac without parts is %x, not %x", got, code)
		}
	}
}

func BenchmarkExpand(b *testing.B) {
	key, input := counting(32), counting(32)
	for b.Loop() {
		Expand(key, input, 3)
	}
}
