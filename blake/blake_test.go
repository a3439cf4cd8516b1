package blake

import (
	"bytes"
	"encoding/binary"
	"encoding/hex"
	"math"
	"math/rand"
	"strconv"
	"strings"
	"testing"

	"burrow/api"
)

// fromHex returns the bytes of hexadecimal digits; white space is skipped.
func fromHex(t *testing.T, text string) []byte {
	t.Helper()
	b, err := hex.DecodeString(strings.Join(strings.Fields(text), ""))
	if err != nil {
		t.Fatal(err)
	}
	return b
}

// randomBytes returns so many bytes.
func randomBytes(random *rand.Rand, length int) []byte {
	b := make([]byte, length)
	random.Read(b)
	return b
}

// mustSum returns what Sum returns for arguments that are in their ranges.
func mustSum(t *testing.T, size int, key, data []byte) []byte {
	t.Helper()
	sum, err := Sum(size, key, data)
	if err != api.OK || len(sum) != size {
		t.Fatalf("Sum(%d, %x, %x) returns %x and error %d", size, key, data, sum, err)
	}
	return sum
}

// counting returns the bytes 0, 1, 2, ..
func counting(length int) []byte {
	b := make([]byte, length)
	for i := range b {
		b[i] = byte(i)
	}
	return b
}

// P6.1: the example of the chapter (RFC 7693, appendix B), others of 32 bytes that are published with BLAKE2, and short ones.
func TestSumExamples(t *testing.T) {
	tests := []struct {
		name      string
		key, data []byte
		want      string
	}{
		{"abc", nil, []byte("abc"), "508c5e8c327c14e2e1a72ba34eeb452f37458b209ed63a294d999b4c86675982"},
		{"nothing", nil, nil, "69217a3079908094e11121d042354a7c1f55b6482ca1a51e1b250dfd1ed0eef9"},
		{"nothing with a key", counting(32), nil, "48a8997da407876b3d79c0d92325ad3b89cbb754d86ab71aee047ad345fd2c49"},
		{"a byte with a key", counting(32), counting(1), "40d15fee7c328830166ac3f918650f807e7e01e177258cdc0a39b11f598066f1"},
		{"255 bytes with a key", counting(32), counting(255), "3fb735061abc519dfe979e54c1ee5bfad0a9d858b3315bad34bde999efd724dd"},
		{"one byte of the value", []byte("k"), []byte("data"), "e7"},
	}
	for _, test := range tests {
		want := fromHex(t, test.want)
		if got := mustSum(t, len(want), test.key, test.data); !bytes.Equal(got, want) {
			t.Errorf("%s: %x, not %x", test.name, got, want)
		}
	}
}

// sequence is the input of the test of RFC 7693, appendix E.
func sequence(length int) []byte {
	a, b := 0xDEAD4BAD*uint32(length), uint32(1)
	out := make([]byte, length)
	for i := range out {
		a, b = b, a+b
		out[i] = byte(b >> 24)
	}
	return out
}

// P6.1: the test of RFC 7693, appendix E.
func TestSumOfSums(t *testing.T) {
	var sums []byte
	for _, size := range []int{16, 20, 28, 32} {
		for _, length := range []int{0, 3, 64, 65, 255, 1024} {
			data := sequence(length)
			sums = append(sums, mustSum(t, size, nil, data)...)
			sums = append(sums, mustSum(t, size, sequence(size), data)...)
		}
	}
	want := fromHex(t, "6a411f08ce25adcdfb02aba641451cec53c598b24f4fc787fbdc88797f4c1dfe")
	if got := mustSum(t, 32, nil, sums); !bytes.Equal(got, want) {
		t.Errorf("%x, not %x", got, want)
	}
}

// P6.1, for all sizes, all lengths of keys and lengths of data around the ends of blocks: the value of all values was computed by Python's hashlib.
func TestSumOfAllSizes(t *testing.T) {
	data, key := make([]byte, 300), make([]byte, 32)
	for i := range data {
		data[i] = byte((i*i + 7*i + 3) % 251)
	}
	for i := range key {
		key[i] = byte(i*37 + 5)
	}
	var sums []byte
	for size := 1; size <= 32; size++ {
		for keyLength := range 33 {
			for _, length := range []int{0, 1, 63, 64, 65, 127, 128, 129, 192, 193, 300} {
				sums = append(sums, mustSum(t, size, key[:keyLength], data[:length])...)
			}
		}
	}
	want := fromHex(t, "ec0d069655394cb61990d17553062d8c7f95d29e86329ca91753843270820ae2")
	if got := mustSum(t, 32, nil, sums); !bytes.Equal(got, want) {
		t.Errorf("%x, not %x", got, want)
	}
}

// plainIV is the chapter's.
func plainIV() []uint32 {
	return []uint32{0x6A09E667, 0xBB67AE85, 0x3C6EF372, 0xA54FF53A, 0x510E527F, 0x9B05688C, 0x1F83D9AB, 0x5BE0CD19}
}

// plainPermutations is the chapter's table.
const plainPermutations = `0 1 2 3 4 5 6 7 8 9 10 11 12 13 14 15
14 10 4 8 9 15 13 6 1 12 0 2 11 7 5 3
11 8 12 0 5 2 15 13 10 14 3 6 7 1 9 4
7 9 3 1 13 12 11 14 2 6 5 10 4 0 15 8
9 0 5 7 2 4 10 15 14 1 11 12 6 8 3 13
2 12 6 10 0 11 8 3 4 13 7 5 15 14 1 9
12 5 1 15 14 13 4 10 0 7 6 3 9 2 8 11
13 11 7 14 12 1 3 9 5 0 15 4 8 6 2 10
6 15 14 9 11 3 0 8 12 2 13 7 1 4 10 5
10 2 8 4 7 6 1 5 15 11 9 14 3 12 13 0`

// plainPlaces has the words that the eight mixings of a round are made on.
const plainPlaces = `0 4 8 12
1 5 9 13
2 6 10 14
3 7 11 15
0 5 10 15
1 6 11 12
2 7 8 13
3 4 9 14`

// plainTable returns the numbers of the lines of a text.
func plainTable(text string) [][]int {
	var table [][]int
	for line := range strings.Lines(text) {
		var row []int
		for _, field := range strings.Fields(line) {
			n, err := strconv.Atoi(field)
			if err != nil {
				panic(err)
			}
			row = append(row, n)
		}
		table = append(table, row)
	}
	return table
}

func plainRotate(x uint32, right int) uint32 {
	return x>>right | x<<(32-right)
}

func plainMix(v []uint32, at []int, x, y uint32) {
	a, b, c, d := &v[at[0]], &v[at[1]], &v[at[2]], &v[at[3]]
	*a = *a + *b + x
	*d = plainRotate(*d^*a, 16)
	*c = *c + *d
	*b = plainRotate(*b^*c, 12)
	*a = *a + *b + y
	*d = plainRotate(*d^*a, 8)
	*c = *c + *d
	*b = plainRotate(*b^*c, 7)
}

// plainCompress is the compression of the chapter, word for word.
func plainCompress(h, m []uint32, t uint64, f bool, permutations, places [][]int) []uint32 {
	v := append(append([]uint32{}, h...), plainIV()...)
	v[12] ^= uint32(t % (1 << 32))
	v[13] ^= uint32(t / (1 << 32))
	if f {
		v[14] ^= 0xffffffff
	}
	for _, p := range permutations {
		for i, at := range places {
			plainMix(v, at, m[p[2*i]], m[p[2*i+1]])
		}
	}
	result := make([]uint32, 8)
	for i := range result {
		result[i] = h[i] ^ v[i] ^ v[i+8]
	}
	return result
}

func plainWords(b []byte) []uint32 {
	var words []uint32
	for ; len(b) > 0; b = b[4:] {
		words = append(words, binary.LittleEndian.Uint32(b))
	}
	return words
}

// plainSum follows P6.1 word for word.
func plainSum(size int, key, data []byte) []byte {
	h := plainIV()
	h[0] ^= 0x01010000 ^ uint32(len(key))*256 ^ uint32(size)
	message := bytes.Clone(data)
	if len(key) > 0 {
		message = append(append(bytes.Clone(key), make([]byte, 64-len(key))...), data...)
	}
	length := len(message)
	for len(message) == 0 || len(message)%64 != 0 {
		message = append(message, 0)
	}
	permutations, places := plainTable(plainPermutations), plainTable(plainPlaces)
	for end := 64; end <= len(message); end += 64 {
		last := end == len(message)
		h = plainCompress(h, plainWords(message[end-64:end]), uint64(min(end, length)), last, permutations, places)
	}
	var result []byte
	for _, word := range h {
		result = binary.LittleEndian.AppendUint32(result, word)
	}
	return result[:size]
}

// checkSum compares Sum with plainSum.
func checkSum(t *testing.T, size int, key, data []byte) {
	t.Helper()
	got := mustSum(t, size, key, data)
	if want := plainSum(size, key, data); !bytes.Equal(got, want) {
		t.Errorf("Sum(%d, %x, %x) is %x, not %x", size, key, data, got, want)
	}
}

// P6.1, for keys and data with all kinds of bytes and all lengths of data up to the third block.
func TestSumAgainstTerms(t *testing.T) {
	random := rand.New(rand.NewSource(1))
	for length := range 200 {
		data := randomBytes(random, length)
		checkSum(t, 32, nil, data)
		checkSum(t, 16, randomBytes(random, 32), data)
		checkSum(t, 1+random.Intn(32), randomBytes(random, random.Intn(33)), data)
	}
	for _, length := range []int{255, 256, 257, api.MaxPlain, api.MaxDatagram, 1 << 12, 1<<17 + 9} {
		data := randomBytes(random, length)
		checkSum(t, 32, nil, data)
		checkSum(t, 16, randomBytes(random, 32), data)
	}
}

// P6.1, for data of which all bits are 0 or 1.
func TestSumOfExtremes(t *testing.T) {
	zeros, ones := make([]byte, 200), bytes.Repeat([]byte{255}, 200)
	for length := range 200 {
		for _, data := range [][]byte{zeros[:length], ones[:length]} {
			checkSum(t, 32, nil, data)
			checkSum(t, 32, zeros[:32], data)
			checkSum(t, 32, ones[:32], data)
		}
	}
}

// The compression, also with counts that Sum does not reach.
func TestCompressCounts(t *testing.T) {
	random := rand.New(rand.NewSource(2))
	permutations, places := plainTable(plainPermutations), plainTable(plainPlaces)
	for _, count := range []uint64{0, 1, 64, 1<<31 - 1, 1<<32 - 1, 1 << 32, 1<<32 + 64, 5<<32 + 7, 1 << 63, math.MaxUint64} {
		for _, last := range []bool{false, true} {
			h := state(plainWords(randomBytes(random, 32)))
			m := block(plainWords(randomBytes(random, 64)))
			want := state(plainCompress(h[:], m[:], count, last, permutations, places))
			if got := compress(h, m, count, last); got != want {
				t.Errorf("count %d, last %v: %x, not %x", count, last, got, want)
			}
		}
	}
}

// P6.1: the size and the length of the key count, and zero bytes at the end of key or data do, too.
func TestSumsDiffer(t *testing.T) {
	seen := map[string]string{}
	note := func(name string, sum []byte) {
		t.Helper()
		if other, ok := seen[string(sum[:8])]; ok {
			t.Errorf("%s and %s begin with the same bytes", name, other)
		}
		seen[string(sum[:8])] = name
	}
	zeros := make([]byte, 200)
	for size := 8; size <= 32; size++ {
		note("size "+strconv.Itoa(size), mustSum(t, size, nil, []byte("data")))
	}
	for length := range 33 {
		note("a key of "+strconv.Itoa(length), mustSum(t, 32, zeros[:length], nil))
	}
	for length := 1; length < 200; length++ {
		note(strconv.Itoa(length)+" bytes", mustSum(t, 32, nil, zeros[:length]))
		note(strconv.Itoa(length)+" bytes with a key", mustSum(t, 32, zeros[:32], zeros[:length]))
	}
}

// P6.1: each bit of key and data counts.
func TestSumEachBit(t *testing.T) {
	key, data := make([]byte, 32), make([]byte, 130)
	seen := map[string]bool{string(mustSum(t, 32, key, data)): true}
	for _, b := range [][]byte{key, data} {
		for bit := range 8 * len(b) {
			b[bit/8] ^= 1 << (bit % 8)
			seen[string(mustSum(t, 32, key, data))] = true
			b[bit/8] ^= 1 << (bit % 8)
		}
	}
	if want := 1 + 8*(len(key)+len(data)); len(seen) != want {
		t.Errorf("%d different values, not %d", len(seen), want)
	}
}

// P6.1: the ranges of size and of the length of key, at both ends and far beyond.
func TestSumErrors(t *testing.T) {
	long := make([]byte, 1<<16+1)
	for _, size := range []int{1, 32} {
		for _, length := range []int{0, 1, 32} {
			mustSum(t, size, long[:length], []byte("data"))
		}
	}
	sizes := []int{math.MinInt, -1 << 32, -32, -1, 0, 33, 64, 256, 257, 288, 1 << 16, 1<<32 + 1, 1<<32 + 32, math.MaxInt}
	for _, size := range sizes {
		for _, length := range []int{0, 1, 32, 33} {
			checkRefused(t, size, long[:length])
		}
	}
	for _, length := range []int{33, 63, 64, 65, 128, 256, 257, 288, 1 << 16, 1<<16 + 1} {
		for _, size := range []int{1, 16, 32} {
			checkRefused(t, size, long[:length])
		}
	}
}

// checkRefused reports what Sum accepts, or refuses with another error or with bytes.
func checkRefused(t *testing.T, size int, key []byte) {
	t.Helper()
	for _, data := range [][]byte{nil, []byte("data"), counting(64)} {
		if sum, err := Sum(size, key, data); err != api.ErrArg || len(sum) != 0 {
			t.Errorf("size %d, a key of %d bytes: %x and error %d", size, len(key), sum, err)
		}
	}
}

// P6.2: the example of the chapter; the value of nothing.
func TestHashExamples(t *testing.T) {
	abc := fromHex(t, "50 8c 5e 8c 32 7c 14 e2 e1 a7 2b a3 4e eb 45 2f 37 45 8b 20 9e d6 3a 29 4d 99 9b 4c 86 67 59 82")
	nothing := fromHex(t, "69217a3079908094e11121d042354a7c1f55b6482ca1a51e1b250dfd1ed0eef9")
	tests := []struct {
		name  string
		parts [][]byte
		want  []byte
	}{
		{"abc", [][]byte{[]byte("abc")}, abc},
		{"a, bc", [][]byte{[]byte("a"), []byte("bc")}, abc},
		{"letters between nothing", [][]byte{nil, []byte("a"), {}, []byte("b"), []byte("c"), nil}, abc},
		{"no part", nil, nothing},
		{"an empty part", [][]byte{nil}, nothing},
		{"empty parts", [][]byte{nil, {}, nil}, nothing},
	}
	for _, test := range tests {
		if got := Hash(test.parts...); !bytes.Equal(got[:], test.want) {
			t.Errorf("%s: %x, not %x", test.name, got, test.want)
		}
	}
	if got := Hash([]byte("cba")); bytes.Equal(got[:], abc) {
		t.Error("the order of the bytes makes no difference")
	}
	if Hash([]byte("a"), []byte("b")) == Hash([]byte("b"), []byte("a")) {
		t.Error("the order of the parts makes no difference")
	}
}

// checkParts compares Hash and Code of the parts of data with Sum of data.
func checkParts(t *testing.T, key, data []byte, parts ...[]byte) {
	t.Helper()
	hash := Hash(parts...)
	if want := plainSum(32, nil, data); !bytes.Equal(hash[:], want) {
		t.Errorf("Hash(%x) is %x, not %x", parts, hash, want)
	}
	code := Code(key, parts...)
	if want := plainSum(16, key, data); !bytes.Equal(code[:], want) {
		t.Errorf("Code(%x, %x) is %x, not %x", key, parts, code, want)
	}
}

// P6.2 and P6.3: data divided into two and three parts at all places.
func TestPartsAtAllPlaces(t *testing.T) {
	random := rand.New(rand.NewSource(3))
	for _, length := range []int{0, 1, 2, 63, 64, 65, 128, 130} {
		data, key := randomBytes(random, length), randomBytes(random, random.Intn(33))
		checkParts(t, key, data, data)
		for place := range length + 1 {
			other := place + random.Intn(length-place+1)
			checkParts(t, key, data, data[:place], data[place:])
			checkParts(t, key, data, data[:place], data[place:other], data[other:])
		}
	}
}

// P6.2 and P6.3: many parts, some of them empty.
func TestManyParts(t *testing.T) {
	random := rand.New(rand.NewSource(4))
	for range 200 {
		data, key := randomBytes(random, random.Intn(300)), randomBytes(random, random.Intn(33))
		var parts [][]byte
		for rest := data; len(rest) > 0; {
			length := random.Intn(min(len(rest), 40) + 1)
			parts = append(parts, rest[:length])
			rest = rest[length:]
		}
		checkParts(t, key, data, parts...)
	}
	data := counting(200)
	var parts [][]byte
	for i := range data {
		parts = append(parts, data[i:i+1])
	}
	checkParts(t, []byte("key"), data, parts...)
}

// P6.2: keys of all lengths; the zero Tag for longer ones.
func TestCodeKeys(t *testing.T) {
	key, data := counting(300), []byte("some data")
	seen := map[api.Tag]int{}
	for length := range 33 {
		code := Code(key[:length], data[:4], data[4:])
		if want := plainSum(16, key[:length], data); !bytes.Equal(code[:], want) {
			t.Errorf("a key of %d bytes: %x, not %x", length, code, want)
		}
		if other, ok := seen[code]; ok {
			t.Errorf("keys of %d and %d bytes have the same code", other, length)
		}
		seen[code] = length
	}
	for length := 33; length <= len(key); length++ {
		if code := Code(key[:length], data); code != (api.Tag{}) {
			t.Errorf("a key of %d bytes: %x", length, code)
		}
		if code := Code(key[:length]); code != (api.Tag{}) {
			t.Errorf("a key of %d bytes, no data: %x", length, code)
		}
	}
}

// P6.2: a code without a key is no beginning of a hash value, and a key is no part of the data.
func TestCodeIsNoHash(t *testing.T) {
	data := []byte("some data")
	hash := Hash(data)
	if code := Code(nil, data); bytes.Equal(code[:], hash[:16]) {
		t.Error("a code is the beginning of a hash value")
	}
	key := counting(64)
	clear(key[32:])
	if Code(key[:32], data) == Code(nil, key, data) {
		t.Error("the key counts as data")
	}
}

// R3 and R4: the arguments stay as they are, also the room behind them, the results are new memory, and a second call returns the same.
func TestMemory(t *testing.T) {
	room, keyRoom := bytes.Repeat([]byte{5}, 256), bytes.Repeat([]byte{6}, 64)
	data, key := room[:100], keyRoom[:20]
	parts := [][]byte{room[:40], nil, room[40:100], room[100:120]}
	sum, err := Sum(32, key, data)
	if err != api.OK {
		t.Fatal(err)
	}
	kept, hash, code := bytes.Clone(sum), Hash(parts[:3]...), Code(key, parts[:3]...)
	if !bytes.Equal(room, bytes.Repeat([]byte{5}, 256)) || !bytes.Equal(keyRoom, bytes.Repeat([]byte{6}, 64)) {
		t.Error("the bytes of an argument were changed")
	}
	if len(parts[0]) != 40 || parts[1] != nil || len(parts[2]) != 60 || len(parts[3]) != 20 {
		t.Error("the parts were changed")
	}
	other := mustSum(t, 32, key, data)
	if !bytes.Equal(other, sum) || Hash(data) != hash || Code(key, data) != code {
		t.Error("a second call returns something else")
	}
	clear(other[:cap(other)])
	clear(room)
	clear(keyRoom)
	if !bytes.Equal(sum, kept) {
		t.Error("a result shares memory with an argument or with another result")
	}
	checkSum(t, 32, nil, nil)
}

// R5: nil and an empty slice are equivalent.
func TestNothing(t *testing.T) {
	want := plainSum(16, nil, nil)
	for _, key := range [][]byte{nil, {}} {
		for _, data := range [][]byte{nil, {}} {
			if got := mustSum(t, 16, key, data); !bytes.Equal(got, want) {
				t.Errorf("Sum returns %x, not %x", got, want)
			}
			if got := Code(key, data); !bytes.Equal(got[:], want) {
				t.Errorf("Code returns %x, not %x", got, want)
			}
		}
		if got := Code(key); !bytes.Equal(got[:], want) {
			t.Errorf("Code without parts returns %x, not %x", got, want)
		}
	}
}

func BenchmarkSum(b *testing.B) {
	data := make([]byte, api.MaxPlain)
	b.SetBytes(int64(len(data)))
	for b.Loop() {
		Sum(32, nil, data)
	}
}
