package aead

import (
	"bytes"
	"encoding/binary"
	"encoding/hex"
	"math/rand"
	"strings"
	"testing"

	"burrow/api"
	"burrow/chacha"
	"burrow/poly"
)

// fromHex returns the bytes of hexadecimal digits; white space is skipped.
func fromHex(t *testing.T, text string) []byte {
	t.Helper()
	b, err := hex.DecodeString(strings.Join(strings.Fields(text), ""))
	if err != nil {
		t.Fatal(err)
	}
	return b
}

// randomBytes returns so many bytes.
func randomBytes(random *rand.Rand, length int) []byte {
	b := make([]byte, length)
	random.Read(b)
	return b
}

// randomInput returns a key and a nonce.
func randomInput(random *rand.Rand) (api.Key, api.Nonce) {
	return api.Key(randomBytes(random, 32)), api.Nonce(randomBytes(random, 12))
}

// checkRefused reports what Open accepts, or refuses with another error or with data.
func checkRefused(t *testing.T, name string, want api.Errno, k api.Key, n api.Nonce, sealed, more []byte) {
	t.Helper()
	if got, err := Open(k, n, sealed, more); err != want || len(got) != 0 {
		t.Errorf("%s: Open returns %x and error %d, not error %d", name, got, err, want)
	}
}

const sunscreen = "Ladies and Gentlemen of the class of '99: If I could offer you only one tip for the future, sunscreen would be it."

const drafts = "Internet-Drafts are draft documents valid for a maximum of six months and may be updated, replaced, or obsoleted by other documents at any time. It is inappropriate to use Internet-Drafts as reference material or to cite them other than as /\u201cwork in progress./\u201d"

// example is an example of RFC 8439.
type example struct{ name, key, nonce, more, plain, sealed string }

var examples = []example{
	{"2.8.2", "808182838485868788898a8b8c8d8e8f909192939495969798999a9b9c9d9e9f",
		"070000004041424344454647", "50515253c0c1c2c3c4c5c6c7", sunscreen, `
		d31a8d34648e60db7b86afbc53ef7ec2a4aded51296e08fea9e2b5a736ee62d6
		3dbea45e8ca9671282fafb69da92728b1a71de0a9e060b2905d6a5b67ecd3b36
		92ddbd7f2d778b8c9803aee328091b58fab324e4fad675945585808b4831d7bc
		3ff4def08e4b7a9de576d26586cec64b6116
		1ae10b594f09e26a7e902ecbd0600691`},
	{"A.5", "1c9240a5eb55d38af333888604f6b5f0473917c1402b80099dca5cbc207075c0",
		"000000000102030405060708", "f33388860000000000004e91", drafts, `
		64a0861575861af460f062c79be643bd5e805cfd345cf389f108670ac76c8cb2
		4c6cfc18755d43eea09ee94e382d26b0bdb7b73c321b0100d4f03b7f355894cf
		332f830e710b97ce98c8a84abd0b948114ad176e008d33bd60f982b1ff37c855
		9797a06ef4f0ef61c186324e2b3506383606907b6a7c02b0f9f6157b53c867e4
		b9166c767b804d46a59b5216cde7a4e99040c5a40433225ee282a1b0a06c523e
		af4534d7f83fa1155b0047718cbc546a0d072b04b3564eea1b422273f548271a
		0bb2316053fa76991955ebd63159434ecebb4e466dae5a1073a6727627097a10
		49e617d91d361094fa68f0ff77987130305beaba2eda04df997b714d6c6f2c29
		a6ad5cb4022b02709b
		eead9d67890cbb22392336fea1851f38`},
}

// P4.1 and P4.2: the examples of RFC 8439, 2.8.2 and A.5.
func TestExamples(t *testing.T) {
	for _, e := range examples {
		k, n := api.Key(fromHex(t, e.key)), api.Nonce(fromHex(t, e.nonce))
		more, sealed := fromHex(t, e.more), fromHex(t, e.sealed)
		if got := Seal(k, n, []byte(e.plain), more); !bytes.Equal(got, sealed) {
			t.Errorf("%s: Seal returns %x, not %x", e.name, got, sealed)
		}
		if got, err := Open(k, n, sealed, more); err != api.OK || string(got) != e.plain {
			t.Errorf("%s: Open returns %q and error %d", e.name, got, err)
		}
	}
}

// lengths has the lengths around the ends of pieces and of blocks, and those that need a second byte.
var lengths = []int{0, 1, 2, 12, 15, 16, 17, 31, 32, 33, 47, 48, 49, 63, 64, 65, 127, 128, 129, 255, 256, 257, api.MaxPlain}

// plainTag follows P4.1 word for word.
func plainTag(k api.Key, n api.Nonce, cipher, more []byte) api.Tag {
	var data []byte
	for _, part := range [][]byte{more, cipher} {
		data = append(data, part...)
		for len(data)%16 != 0 {
			data = append(data, 0)
		}
	}
	data = binary.LittleEndian.AppendUint64(data, uint64(len(more)))
	data = binary.LittleEndian.AppendUint64(data, uint64(len(cipher)))
	block := chacha.Block(k, 0, n)
	return poly.Sum(api.Key(block[:32]), data)
}

// P4.1, P4.2 and P4.4, for all lengths of plain beside all lengths of more.
func TestAgainstTerms(t *testing.T) {
	random := rand.New(rand.NewSource(1))
	for _, length := range lengths {
		for _, moreLength := range lengths {
			k, n := randomInput(random)
			plain, more := randomBytes(random, length), randomBytes(random, moreLength)
			cipher := chacha.Xor(k, 1, n, plain)
			tag := plainTag(k, n, cipher, more)
			sealed := Seal(k, n, plain, more)
			if want := append(cipher, tag[:]...); !bytes.Equal(sealed, want) {
				t.Errorf("lengths %d and %d: %x, not %x", length, moreLength, sealed, want)
			}
			if len(sealed) != length+16 {
				t.Errorf("lengths %d and %d: %d bytes", length, moreLength, len(sealed))
			}
			if got, err := Open(k, n, sealed, more); err != api.OK || !bytes.Equal(got, plain) {
				t.Errorf("lengths %d and %d: Open returns %x and error %d", length, moreLength, got, err)
			}
		}
	}
}

// P4.1, for a length with a third byte, and one of more.
func TestLongData(t *testing.T) {
	random := rand.New(rand.NewSource(2))
	k, n := randomInput(random)
	long := randomBytes(random, 1<<16+3)
	for _, parts := range [][2][]byte{{long, nil}, {nil, long}, {long, long[5:]}} {
		plain, more := parts[0], parts[1]
		cipher := chacha.Xor(k, 1, n, plain)
		tag := plainTag(k, n, cipher, more)
		if !bytes.Equal(Seal(k, n, plain, more), append(cipher, tag[:]...)) {
			t.Errorf("lengths %d and %d", len(plain), len(more))
		}
	}
}

// P4.2: ErrShort for fewer than 16 bytes, also if they are the beginning or the end of a tag.
func TestOpenShort(t *testing.T) {
	k, n := api.Key{1, 2}, api.Nonce{3}
	more := []byte("more")
	sealed := Seal(k, n, nil, more)
	if got, err := Open(k, n, sealed, more); err != api.OK || len(got) != 0 {
		t.Errorf("16 bytes: Open returns %x and error %d", got, err)
	}
	for length := range 16 {
		checkRefused(t, "the beginning of a tag", api.ErrShort, k, n, sealed[:length], more)
		checkRefused(t, "the end of a tag", api.ErrShort, k, n, sealed[16-length:], more)
	}
	checkRefused(t, "nil", api.ErrShort, k, n, nil, nil)
}

// P4.2: ErrTag if a single bit of any argument is another one.
func TestOpenChangedBit(t *testing.T) {
	random := rand.New(rand.NewSource(3))
	for _, length := range []int{0, 1, 16, 65} {
		k, n := randomInput(random)
		plain, more := randomBytes(random, length), randomBytes(random, 20)
		sealed := Seal(k, n, plain, more)
		for bit := range 8 * len(sealed) {
			other := bytes.Clone(sealed)
			other[bit/8] ^= 1 << (bit % 8)
			checkRefused(t, "changed sealed", api.ErrTag, k, n, other, more)
		}
		for bit := range 8 * len(more) {
			other := bytes.Clone(more)
			other[bit/8] ^= 1 << (bit % 8)
			checkRefused(t, "changed more", api.ErrTag, k, n, sealed, other)
		}
		for bit := range 8 * len(k) {
			other := k
			other[bit/8] ^= 1 << (bit % 8)
			checkRefused(t, "changed key", api.ErrTag, other, n, sealed, more)
		}
		for bit := range 8 * len(n) {
			other := n
			other[bit/8] ^= 1 << (bit % 8)
			checkRefused(t, "changed nonce", api.ErrTag, k, other, sealed, more)
		}
	}
}

// P4.2: ErrTag if bytes are missing or added, also zero bytes, which look like the padding.
func TestOpenOtherLengths(t *testing.T) {
	random := rand.New(rand.NewSource(4))
	k, n := randomInput(random)
	plain, more := randomBytes(random, 70), make([]byte, 40)
	sealed := Seal(k, n, plain, more)
	for length := 16; length < len(sealed); length++ {
		checkRefused(t, "the beginning of sealed", api.ErrTag, k, n, sealed[:length], more)
		checkRefused(t, "the end of sealed", api.ErrTag, k, n, sealed[len(sealed)-length:], more)
		// The tag stays at the end.
		cut := append(bytes.Clone(sealed[:length-16]), sealed[len(plain):]...)
		checkRefused(t, "less cipher text", api.ErrTag, k, n, cut, more)
	}
	for length := range 60 {
		if length != len(more) {
			checkRefused(t, "other zero bytes", api.ErrTag, k, n, sealed, make([]byte, length))
		}
	}
	for added := 1; added < 40; added++ {
		cipher, tag := bytes.Clone(sealed[:len(plain)]), sealed[len(plain):]
		checkRefused(t, "zero bytes behind", api.ErrTag, k, n, append(bytes.Clone(sealed), make([]byte, added)...), more)
		checkRefused(t, "zero bytes behind the cipher text", api.ErrTag, k, n, append(append(cipher, make([]byte, added)...), tag...), more)
	}
}

// P4.2: bytes that move between more and the cipher text are noticed, though the data have the same bytes one after the other.
func TestOpenMovedBytes(t *testing.T) {
	random := rand.New(rand.NewSource(5))
	k, n := randomInput(random)
	whole := randomBytes(random, 64)
	seen := map[api.Tag]int{}
	for at := 0; at <= len(whole); at += 16 {
		tag := tagOf(k, n, whole[at:], whole[:at])
		if other, ok := seen[tag]; ok {
			t.Errorf("divided at %d and at %d the tag is the same", other, at)
		}
		seen[tag] = at
	}
}

// P4.3
func TestCounter(t *testing.T) {
	tests := []struct {
		counter uint64
		want    api.Nonce
	}{
		{0, api.Nonce{}},
		{1, api.Nonce{4: 1}},
		{255, api.Nonce{4: 255}},
		{256, api.Nonce{5: 1}},
		{1 << 32, api.Nonce{8: 1}},
		{1 << 63, api.Nonce{11: 0x80}},
		{0x0102030405060708, api.Nonce{4: 8, 5: 7, 6: 6, 7: 5, 8: 4, 9: 3, 10: 2, 11: 1}},
		{api.MaxCounter, api.Nonce{4: 255, 5: 0xdf, 6: 255, 7: 255, 8: 255, 9: 255, 10: 255, 11: 255}},
		{1<<64 - 1, api.Nonce{4: 255, 5: 255, 6: 255, 7: 255, 8: 255, 9: 255, 10: 255, 11: 255}},
	}
	for _, test := range tests {
		if got := Counter(test.counter); got != test.want {
			t.Errorf("Counter(%d) is %x, not %x", test.counter, got, test.want)
		}
	}
}

// P4.4: what Open accepts is Seal of its result. The texts are made without Seal.
func TestOpenedIsSealed(t *testing.T) {
	random := rand.New(rand.NewSource(6))
	for _, length := range lengths {
		k, n := randomInput(random)
		cipher, more := randomBytes(random, length), randomBytes(random, random.Intn(50))
		tag := plainTag(k, n, cipher, more)
		sealed := append(cipher, tag[:]...)
		plain, err := Open(k, n, sealed, more)
		if err != api.OK || len(plain) != length {
			t.Errorf("length %d: Open returns %d bytes and error %d", length, len(plain), err)
		}
		if !bytes.Equal(Seal(k, n, plain, more), sealed) {
			t.Errorf("length %d: Seal of what Open returns is something else", length)
		}
	}
}

// P4.4: different counters give different nonces.
func TestCountersDiffer(t *testing.T) {
	random := rand.New(rand.NewSource(7))
	counters := map[uint64]bool{0: true, 1<<64 - 1: true}
	for bit := range 64 {
		counters[1<<bit] = true
		counters[1<<bit-1] = true
	}
	for range 1000 {
		counters[random.Uint64()] = true
		counters[uint64(random.Intn(2000))] = true
	}
	seen := map[api.Nonce]uint64{}
	for counter := range counters {
		n := Counter(counter)
		if other, ok := seen[n]; ok {
			t.Errorf("%d and %d have the nonce %x", other, counter, n)
		}
		seen[n] = counter
	}
}

// R3 and R4: the arguments stay as they are, also the room behind them, the results are new memory, and a second call returns the same.
func TestMemory(t *testing.T) {
	k, n := api.Key{9}, api.Nonce{8}
	room, moreRoom := bytes.Repeat([]byte{5}, 128), bytes.Repeat([]byte{6}, 128)
	plain, more := room[:37], moreRoom[:21]
	sealed := Seal(k, n, plain, more)
	opened := append(bytes.Clone(sealed), bytes.Repeat([]byte{7}, 50)...)
	kept := bytes.Clone(opened)
	got, err := Open(k, n, opened[:len(sealed)], more)
	if err != api.OK {
		t.Fatal(err)
	}
	if !bytes.Equal(room, bytes.Repeat([]byte{5}, 128)) || !bytes.Equal(moreRoom, bytes.Repeat([]byte{6}, 128)) || !bytes.Equal(opened, kept) {
		t.Error("an argument was changed")
	}
	if !bytes.Equal(Seal(k, n, plain, more), sealed) {
		t.Error("a second call returns something else")
	}
	clear(room)
	clear(moreRoom)
	clear(opened)
	if !bytes.Equal(sealed, kept[:len(sealed)]) || !bytes.Equal(got, bytes.Repeat([]byte{5}, 37)) {
		t.Error("a result shares memory with an argument")
	}
}

// R5: nil and an empty slice are equivalent.
func TestNothing(t *testing.T) {
	k, n := api.Key{7}, api.Nonce{6}
	sealed := Seal(k, n, nil, nil)
	if !bytes.Equal(Seal(k, n, []byte{}, []byte{}), sealed) {
		t.Error("Seal makes a difference between nil and nothing")
	}
	for _, more := range [][]byte{nil, {}} {
		if got, err := Open(k, n, sealed, more); err != api.OK || len(got) != 0 {
			t.Errorf("Open returns %x and error %d", got, err)
		}
	}
}

func BenchmarkSeal(b *testing.B) {
	data := make([]byte, api.MaxPlain)
	b.SetBytes(int64(len(data)))
	for b.Loop() {
		Seal(api.Key{1, 2, 3}, api.Nonce{}, data, nil)
	}
}
