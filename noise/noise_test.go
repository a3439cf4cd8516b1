package noise

import (
	"bytes"
	"encoding/hex"
	"math/rand"
	"slices"
	"strings"
	"testing"

	"burrow/aead"
	"burrow/api"
	"burrow/blake"
	"burrow/kdf"
)

// fromHex returns the bytes of hexadecimal digits.
func fromHex(t *testing.T, text string) []byte {
	t.Helper()
	b, err := hex.DecodeString(text)
	if err != nil {
		t.Fatal(err)
	}
	return b
}

// keyOf returns the key of hexadecimal digits.
func keyOf(t *testing.T, text string) api.Key {
	t.Helper()
	b := fromHex(t, text)
	if len(b) != len(api.Key{}) {
		t.Fatalf("%s is no key", text)
	}
	return api.Key(b)
}

// counting returns the bytes 0, 1, 2, ..
func counting(length int) []byte {
	return pattern(length, 1, 0)
}

// pattern returns the bytes first, first + step, first + 2 step, ..
func pattern(length int, step, first byte) []byte {
	b := make([]byte, length)
	for i := range b {
		b[i] = byte(i)*step + first
	}
	return b
}

// fixed returns the key of 32 equal bytes.
func fixed(b byte) api.Key {
	return api.Key(bytes.Repeat([]byte{b}, 32))
}

// knownState and knownKey are those with which node's crypto computed values, too.
func knownState() api.Noise {
	return api.Noise{Hash: api.Key(pattern(32, 3, 1)), Chain: api.Key(pattern(32, 5, 2))}
}

func knownKey() api.Key {
	return api.Key(pattern(32, 7, 3))
}

// randomBytes returns so many bytes.
func randomBytes(random *rand.Rand, length int) []byte {
	b := make([]byte, length)
	random.Read(b)
	return b
}

func randomKey(random *rand.Rand) api.Key {
	return api.Key(randomBytes(random, 32))
}

func randomState(random *rand.Rand) api.Noise {
	return api.Noise{Hash: randomKey(random), Chain: randomKey(random)}
}

// someStates are states at the ends of what a state may be, and others.
func someStates(random *rand.Rand) []api.Noise {
	states := []api.Noise{
		{},
		{Hash: fixed(255), Chain: fixed(255)},
		{Hash: fixed(255)},
		{Chain: fixed(255)},
		{Hash: fixed(7), Chain: fixed(7)},
		Start(api.Key{}),
		knownState(),
	}
	for range 5 {
		states = append(states, randomState(random))
	}
	return states
}

// lengths has the lengths around the ends of pieces and blocks of the lower layers, and longer ones.
var lengths = []int{0, 1, 2, 15, 16, 17, 28, 31, 32, 33, 47, 48, 49, 63, 64, 65, 95, 96, 97, 127, 128, 129, 255, 256, 257, api.MaxPlain, api.MaxDatagram, 1<<16 + 3}

// divide returns the parts of b, which is divided at so many random places; some parts are empty.
func divide(random *rand.Rand, b []byte, cuts int) [][]byte {
	places := []int{0, len(b)}
	for range cuts {
		places = append(places, random.Intn(len(b)+1))
	}
	slices.Sort(places)
	var parts [][]byte
	for i := range len(places) - 1 {
		parts = append(parts, b[places[i]:places[i+1]])
	}
	return parts
}

// plainStart follows P20.1 word for word.
func plainStart(public api.Key) api.Noise {
	chain := blake.Hash([]byte("Noise_IKpsk2_25519_ChaChaPoly_BLAKE2s"))
	first := blake.Hash(bytes.Join([][]byte{chain[:], []byte("WireGuard v1 zx2c4 Jason@zx2c4.com")}, nil))
	return api.Noise{Hash: blake.Hash(bytes.Join([][]byte{first[:], public[:]}, nil)), Chain: chain}
}

// plainMixHash follows P20.2 word for word, for the bytes of the parts one after the other.
func plainMixHash(n api.Noise, all []byte) api.Noise {
	return api.Noise{Hash: blake.Hash(bytes.Join([][]byte{n.Hash[:], all}, nil)), Chain: n.Chain}
}

// plainExpand returns the keys of kdf.Expand by the terms of P7.2.
func plainExpand(key, input []byte, count int) []api.Key {
	first := kdf.Hmac(key, input)
	var keys []api.Key
	var before []byte
	for i := range count {
		k := kdf.Hmac(first[:], bytes.Join([][]byte{before, {byte(i + 1)}}, nil))
		keys, before = append(keys, k), k[:]
	}
	return keys
}

func checkMixHash(t *testing.T, n api.Noise, all []byte, parts ...[]byte) {
	t.Helper()
	if got, want := MixHash(n, parts...), plainMixHash(n, all); got != want {
		t.Errorf("MixHash(%x, %x) is %x, not %x", n, parts, got, want)
	}
}

// checkMix compares MixChain and MixKey with the terms of P20.2.
func checkMix(t *testing.T, n api.Noise, input []byte) {
	t.Helper()
	keys := plainExpand(n.Chain[:], input, 2)
	want := api.Noise{Hash: n.Hash, Chain: keys[0]}
	if got := MixChain(n, input); got != want {
		t.Errorf("MixChain(%x, %x) is %x, not %x", n, input, got, want)
	}
	if got, k := MixKey(n, input); got != want || k != keys[1] {
		t.Errorf("MixKey(%x, %x) is %x and %x, not %x and %x", n, input, got, k, want, keys[1])
	}
}

// checkMixShared compares MixShared with the terms of P20.2.
func checkMixShared(t *testing.T, n api.Noise, shared api.Key) {
	t.Helper()
	keys := plainExpand(n.Chain[:], shared[:], 3)
	want := plainMixHash(api.Noise{Hash: n.Hash, Chain: keys[0]}, keys[1][:])
	if got, k := MixShared(n, shared); got != want || k != keys[2] {
		t.Errorf("MixShared(%x, %x) is %x and %x, not %x and %x", n, shared, got, k, want, keys[2])
	}
}

// checkSplit compares Split with the terms of P20.3.
func checkSplit(t *testing.T, n api.Noise) {
	t.Helper()
	keys := plainExpand(n.Chain[:], nil, 2)
	if one, two := Split(n); one != keys[0] || two != keys[1] {
		t.Errorf("Split(%x) is %x and %x, not %x", n, one, two, keys)
	}
}

// checkSeal compares Seal with the terms of P20.3; it returns what Seal returns.
func checkSeal(t *testing.T, n api.Noise, k api.Key, plain []byte) (api.Noise, []byte) {
	t.Helper()
	want := aead.Seal(k, api.Nonce{}, plain, n.Hash[:])
	behind, sealed := Seal(n, k, plain)
	if !bytes.Equal(sealed, want) {
		t.Errorf("Seal(%x, %x, %x) seals %x, not %x", n, k, plain, sealed, want)
	}
	if wanted := plainMixHash(n, want); behind != wanted {
		t.Errorf("Seal(%x, %x, %x): the state %x, not %x", n, k, plain, behind, wanted)
	}
	if len(sealed) != len(plain)+16 {
		t.Errorf("Seal of %d bytes returns %d", len(plain), len(sealed))
	}
	return behind, sealed
}

// checkOpen reports what Open refuses, and data or a state that are not the wanted ones.
func checkOpen(t *testing.T, n api.Noise, k api.Key, sealed []byte, wanted api.Noise, plain []byte) {
	t.Helper()
	got, opened, err := Open(n, k, sealed)
	if err != api.OK || got != wanted || !bytes.Equal(opened, plain) {
		t.Errorf("Open(%x, %x, %x) is %x, %x and error %d, not %x and %x", n, k, sealed, got, opened, err, wanted, plain)
	}
}

// checkRefused reports what Open accepts, or refuses with another error, with data, or with a state.
func checkRefused(t *testing.T, name string, want api.Errno, n api.Noise, k api.Key, sealed []byte) {
	t.Helper()
	got, opened, err := Open(n, k, sealed)
	if err != want || got != (api.Noise{}) || len(opened) != 0 {
		t.Errorf("%s: Open(%x, %x, %x) is %x, %x and error %d, not error %d", name, n, k, sealed, got, opened, err, want)
	}
}

// P20.1: values that node's crypto computed; the chaining key is the one of WireGuard.
func TestKnownStart(t *testing.T) {
	chain := keyOf(t, "60e26daef327efc02ec335e2a025d2d016eb4206f87277f52d38d1988b78cd36")
	for _, c := range []struct {
		public api.Key
		hash   string
	}{
		{api.Key{}, "8479c4086c1ee8978c04a689b961f7ed2cd70e31f9f8f5a9c7a78d81f5749873"},
		{api.Key(counting(32)), "af5bda9f817935e310e8582745849c28caf3828bb65e1ecfe887509383da1763"},
	} {
		if got := Start(c.public); got.Chain != chain || got.Hash != keyOf(t, c.hash) {
			t.Errorf("Start(%x) is %x", c.public, got)
		}
	}
}

// P20.1: the hash begins with the one that WireGuard has ahead of the public key.
func TestStartOfWireGuard(t *testing.T) {
	ahead := keyOf(t, "2211b361081ac566691243db458ad5322d9c6c662293e8b70ee19c65ba079ef3")
	public := fixed(9)
	if got, want := Start(public).Hash, blake.Hash(ahead[:], public[:]); got != want {
		t.Errorf("%x, not %x", got, want)
	}
}

// P20.1, for public keys with all kinds of bytes.
func TestStart(t *testing.T) {
	random := rand.New(rand.NewSource(1))
	publics := []api.Key{{}, fixed(255), {9}, {31: 128}, {31: 127}}
	for range 200 {
		publics = append(publics, randomKey(random))
	}
	for _, public := range publics {
		if got, want := Start(public), plainStart(public); got != want {
			t.Errorf("Start(%x) is %x, not %x", public, got, want)
		}
	}
}

// The example of the chapter: the state depends on the public key only; and on each bit of it, also on the highest one, which X25519 does not count.
func TestStartEachBit(t *testing.T) {
	public := api.Key(counting(32))
	want := Start(public)
	seen := map[api.Key]bool{want.Hash: true}
	for bit := range 8 * len(public) {
		other := public
		other[bit/8] ^= 1 << (bit % 8)
		n := Start(other)
		if n.Chain != want.Chain {
			t.Errorf("bit %d: the chaining key is %x", bit, n.Chain)
		}
		seen[n.Hash] = true
		if Start(public) != want {
			t.Errorf("behind bit %d, Start returns another state", bit)
		}
	}
	if len(seen) != 1+256 {
		t.Errorf("%d different hashes", len(seen))
	}
}

// known has values that node's crypto computed for the known state and key and an input: the hash behind MixHash, the chaining key behind MixChain and MixKey, the key of MixKey, what is sealed (or its hash value), and the hash behind it.
type known struct {
	input                           []byte
	mixed, chain, key, sealed, hash string
}

func knowns() []known {
	return []known{
		{nil,
			"f58c176f7f7f3d3b79b5d85ad429841a5c3dd000c6f7184532892292ca3dc914",
			"6e724129852f4acadd16c4049961c040ecc39e790f5534bcb458b378934ebaa6",
			"b92acc19a54a99abd466389195d098aad07ac7ac6bce709010011624fc0856ad",
			"4af2fcfe236573bbd96ae9a641551174",
			"4a22cfa3699a04779f0ef02dc5c2aeafd7c2454e295faa35e09a1c02f98eb201"},
		{[]byte("input"),
			"1bd25a4c370821fb0b9f57f598c59ea862f4f9051788c8c87b0ba9a0a1ebc77d",
			"67ab5d273fbf41adabfc424c824bf95f19d92c7394302028d9fbb316dd25dfb1",
			"0e870a6f327a26b3177c0c36b896f3adfa7418508ec1a55e04b42a1dc1fa1aa9",
			"b5198d1f2f5089ff055bce6fcfea4dba177c68e5b0",
			"b9425d1c41cfb36cbfdfa2cd2ad1cb0217ed3d3409319c3a6b705eda34345174"},
		{counting(300),
			"fff0cb19a592118ffbf7daa0f644b0aee188cae5ce34e6048d6af6bff72ed3a7",
			"fb6f61bb8ef2dccb808db0ac59787b39f6bc1b17cbe019a6012ca4c21d87a159",
			"12f15eaeff915c47a41e6166ae2b7e90cb837a9d9d2f51d0c35bcfc77622d7ea",
			"f0f21a81e4b56a848ba677f2c2683654c14ca6d7e708369a5fc405f0edf96589",
			"d4acc27b3bdbc24434274f19c1864be77d0d43a2a648ea8e179d578c713cc08e"},
	}
}

// P20.2
func TestKnownMixes(t *testing.T) {
	n := knownState()
	for _, c := range knowns() {
		if got := MixHash(n, c.input); got != (api.Noise{Hash: keyOf(t, c.mixed), Chain: n.Chain}) {
			t.Errorf("MixHash of %d bytes: %x", len(c.input), got)
		}
		want := api.Noise{Hash: n.Hash, Chain: keyOf(t, c.chain)}
		if got := MixChain(n, c.input); got != want {
			t.Errorf("MixChain of %d bytes: %x", len(c.input), got)
		}
		if got, k := MixKey(n, c.input); got != want || k != keyOf(t, c.key) {
			t.Errorf("MixKey of %d bytes: %x and %x", len(c.input), got, k)
		}
	}
	got, k := MixShared(n, api.Key(counting(32)))
	if got.Chain != keyOf(t, "ab893df88165d4cde1c666e5b778ff8b7d40fe983d3e0c293845d809febdc498") ||
		got.Hash != keyOf(t, "4fb1e7391a4d12fa090e1c0d34cf84b276a27bfca88724c635433615d21fe08a") ||
		k != keyOf(t, "18bde57fad9328435090df2183faa4e1157ff9a2c4755744c9084998e0d66cfd") {
		t.Errorf("MixShared: %x and %x", got, k)
	}
}

// P20.3
func TestKnownSealed(t *testing.T) {
	n, k := knownState(), knownKey()
	for _, c := range knowns() {
		behind, sealed := Seal(n, k, c.input)
		shown := sealed
		if len(sealed) > 100 {
			hash := blake.Hash(sealed)
			shown = hash[:]
		}
		if hex.EncodeToString(shown) != c.sealed || behind != (api.Noise{Hash: keyOf(t, c.hash), Chain: n.Chain}) {
			t.Errorf("Seal of %d bytes: %x and %x", len(c.input), behind, sealed)
		}
		checkOpen(t, n, k, sealed, behind, c.input)
	}
	one, two := Split(n)
	if one != keyOf(t, "6e724129852f4acadd16c4049961c040ecc39e790f5534bcb458b378934ebaa6") || two != keyOf(t, "b92acc19a54a99abd466389195d098aad07ac7ac6bce709010011624fc0856ad") {
		t.Errorf("Split: %x and %x", one, two)
	}
}

// P20.1 to P20.3: the steps of a whole handshake, with values that node's crypto computed.
func TestKnownHandshake(t *testing.T) {
	step := func(b byte) []byte { k := fixed(b); return k[:] }
	n := MixHash(MixChain(Start(api.Key(counting(32))), step(1)), step(1))
	n, k := MixKey(n, step(2))
	n, static := Seal(n, k, step(3))
	n, k = MixKey(n, step(4))
	n, stamp := Seal(n, k, []byte("twelve bytes"))
	checkHex(t, "static", static, "2377fce6d90c1e706a818b0761a9dfe0d714a421206964db5ed50538310f0d20df974103a61ee7de1c80bc4d4014a32e")
	checkHex(t, "time", stamp, "a4d09ed7c1de0eeef6f5cd7314e4a5c581e738fff84e1e450aa5ffb4")
	checkHex(t, "hash behind the first message", n.Hash[:], "7891cdbc57c600ca3190b1a29bbd84582968b20bda4bcf122df216f07a42c16c")
	checkHex(t, "chaining key behind the first message", n.Chain[:], "efb4f05cd0d11b07ce3e5727425aa9d672ae9b64e574ee402c8766cbe5d212ae")
	n = MixHash(MixChain(n, step(5)), step(5))
	n = MixChain(MixChain(n, step(6)), step(7))
	n, k = MixShared(n, fixed(8))
	n, empty := Seal(n, k, nil)
	checkHex(t, "empty", empty, "67f2625478167029862c9a726f5b69b0")
	checkHex(t, "hash", n.Hash[:], "ea8cb1639564be7563e8b75d737437ef2e96871a4d0df081e1ebfd18cad55535")
	checkHex(t, "chaining key", n.Chain[:], "40144fc02845d214cb21264ac7bd612c7a776386dadd23fe96c510754f119888")
	one, two := Split(n)
	checkHex(t, "first key", one[:], "41f5fabd9690c56b91831765c0d79e96da6e3a63c948ab3d26cf9a68838f9749")
	checkHex(t, "second key", two[:], "2491d97ff6604f9aa1f5197c67c5a73f7284e9fef56289877eeb0409a72412f0")
}

func checkHex(t *testing.T, name string, got []byte, want string) {
	t.Helper()
	if hex.EncodeToString(got) != want {
		t.Errorf("%s: %x, not %s", name, got, want)
	}
}

// P20.2: MixHash without parts, with empty ones, with one and with several. Also without parts the hash is another one.
func TestMixHashParts(t *testing.T) {
	a, b := []byte("a"), []byte("bc")
	for _, n := range someStates(rand.New(rand.NewSource(2))) {
		checkMixHash(t, n, nil)
		checkMixHash(t, n, nil, nil)
		checkMixHash(t, n, nil, []byte{})
		checkMixHash(t, n, nil, nil, []byte{}, nil)
		checkMixHash(t, n, a, a)
		checkMixHash(t, n, a, nil, a)
		checkMixHash(t, n, a, a, nil)
		checkMixHash(t, n, []byte("abc"), a, b)
		checkMixHash(t, n, []byte("bca"), b, a)
		checkMixHash(t, n, []byte("abca"), a, nil, b, []byte{}, a)
		checkMixHash(t, n, []byte("aaa"), a, a, a)
		checkMixHash(t, n, n.Hash[:], n.Hash[:])
		if MixHash(n).Hash == n.Hash {
			t.Errorf("MixHash without parts leaves %x", n)
		}
		if MixHash(MixHash(n, a), b) == MixHash(n, a, b) {
			t.Errorf("two steps from %x are like one", n)
		}
	}
}

// P20.2 and P20.4: bytes of any length, divided at any place or in many.
func TestMixHashDivided(t *testing.T) {
	random := rand.New(rand.NewSource(3))
	for length := range 150 {
		n, all := randomState(random), randomBytes(random, length)
		checkMixHash(t, n, all, all)
		for place := range length + 1 {
			checkMixHash(t, n, all, all[:place], all[place:])
		}
		for cuts := range 8 {
			checkMixHash(t, n, all, divide(random, all, cuts)...)
		}
	}
	for _, length := range lengths {
		n, all := randomState(random), randomBytes(random, length)
		checkMixHash(t, n, all, all)
		checkMixHash(t, n, all, divide(random, all, 40)...)
	}
	all := counting(250)
	var parts [][]byte
	for i := range all {
		parts = append(parts, all[i:i+1])
	}
	checkMixHash(t, api.Noise{}, all, parts...)
}

// P20.2: each bit of the hash and of the parts counts; the chaining key does not, and is kept.
func TestMixHashEachBit(t *testing.T) {
	n, all := knownState(), counting(70)
	seen := map[api.Key]bool{MixHash(n, all).Hash: true}
	for bit := range 256 {
		other := n
		other.Hash[bit/8] ^= 1 << (bit % 8)
		seen[MixHash(other, all).Hash] = true
		other = n
		other.Chain[bit/8] ^= 1 << (bit % 8)
		if got := MixHash(other, all); got.Hash != MixHash(n, all).Hash || got.Chain != other.Chain {
			t.Errorf("bit %d of the chaining key: %x", bit, got)
		}
	}
	for bit := range 8 * len(all) {
		changed := bytes.Clone(all)
		changed[bit/8] ^= 1 << (bit % 8)
		seen[MixHash(n, changed).Hash] = true
	}
	if want := 1 + 256 + 8*len(all); len(seen) != want {
		t.Errorf("%d different hashes, not %d", len(seen), want)
	}
}

// P20.2: MixChain and MixKey for any states and inputs of any length.
func TestMixes(t *testing.T) {
	random := rand.New(rand.NewSource(4))
	for _, n := range someStates(random) {
		for _, length := range lengths {
			checkMix(t, n, randomBytes(random, length))
		}
		checkMix(t, n, nil)
		checkMix(t, n, make([]byte, 32))
		checkMix(t, n, n.Chain[:])
	}
	for length := range 200 {
		checkMix(t, randomState(random), randomBytes(random, length))
	}
}

// P20.2: MixShared for any states and shared keys; the key of zero bytes, which stands for none, is mixed, too.
func TestMixShared(t *testing.T) {
	random := rand.New(rand.NewSource(5))
	for _, n := range someStates(random) {
		for _, shared := range []api.Key{{}, fixed(255), {1}, {31: 1}, n.Chain, n.Hash} {
			checkMixShared(t, n, shared)
		}
		for range 20 {
			checkMixShared(t, n, randomKey(random))
		}
		if got, _ := MixShared(n, api.Key{}); got.Hash == n.Hash || got.Chain == n.Chain {
			t.Errorf("MixShared of the zero key leaves %x as %x", n, got)
		}
	}
}

// P20.2: with the same input, the three have the same chaining key, as the first keys do not depend on their number; MixShared has another key than MixKey.
func TestMixesBeside(t *testing.T) {
	random := rand.New(rand.NewSource(6))
	for _, n := range someStates(random) {
		input := randomKey(random)
		chain := MixChain(n, input[:])
		key, k := MixKey(n, input[:])
		shared, s := MixShared(n, input)
		if chain != key || shared.Chain != key.Chain || shared.Hash == n.Hash || k == s {
			t.Errorf("from %x: %x, %x and %x, %x and %x", n, chain, key, k, shared, s)
		}
	}
}

// mixes returns the results of the three functions one after the other: chaining keys and keys, then the hash behind MixShared.
func mixes(n api.Noise, input api.Key) (keys [5]api.Key, hash api.Key) {
	a := MixChain(n, input[:])
	b, k := MixKey(n, input[:])
	c, s := MixShared(n, input)
	return [5]api.Key{a.Chain, b.Chain, k, c.Chain, s}, c.Hash
}

// P20.2: each bit of the chaining key and of the input counts for all keys; the hash does not.
func TestMixesEachBit(t *testing.T) {
	n, input := knownState(), api.Key(counting(32))
	want, wantHash := mixes(n, input)
	for bit := range 256 {
		flip := func(k api.Key) api.Key { k[bit/8] ^= 1 << (bit % 8); return k }
		for i, c := range []struct {
			n     api.Noise
			input api.Key
		}{
			{api.Noise{Hash: n.Hash, Chain: flip(n.Chain)}, input},
			{n, flip(input)},
		} {
			got, hash := mixes(c.n, c.input)
			for j := range got {
				if got[j] == want[j] {
					t.Errorf("%d: bit %d makes no difference for the key %d", i, bit, j)
				}
			}
			if hash == wantHash {
				t.Errorf("%d: bit %d makes no difference for the hash", i, bit)
			}
		}
		if got, hash := mixes(api.Noise{Hash: flip(n.Hash), Chain: n.Chain}, input); got != want || hash == wantHash {
			t.Errorf("bit %d of the hash: %x and %x", bit, got, hash)
		}
	}
}

// P20.3: Split for any states.
func TestSplit(t *testing.T) {
	random := rand.New(rand.NewSource(7))
	for _, n := range someStates(random) {
		checkSplit(t, n)
	}
	for range 200 {
		checkSplit(t, randomState(random))
	}
}

// P20.3: each bit of the chaining key counts for both keys of Split; the hash does not. The two keys differ.
func TestSplitEachBit(t *testing.T) {
	n := knownState()
	one, two := Split(n)
	seen := map[api.Key]bool{one: true, two: true}
	for bit := range 256 {
		other := n
		other.Hash[bit/8] ^= 1 << (bit % 8)
		if a, b := Split(other); a != one || b != two {
			t.Errorf("bit %d of the hash: %x and %x", bit, a, b)
		}
		other = n
		other.Chain[bit/8] ^= 1 << (bit % 8)
		a, b := Split(other)
		seen[a], seen[b] = true, true
	}
	if len(seen) != 2+2*256 {
		t.Errorf("%d different keys", len(seen))
	}
}

// P20.3 and P20.4: Seal of data of any length, none too, and Open of what it gave.
func TestSealAndOpen(t *testing.T) {
	random := rand.New(rand.NewSource(8))
	for _, n := range someStates(random) {
		for _, k := range []api.Key{{}, fixed(255), n.Chain, n.Hash, randomKey(random)} {
			for _, length := range lengths[:len(lengths)-3] {
				plain := randomBytes(random, length)
				behind, sealed := checkSeal(t, n, k, plain)
				checkOpen(t, n, k, sealed, behind, plain)
			}
		}
	}
	for _, length := range lengths {
		n, k, plain := randomState(random), randomKey(random), randomBytes(random, length)
		behind, sealed := checkSeal(t, n, k, plain)
		checkOpen(t, n, k, sealed, behind, plain)
	}
	for length := range 200 {
		n, k, plain := randomState(random), randomKey(random), randomBytes(random, length)
		behind, sealed := checkSeal(t, n, k, plain)
		checkOpen(t, n, k, sealed, behind, plain)
	}
}

// P20.3: Open of what was sealed without Seal.
func TestOpenOfOthers(t *testing.T) {
	random := rand.New(rand.NewSource(9))
	for _, length := range lengths {
		n, k, plain := randomState(random), randomKey(random), randomBytes(random, length)
		sealed := aead.Seal(k, api.Nonce{}, plain, n.Hash[:])
		checkOpen(t, n, k, sealed, plainMixHash(n, sealed), plain)
		for _, counter := range []uint64{1, 2, 1 << 63} {
			checkRefused(t, "another counter", api.ErrTag, n, k, aead.Seal(k, aead.Counter(counter), plain, n.Hash[:]))
		}
		checkRefused(t, "nothing beside", api.ErrTag, n, k, aead.Seal(k, api.Nonce{}, plain, nil))
		checkRefused(t, "the chaining key beside", api.ErrTag, n, k, aead.Seal(k, api.Nonce{}, plain, n.Chain[:]))
	}
}

// P20.3: ErrTag if one byte of what is sealed is another one, at any place; all other bytes for a short one, each bit for longer ones.
func TestOpenChangedByte(t *testing.T) {
	random := rand.New(rand.NewSource(10))
	for _, length := range []int{0, 1, 12, 32, 65, 130} {
		n, k, plain := randomState(random), randomKey(random), randomBytes(random, length)
		behind, sealed := Seal(n, k, plain)
		for place := range sealed {
			for change := 1; change < 256; change++ {
				if length > 12 && change&(change-1) != 0 {
					continue
				}
				other := bytes.Clone(sealed)
				other[place] ^= byte(change)
				checkRefused(t, "a changed byte", api.ErrTag, n, k, other)
			}
		}
		checkOpen(t, n, k, sealed, behind, plain)
	}
}

// P20.3: ErrTag for another key and for a state with another hash, in each bit; the chaining key makes no difference and is kept.
func TestOpenElsewhere(t *testing.T) {
	random := rand.New(rand.NewSource(11))
	for _, length := range []int{0, 12, 32, 65} {
		n, k, plain := randomState(random), randomKey(random), randomBytes(random, length)
		behind, sealed := Seal(n, k, plain)
		for bit := range 256 {
			flip := func(k api.Key) api.Key { k[bit/8] ^= 1 << (bit % 8); return k }
			checkRefused(t, "another key", api.ErrTag, n, flip(k), sealed)
			checkRefused(t, "another hash", api.ErrTag, api.Noise{Hash: flip(n.Hash), Chain: n.Chain}, k, sealed)
			chain := flip(n.Chain)
			checkOpen(t, api.Noise{Hash: n.Hash, Chain: chain}, k, sealed, api.Noise{Hash: behind.Hash, Chain: chain}, plain)
		}
		checkRefused(t, "the state behind Seal", api.ErrTag, behind, k, sealed)
		checkRefused(t, "the zero state", api.ErrTag, api.Noise{}, k, sealed)
		checkRefused(t, "the zero key", api.ErrTag, n, api.Key{}, sealed)
		checkRefused(t, "hash and chaining key exchanged", api.ErrTag, api.Noise{Hash: n.Chain, Chain: n.Hash}, k, sealed)
		checkRefused(t, "another state", api.ErrTag, randomState(random), k, sealed)
		checkRefused(t, "all others", api.ErrTag, randomState(random), randomKey(random), sealed)
	}
}

// P20.3: ErrShort for fewer than 16 bytes, whatever they are; from 16 on it is ErrTag.
func TestOpenShort(t *testing.T) {
	random := rand.New(rand.NewSource(12))
	n, k := randomState(random), randomKey(random)
	_, sealed := Seal(n, k, randomBytes(random, 40))
	_, empty := Seal(n, k, nil)
	checkRefused(t, "nil", api.ErrShort, n, k, nil)
	checkRefused(t, "nothing for the zero state", api.ErrShort, api.Noise{}, api.Key{}, []byte{})
	for length := range len(sealed) {
		want := api.ErrTag
		if length < 16 {
			want = api.ErrShort
			checkRefused(t, "the beginning of a tag", want, n, k, empty[:length])
			checkRefused(t, "the end of a tag", want, n, k, empty[16-length:])
		}
		checkRefused(t, "the beginning", want, n, k, sealed[:length])
		checkRefused(t, "the end", want, n, k, sealed[len(sealed)-length:])
		checkRefused(t, "zero bytes", want, n, k, make([]byte, length))
	}
	for added := 1; added < 40; added++ {
		checkRefused(t, "more bytes", api.ErrTag, n, k, append(bytes.Clone(sealed), make([]byte, added)...))
		checkRefused(t, "more bytes ahead", api.ErrTag, n, k, append(make([]byte, added), sealed...))
	}
}

// P20.3: a side that refuses something goes on with its state.
func TestBehindRefused(t *testing.T) {
	n, k := Start(fixed(1)), fixed(2)
	behind, sealed := Seal(n, k, []byte("text"))
	mine := n
	for range 3 {
		checkRefused(t, "another key", api.ErrTag, mine, fixed(3), sealed)
		checkRefused(t, "too short", api.ErrShort, mine, k, sealed[:15])
	}
	checkOpen(t, mine, k, sealed, behind, []byte("text"))
}

// side is a side of a handshake with the last key.
type side struct {
	n api.Noise
	k api.Key
}

// both takes a random step at both sides with equal inputs; one of them seals, the other one opens. The parts of MixHash are divided in other ways.
func both(t *testing.T, random *rand.Rand, a, b side) (side, side) {
	t.Helper()
	input := randomBytes(random, random.Intn(100))
	switch random.Intn(6) {
	case 0:
		a.n = MixHash(a.n, divide(random, input, random.Intn(5))...)
		b.n = MixHash(b.n, divide(random, input, random.Intn(5))...)
	case 1:
		a.n, b.n = MixChain(a.n, input), MixChain(b.n, input)
	case 2:
		a.n, a.k = MixKey(a.n, input)
		b.n, b.k = MixKey(b.n, input)
	case 3:
		shared := randomKey(random)
		a.n, a.k = MixShared(a.n, shared)
		b.n, b.k = MixShared(b.n, shared)
	case 4:
		a.n, b.n = across(t, a, b, input)
	case 5:
		b.n, a.n = across(t, b, a, input)
	}
	return a, b
}

// across returns the states behind a text that one side seals and the other one opens.
func across(t *testing.T, from, to side, plain []byte) (api.Noise, api.Noise) {
	t.Helper()
	sent, sealed := Seal(from.n, from.k, plain)
	got, opened, err := Open(to.n, to.k, sealed)
	if err != api.OK || !bytes.Equal(opened, plain) {
		t.Fatalf("%x is opened as %x with error %d", plain, opened, err)
	}
	return sent, got
}

// P20.4: two sides that take the same steps stay equal, in states and keys.
func TestTwoSides(t *testing.T) {
	random := rand.New(rand.NewSource(13))
	for range 40 {
		public := randomKey(random)
		a, b := side{n: Start(public)}, side{n: Start(public)}
		seen := map[api.Noise]bool{a.n: true}
		for i := range 40 {
			if a, b = both(t, random, a, b); a != b {
				t.Fatalf("behind step %d: %x and %x", i, a, b)
			}
			if seen[a.n] {
				t.Fatalf("behind step %d: %x again", i, a)
			}
			seen[a.n] = true
		}
		one, two := Split(a.n)
		if first, second := Split(b.n); one != first || two != second || one == two {
			t.Errorf("the sides have the keys %x, %x and %x, %x", one, two, first, second)
		}
	}
}

// P20.4: sides that took another step are not equal any more and cannot open what the other one seals.
func TestSidesApart(t *testing.T) {
	n := Start(fixed(1))
	a, k := MixKey(MixHash(n, []byte("a")), []byte("input"))
	for name, step := range map[string]func() (api.Noise, api.Key){
		"other parts":          func() (api.Noise, api.Key) { return MixKey(MixHash(n, []byte("b")), []byte("input")) },
		"no parts":             func() (api.Noise, api.Key) { return MixKey(MixHash(n), []byte("input")) },
		"no step":              func() (api.Noise, api.Key) { return MixKey(n, []byte("input")) },
		"one step more":        func() (api.Noise, api.Key) { return MixKey(MixHash(a, nil), []byte("input")) },
		"another input":        func() (api.Noise, api.Key) { return MixKey(MixHash(n, []byte("a")), []byte("inputs")) },
		"another start":        func() (api.Noise, api.Key) { return MixKey(MixHash(Start(fixed(2)), []byte("a")), []byte("input")) },
		"an input ahead":       func() (api.Noise, api.Key) { return MixKey(MixHash(MixChain(n, nil), []byte("a")), []byte("input")) },
		"in another order":     func() (api.Noise, api.Key) { m, k := MixKey(n, []byte("a")); return MixHash(m, []byte("input")), k },
		"a shared key instead": func() (api.Noise, api.Key) { return MixShared(MixHash(n, []byte("a")), fixed(3)) },
	} {
		b, other := step()
		if b == a {
			t.Errorf("%s: the states are equal", name)
		}
		_, sealed := Seal(b, other, []byte("text"))
		checkRefused(t, name, api.ErrTag, a, k, sealed)
	}
}

// room returns memory with the bytes at its beginning and others behind them, and a copy of it.
func room(b []byte) (memory, kept []byte) {
	memory = append(bytes.Clone(b), bytes.Repeat([]byte{0xa5}, 200)...)
	return memory, bytes.Clone(memory)
}

// R3: the slices that are passed in stay as they are, also the room behind them, and so do the states.
func TestArguments(t *testing.T) {
	random := rand.New(rand.NewSource(14))
	for _, length := range []int{0, 1, 16, 40, 64, 200} {
		n, k, plain := randomState(random), randomKey(random), randomBytes(random, length)
		before, beforeKey := n, k
		_, sealed := Seal(n, k, plain)
		wrong := bytes.Clone(sealed)
		wrong[0] ^= 1
		for _, b := range [][]byte{plain, sealed, wrong} {
			memory, kept := room(b)
			part := memory[:len(b)]
			MixHash(n, part)
			MixHash(n, part, part)
			MixChain(n, part)
			MixKey(n, part)
			Seal(n, k, part)
			Open(n, k, part)
			if !bytes.Equal(memory, kept) {
				t.Errorf("%x was made %x", kept, memory)
			}
		}
		MixShared(n, k)
		Split(n)
		Start(k)
		if n != before || k != beforeKey {
			t.Errorf("a state or a key was changed: %x and %x", n, k)
		}
	}
}

// R3: the slice of the parts stays as it is, also the room behind it.
func TestPartsUnchanged(t *testing.T) {
	texts := []string{"a", "bc", "", "def", "behind the parts", "and more"}
	for count := range len(texts) + 1 {
		var parts [][]byte
		for _, text := range texts {
			parts = append(parts, []byte(text))
		}
		MixHash(knownState(), parts[:count]...)
		for i, text := range texts {
			if string(parts[i]) != text {
				t.Errorf("with %d parts, the part %d is %q", count, i, parts[i])
			}
		}
	}
}

// R3: results share no memory with arguments or with each other.
func TestResults(t *testing.T) {
	random := rand.New(rand.NewSource(15))
	for _, length := range []int{0, 1, 40, 200} {
		n, k, plain := randomState(random), randomKey(random), randomBytes(random, length)
		memory := bytes.Clone(plain)
		behind, sealed := Seal(n, k, memory)
		_, again := Seal(n, k, memory)
		input := bytes.Clone(sealed)
		_, opened, _ := Open(n, k, input)
		_, opened2, _ := Open(n, k, input)
		invert(memory)
		invert(again)
		invert(input)
		invert(opened2)
		if !bytes.Equal(opened, plain) || !bytes.Equal(sealed, aead.Seal(k, api.Nonce{}, plain, n.Hash[:])) {
			t.Errorf("length %d: a result has changed", length)
		}
		invert(sealed)
		if !bytes.Equal(opened, plain) || behind.Chain != n.Chain {
			t.Errorf("length %d: a result has changed with another one", length)
		}
	}
}

// invert changes each byte, and the room behind them.
func invert(b []byte) {
	all := b[:cap(b)]
	for i := range all {
		all[i] ^= 255
	}
}

// R4: a second call returns the same, also with other calls in between.
func TestAgain(t *testing.T) {
	n, k, input := knownState(), knownKey(), []byte("input")
	results := func() string {
		var all []string
		add := func(n api.Noise, more ...[]byte) {
			all = append(all, string(n.Hash[:]), string(n.Chain[:]), string(bytes.Join(more, nil)))
		}
		add(Start(k))
		add(MixHash(n, input, nil, input))
		add(MixChain(n, input))
		behind, key := MixKey(n, input)
		add(behind, key[:])
		behind, key = MixShared(n, k)
		add(behind, key[:])
		behind, sealed := Seal(n, k, input)
		add(behind, sealed)
		behind, opened, _ := Open(n, k, sealed)
		add(behind, opened)
		one, two := Split(n)
		add(api.Noise{}, one[:], two[:])
		return strings.Join(all, "/")
	}
	want := results()
	for range 3 {
		Open(api.Noise{}, k, make([]byte, 20))
		if results() != want {
			t.Error("a second call returns something else")
		}
	}
}

// R5: nil and an empty slice are equivalent.
func TestNothing(t *testing.T) {
	n, k := knownState(), knownKey()
	if MixHash(n) != MixHash(n, []byte{}) || MixHash(n, nil) != MixHash(n, [][]byte{}...) {
		t.Error("MixHash makes a difference between nil and nothing")
	}
	if MixChain(n, nil) != MixChain(n, []byte{}) {
		t.Error("MixChain makes a difference between nil and nothing")
	}
	a, one := MixKey(n, nil)
	if b, two := MixKey(n, []byte{}); a != b || one != two {
		t.Error("MixKey makes a difference between nil and nothing")
	}
	a, sealed := Seal(n, k, nil)
	if b, other := Seal(n, k, []byte{}); a != b || !bytes.Equal(sealed, other) {
		t.Error("Seal makes a difference between nil and nothing")
	}
	checkRefused(t, "nil", api.ErrShort, n, k, nil)
	checkRefused(t, "nothing", api.ErrShort, n, k, []byte{})
}

func BenchmarkMixShared(b *testing.B) {
	n := knownState()
	for b.Loop() {
		n, _ = MixShared(n, api.Key{1})
	}
}
