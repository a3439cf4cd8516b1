package macs

import (
	"bytes"
	"encoding/binary"
	"encoding/hex"
	"go/ast"
	"go/parser"
	"go/token"
	"go/types"
	"math"
	"math/rand"
	"testing"

	"burrow/api"
	"burrow/blake"
	"burrow/message"
	"burrow/xchacha"
)

// count returns so many bytes, each one more than the one ahead of it.
func count(from byte, size int) []byte {
	b := make([]byte, size)
	for i := range b {
		b[i] = from + byte(i)
	}
	return b
}

func fromHex(t *testing.T, text string) []byte {
	t.Helper()
	b, err := hex.DecodeString(text)
	if err != nil {
		t.Fatal(err)
	}
	return b
}

func randomBytes(random *rand.Rand, size int) []byte {
	b := make([]byte, size)
	random.Read(b)
	return b
}

func randomKey(random *rand.Rand) api.Key {
	return api.Key(randomBytes(random, 32))
}

func randomTag(random *rand.Rand) api.Tag {
	return api.Tag(randomBytes(random, 16))
}

// randomFields sets the fields of a message to random bytes.
func randomFields(t *testing.T, random *rand.Rand, fields any) {
	t.Helper()
	if _, err := binary.Decode(randomBytes(random, 200), binary.LittleEndian, fields); err != nil {
		t.Fatal(err)
	}
}

func randomInitiation(t *testing.T, random *rand.Rand) api.Initiation {
	t.Helper()
	var m api.Initiation
	randomFields(t, random, &m)
	return m
}

func randomResponse(t *testing.T, random *rand.Rand) api.Response {
	t.Helper()
	var m api.Response
	randomFields(t, random, &m)
	return m
}

// plainMac1 follows P12.1 word for word.
func plainMac1(public api.Key, part []byte) api.Tag {
	key := blake.Hash([]byte("mac1----"), public[:])
	return blake.Code(key[:], part)
}

// plainCookie follows P12.1 word for word.
func plainCookie(secret api.Key, from api.Endpoint) api.Tag {
	var b []byte
	size := 4
	if from.Addr.Six {
		size = 16
	}
	for i := 0; i < size; i++ {
		b = append(b, from.Addr.IP[i])
	}
	port := (from.Port%65536 + 65536) % 65536
	return blake.Code(secret[:], b, []byte{byte(port / 256), byte(port % 256)})
}

// plainSeal follows P12.2 with the bytes of a message, which has its codes in the last 32 bytes.
func plainSeal(public api.Key, has bool, cookie api.Tag, b []byte) ([]byte, api.Tag) {
	part := bytes.Clone(b[:len(b)-32])
	mac1 := plainMac1(public, part)
	part = append(part, mac1[:]...)
	var mac2 api.Tag
	if has {
		mac2 = blake.Code(cookie[:], part)
	}
	return append(part, mac2[:]...), mac1
}

// plainSize returns the number of bytes of a message of kind 1 or 2, otherwise 0.
func plainSize(b []byte) int {
	switch {
	case len(b) == 148 && bytes.HasPrefix(b, []byte{1, 0, 0, 0}):
		return 148
	case len(b) == 92 && bytes.HasPrefix(b, []byte{2, 0, 0, 0}):
		return 92
	}
	return 0
}

// plainCheckMac1 follows P12.3 word for word.
func plainCheckMac1(public api.Key, b []byte) bool {
	size := plainSize(b)
	return size != 0 && plainMac1(public, b[:size-32]) == api.Tag(b[size-32:size-16])
}

// plainCheckMac2 follows P12.3 word for word.
func plainCheckMac2(cookie api.Tag, b []byte) bool {
	size := plainSize(b)
	return size != 0 && blake.Code(cookie[:], b[:size-16]) == api.Tag(b[size-16:])
}

// plainReply follows P12.4 and the format of chapter 11 word for word.
func plainReply(public api.Key, n api.Long, cookie, mac1 api.Tag, receiver uint32) []byte {
	b := []byte{3, 0, 0, 0}
	b = binary.LittleEndian.AppendUint32(b, receiver)
	b = append(b, n[:]...)
	return append(b, xchacha.Seal(blake.Hash([]byte("cookie--"), public[:]), n, cookie[:], mac1[:])...)
}

// plainOpenReply follows P12.4 word for word.
func plainOpenReply(public api.Key, mac1 api.Tag, b []byte) (api.Tag, api.Errno) {
	if len(b) != 64 || !bytes.HasPrefix(b, []byte{3, 0, 0, 0}) {
		return api.Tag{}, api.ErrType
	}
	cookie, err := xchacha.Open(blake.Hash([]byte("cookie--"), public[:]), api.Long(b[8:32]), b[32:], mac1[:])
	if err != api.OK {
		return api.Tag{}, api.ErrTag
	}
	return api.Tag(cookie), api.OK
}

// check compares both checks of b with the plain versions, and looks whether b is changed.
func check(t *testing.T, public api.Key, cookie api.Tag, b []byte) {
	t.Helper()
	before := bytes.Clone(b)
	if got, want := CheckMac1(public, b), plainCheckMac1(public, b); got != want {
		t.Errorf("CheckMac1 of %x is %v", b, got)
	}
	if got, want := CheckMac2(cookie, b), plainCheckMac2(cookie, b); got != want {
		t.Errorf("CheckMac2 of %x is %v", b, got)
	}
	if !bytes.Equal(b, before) {
		t.Errorf("%x was changed", before)
	}
}

// checkBoth compares both checks of b with what they have to be.
func checkBoth(t *testing.T, name string, public api.Key, cookie api.Tag, b []byte, first, second bool) {
	t.Helper()
	if CheckMac1(public, b) != first || CheckMac2(cookie, b) != second {
		t.Errorf("%s: CheckMac1 %v and CheckMac2 %v for %x", name, CheckMac1(public, b), CheckMac2(cookie, b), b)
	}
	check(t, public, cookie, b)
}

// checkOpen compares OpenReply with the plain version and with the error that it has to return, and looks whether b is changed.
func checkOpen(t *testing.T, public api.Key, mac1 api.Tag, b []byte, want api.Errno) api.Tag {
	t.Helper()
	before := bytes.Clone(b)
	cookie, err := OpenReply(public, mac1, b)
	if plain, plainErr := plainOpenReply(public, mac1, b); cookie != plain || err != plainErr || err != want {
		t.Errorf("OpenReply of %d bytes %x returns %x and error %d, not %x and error %d", len(b), b, cookie, err, plain, want)
	}
	if err != api.OK && cookie != (api.Tag{}) {
		t.Errorf("OpenReply returns %x beside error %d", cookie, err)
	}
	if !bytes.Equal(b, before) {
		t.Errorf("%x was changed", before)
	}
	return cookie
}

// checkSeals compares both functions that seal with the plain version, and the message with what is decoded.
func checkSeals(t *testing.T, public api.Key, has bool, cookie api.Tag, one api.Initiation, two api.Response) {
	t.Helper()
	b, mac1 := SealInitiation(public, has, cookie, one)
	want, wantMac1 := plainSeal(public, has, cookie, message.EncodeInitiation(one))
	if !bytes.Equal(b, want) || mac1 != wantMac1 {
		t.Errorf("SealInitiation with cookie %v returns %x and %x, not %x", has, b, mac1, want)
	}
	back, err := message.DecodeInitiation(b)
	one.Mac1, one.Mac2 = back.Mac1, back.Mac2
	if back != one || back.Mac1 != mac1 || err != api.OK {
		t.Errorf("an initiation became %v with error %d", back, err)
	}
	checkSealed(t, public, has, cookie, b)
	b, mac1 = SealResponse(public, has, cookie, two)
	want, wantMac1 = plainSeal(public, has, cookie, message.EncodeResponse(two))
	if !bytes.Equal(b, want) || mac1 != wantMac1 {
		t.Errorf("SealResponse with cookie %v returns %x and %x, not %x", has, b, mac1, want)
	}
	answer, err := message.DecodeResponse(b)
	two.Mac1, two.Mac2 = answer.Mac1, answer.Mac2
	if answer != two || answer.Mac1 != mac1 || err != api.OK {
		t.Errorf("a response became %v with error %d", answer, err)
	}
	checkSealed(t, public, has, cookie, b)
}

// checkSealed looks at what P12.5 says of a sealed message, and whether there is no second code without a cookie.
func checkSealed(t *testing.T, public api.Key, has bool, cookie api.Tag, b []byte) {
	t.Helper()
	if !CheckMac1(public, b) || CheckMac2(cookie, b) != has {
		t.Errorf("CheckMac1 %v and CheckMac2 %v, with cookie %v, for %x", CheckMac1(public, b), CheckMac2(cookie, b), has, b)
	}
	if bytes.HasSuffix(b, make([]byte, 16)) == has {
		t.Errorf("with cookie %v the message is %x", has, b)
	}
}

// P12.2: the example of the chapter, for both kinds. A cookie that is given makes no difference if has is false.
func TestExample(t *testing.T) {
	for _, cookie := range []api.Tag{{}, api.Tag(count(1, 16))} {
		one, _ := SealInitiation(api.Key{1}, false, cookie, api.Initiation{Sender: 1, Mac2: api.Tag{1}})
		if !bytes.Equal(one[132:], make([]byte, 16)) {
			t.Errorf("the initiation ends with %x", one[132:])
		}
		two, _ := SealResponse(api.Key{1}, false, cookie, api.Response{Sender: 1, Mac2: api.Tag{1}})
		if !bytes.Equal(two[76:], make([]byte, 16)) {
			t.Errorf("the response ends with %x", two[76:])
		}
	}
}

// P12.1: values that another implementation of BLAKE2s has computed.
func TestKnownCodes(t *testing.T) {
	public, secret := api.Key(count(1, 32)), api.Key(count(50, 32))
	if mac := Mac1(public, nil); !bytes.Equal(mac[:], fromHex(t, "31ea2316cecba46e089a4daf3e31d998")) {
		t.Errorf("Mac1 of nothing is %x", mac)
	}
	if mac := Mac1(public, []byte("abc")); !bytes.Equal(mac[:], fromHex(t, "7df55896b2233b6cd98983e4b0719739")) {
		t.Errorf("Mac1 of abc is %x", mac)
	}
	four := api.Endpoint{Addr: api.Addr{IP: [16]byte{10, 0, 0, 1}}, Port: 0x1234}
	if cookie := Cookie(secret, four); !bytes.Equal(cookie[:], fromHex(t, "1ee228a639b77edae911645f8eee9995")) {
		t.Errorf("the cookie of version 4 is %x", cookie)
	}
	six := api.Endpoint{Addr: api.Addr{Six: true, IP: [16]byte(count(0x20, 16))}, Port: 51820}
	if cookie := Cookie(secret, six); !bytes.Equal(cookie[:], fromHex(t, "48d1d1da41eb5a44406ace790fbd2501")) {
		t.Errorf("the cookie of version 6 is %x", cookie)
	}
}

// P12.2: messages whose codes another implementation of BLAKE2s has computed.
func TestKnownMessages(t *testing.T) {
	public, cookie := api.Key(count(1, 32)), api.Tag(count(200, 16))
	one, err := message.DecodeInitiation(append([]byte{1, 0, 0, 0}, count(4, 144)...))
	if err != api.OK {
		t.Fatal(err)
	}
	want := append([]byte{1, 0, 0, 0}, count(4, 112)...)
	want = append(want, fromHex(t, "91c3b32b396df30896b9c9c820aa57a8add7c111566d6814dd3655d27ad41b14")...)
	if b, mac := SealInitiation(public, true, cookie, one); !bytes.Equal(b, want) || !bytes.Equal(mac[:], want[116:132]) {
		t.Errorf("the initiation is %x, its first code %x", b, mac)
	}
	two, err := message.DecodeResponse(append([]byte{2, 0, 0, 0}, count(4, 88)...))
	if err != api.OK {
		t.Fatal(err)
	}
	want = append([]byte{2, 0, 0, 0}, count(4, 56)...)
	want = append(want, fromHex(t, "6afa0527f443c3948da8490ef630c129ab8bb3c0325944a5e37d43b2a06f47f8")...)
	if b, mac := SealResponse(public, true, cookie, two); !bytes.Equal(b, want) || !bytes.Equal(mac[:], want[60:76]) {
		t.Errorf("the response is %x, its first code %x", b, mac)
	}
}

// P12.4: an answer that another implementation of BLAKE2s and XChaCha20-Poly1305 has computed.
func TestKnownReply(t *testing.T) {
	public, cookie, mac1 := api.Key(count(1, 32)), api.Tag(count(200, 16)), api.Tag(count(150, 16))
	want := fromHex(t, "03000000040506076465666768696a6b6c6d6e6f707172737475767778797a7b71e6a8faa3e3f1b484db4d7cc8648876ed347e59117d72e526a565dcea6013a4")
	if b := Reply(public, api.Long(count(100, 24)), cookie, mac1, 0x07060504); !bytes.Equal(b, want) {
		t.Errorf("Reply returns %x", b)
	}
	if back := checkOpen(t, public, mac1, want, api.OK); back != cookie {
		t.Errorf("OpenReply returns %x", back)
	}
}

// P12.1: Mac1 for each number of bytes, and for some that are much more than a message has.
func TestMac1(t *testing.T) {
	random := rand.New(rand.NewSource(1))
	sizes := []int{1 << 10, 1 << 16, 1 << 20}
	for size := range 300 {
		sizes = append(sizes, size)
	}
	for _, size := range sizes {
		public, part := randomKey(random), randomBytes(random, size)
		before := bytes.Clone(part)
		if got, want := Mac1(public, part), plainMac1(public, part); got != want {
			t.Errorf("Mac1 of %d bytes is %x, not %x", size, got, want)
		}
		if !bytes.Equal(part, before) {
			t.Errorf("%d bytes were changed", size)
		}
	}
	if Mac1(api.Key{}, nil) != Mac1(api.Key{}, []byte{}) {
		t.Error("nil and an empty slice have different codes")
	}
}

// P12.1: each bit of the public key and of the part makes a difference, also a part that is one zero byte longer.
func TestMac1EachBit(t *testing.T) {
	random := rand.New(rand.NewSource(2))
	public, part := randomKey(random), randomBytes(random, 116)
	seen := map[api.Tag]bool{Mac1(public, part): true, Mac1(public, append(bytes.Clone(part), 0)): true, Mac1(public, part[:115]): true}
	for bit := range 256 {
		changed := public
		changed[bit/8] ^= 1 << (bit % 8)
		seen[Mac1(changed, part)] = true
	}
	for bit := range 8 * len(part) {
		changed := bytes.Clone(part)
		changed[bit/8] ^= 1 << (bit % 8)
		seen[Mac1(public, changed)] = true
	}
	if want := 3 + 256 + 8*len(part); len(seen) != want {
		t.Errorf("%d codes, not %d", len(seen), want)
	}
}

// checkCookie compares Cookie with the plain version.
func checkCookie(t *testing.T, secret api.Key, from api.Endpoint) {
	t.Helper()
	if got, want := Cookie(secret, from), plainCookie(secret, from); got != want {
		t.Errorf("Cookie of %v is %x, not %x", from, got, want)
	}
}

// P12.1: each port of an address, each bit of the secret, and random endpoints of both versions.
func TestCookie(t *testing.T) {
	random := rand.New(rand.NewSource(3))
	for _, six := range []bool{false, true} {
		secret := randomKey(random)
		from := api.Endpoint{Addr: api.Addr{Six: six, IP: [16]byte(randomBytes(random, 16))}}
		seen := map[api.Tag]bool{}
		for port := range 65536 {
			from.Port = port
			checkCookie(t, secret, from)
			seen[Cookie(secret, from)] = true
		}
		for bit := range 256 {
			changed := secret
			changed[bit/8] ^= 1 << (bit % 8)
			checkCookie(t, changed, from)
			seen[Cookie(changed, from)] = true
		}
		if len(seen) != 65536+256 {
			t.Errorf("%d cookies", len(seen))
		}
		for range 2000 {
			checkCookie(t, randomKey(random), api.Endpoint{Addr: api.Addr{Six: six, IP: [16]byte(randomBytes(random, 16))}, Port: random.Intn(65536)})
		}
	}
}

// P12.1: only the bytes of the address count: the first 4 of version 4, all 16 of version 6, and the two versions differ.
func TestCookieAddress(t *testing.T) {
	secret := api.Key(count(9, 32))
	for _, six := range []bool{false, true} {
		from := api.Endpoint{Addr: api.Addr{Six: six, IP: [16]byte{10, 0, 0, 1}}, Port: 1234}
		cookie := Cookie(secret, from)
		for bit := range 128 {
			changed := from
			changed.Addr.IP[bit/8] ^= 1 << (bit % 8)
			checkCookie(t, secret, changed)
			if counts := six || bit < 32; (Cookie(secret, changed) != cookie) != counts {
				t.Errorf("bit %d of version 6 %v", bit, six)
			}
		}
		from.Addr.Six = !six
		if Cookie(secret, from) == cookie {
			t.Error("the two versions have the same cookie")
		}
	}
}

// P12.1: of a port that is none only the two lowest bytes count.
func TestCookieWrongPort(t *testing.T) {
	secret := api.Key(count(9, 32))
	from := api.Endpoint{Addr: api.Addr{IP: [16]byte{10, 0, 0, 1}}}
	for port, lowest := range map[int]int{-1: 65535, -2: 65534, -65535: 1, -65536: 0, 65536: 0, 65537: 1, 1 << 40: 0, 1<<40 + 0x1234: 0x1234, math.MaxInt64: 65535, math.MinInt64: 0, math.MinInt64 + 258: 258} {
		from.Port = port
		checkCookie(t, secret, from)
		cookie := Cookie(secret, from)
		from.Port = lowest
		if Cookie(secret, from) != cookie {
			t.Errorf("the cookie of port %d is not that of %d", port, lowest)
		}
	}
}

// P12.2 and P12.5: random messages, and messages, keys and cookies of zeros.
func TestSeal(t *testing.T) {
	random := rand.New(rand.NewSource(4))
	for _, has := range []bool{false, true} {
		checkSeals(t, api.Key{}, has, api.Tag{}, api.Initiation{}, api.Response{})
		for range 2000 {
			checkSeals(t, randomKey(random), has, randomTag(random), randomInitiation(t, random), randomResponse(t, random))
		}
	}
}

// P12.2: the codes that the argument has make no difference, and neither does the cookie to the first code.
func TestSealOldCodes(t *testing.T) {
	random := rand.New(rand.NewSource(5))
	public, cookie := randomKey(random), randomTag(random)
	one, two := randomInitiation(t, random), randomResponse(t, random)
	for _, has := range []bool{false, true} {
		oneBytes, oneMac := SealInitiation(public, has, cookie, one)
		twoBytes, twoMac := SealResponse(public, has, cookie, two)
		for range 50 {
			one.Mac1, one.Mac2 = randomTag(random), randomTag(random)
			if b, mac := SealInitiation(public, has, cookie, one); !bytes.Equal(b, oneBytes) || mac != oneMac {
				t.Errorf("old codes change the initiation to %x", b)
			}
			two.Mac1, two.Mac2 = randomTag(random), randomTag(random)
			if b, mac := SealResponse(public, has, cookie, two); !bytes.Equal(b, twoBytes) || mac != twoMac {
				t.Errorf("old codes change the response to %x", b)
			}
			if _, mac := SealInitiation(public, !has, randomTag(random), one); mac != oneMac {
				t.Errorf("another cookie changes the first code of the initiation to %x", mac)
			}
			if _, mac := SealResponse(public, !has, randomTag(random), two); mac != twoMac {
				t.Errorf("another cookie changes the first code of the response to %x", mac)
			}
		}
	}
}

// sealed returns a message of each kind.
func sealed(t *testing.T, random *rand.Rand, public api.Key, has bool, cookie api.Tag) [][]byte {
	t.Helper()
	one, _ := SealInitiation(public, has, cookie, randomInitiation(t, random))
	two, _ := SealResponse(public, has, cookie, randomResponse(t, random))
	return [][]byte{one, two}
}

// P12.3: a change of any bit is seen: by the first check ahead of the second code, by the second one everywhere.
func TestCheckEachBit(t *testing.T) {
	random := rand.New(rand.NewSource(6))
	public, cookie := randomKey(random), randomTag(random)
	for _, b := range sealed(t, random, public, true, cookie) {
		checkBoth(t, "unchanged", public, cookie, b, true, true)
		for bit := range 8 * len(b) {
			b[bit/8] ^= 1 << (bit % 8)
			checkBoth(t, "a changed bit", public, cookie, b, bit/8 >= len(b)-16, false)
			b[bit/8] ^= 1 << (bit % 8)
		}
	}
}

// P12.3: each bit of the public key and of the cookie counts.
func TestCheckOtherKeys(t *testing.T) {
	random := rand.New(rand.NewSource(7))
	public, cookie := randomKey(random), randomTag(random)
	for _, b := range sealed(t, random, public, true, cookie) {
		for bit := range 256 {
			changed := public
			changed[bit/8] ^= 1 << (bit % 8)
			checkBoth(t, "another key", changed, cookie, b, false, true)
		}
		for bit := range 128 {
			changed := cookie
			changed[bit/8] ^= 1 << (bit % 8)
			checkBoth(t, "another cookie", public, changed, b, true, false)
		}
		checkBoth(t, "nothing known", api.Key{}, api.Tag{}, b, false, false)
	}
}

// P12.3: the two checks do not depend on each other, and a second code of zeros is none, not even for a cookie of zeros.
func TestCheckApart(t *testing.T) {
	random := rand.New(rand.NewSource(8))
	public, cookie := randomKey(random), randomTag(random)
	for _, b := range sealed(t, random, public, false, cookie) {
		checkBoth(t, "no cookie", public, cookie, b, true, false)
		checkBoth(t, "no cookie", public, api.Tag{}, b, true, false)
		second := len(b) - 16
		random.Read(b[second:])
		checkBoth(t, "a random second code", public, cookie, b, true, false)
		random.Read(b[second-16 : second])
		mac2 := blake.Code(cookie[:], b[:second])
		copy(b[second:], mac2[:])
		checkBoth(t, "a random first code", public, cookie, b, false, true)
		random.Read(b[second:])
		checkBoth(t, "random codes", public, cookie, b, false, false)
	}
}

// P12.3: codes that differ in their last, their first or all bytes, and codes in each other's place.
func TestCheckOtherCodes(t *testing.T) {
	random := rand.New(rand.NewSource(9))
	public, cookie := randomKey(random), randomTag(random)
	for _, b := range sealed(t, random, public, true, cookie) {
		first, second := len(b)-32, len(b)-16
		for _, places := range [][]int{{first}, {second - 1}, {first, second - 1}, {first, first + 1}} {
			changed := bytes.Clone(b)
			for _, place := range places {
				changed[place] ^= 128
			}
			checkBoth(t, "a changed first code", public, cookie, changed, false, false)
		}
		for _, places := range [][]int{{second}, {len(b) - 1}, {second, len(b) - 1}, {second, second + 1}} {
			changed := bytes.Clone(b)
			for _, place := range places {
				changed[place] ^= 128
			}
			checkBoth(t, "a changed second code", public, cookie, changed, true, false)
		}
		swapped := append(bytes.Clone(b[:first]), append(bytes.Clone(b[second:]), b[first:second]...)...)
		checkBoth(t, "swapped codes", public, cookie, swapped, false, false)
	}
}

// P12.3: a message with right codes that is of another kind, or of no kind.
func TestCheckOtherKinds(t *testing.T) {
	random := rand.New(rand.NewSource(10))
	public, cookie := randomKey(random), randomTag(random)
	for place := range 4 {
		for value := range 256 {
			for _, size := range []int{148, 92, 64, 60, 32} {
				b := randomBytes(random, size)
				copy(b, make([]byte, 4))
				b[place] = byte(value)
				b, _ = plainSeal(public, true, cookie, b)
				right := place == 0 && (value == 1 && size == 148 || value == 2 && size == 92)
				checkBoth(t, "another kind", public, cookie, b, right, right)
			}
		}
	}
	reply := Reply(public, api.Long{}, cookie, api.Tag{}, 1)
	checkBoth(t, "an answer", public, cookie, reply, false, false)
	transport, err := message.EncodeTransport(api.Transport{Body: make([]byte, 132)})
	if err != api.OK {
		t.Fatal(err)
	}
	transport, _ = plainSeal(public, true, cookie, transport)
	checkBoth(t, "a transport message", public, cookie, transport, false, false)
}

// P12.3: messages of each number of bytes, with codes that are right for what is ahead of them.
func TestCheckSizes(t *testing.T) {
	random := rand.New(rand.NewSource(11))
	public, cookie := randomKey(random), randomTag(random)
	checkBoth(t, "nil", public, cookie, nil, false, false)
	for size := range 300 {
		for kind := range byte(5) {
			b := randomBytes(random, max(size, 4))
			copy(b, []byte{kind, 0, 0, 0})
			b = b[:size]
			checkBoth(t, "random codes", public, cookie, b, false, false)
			if size < 4+32 {
				continue
			}
			b, _ = plainSeal(public, true, cookie, b)
			right := kind == 1 && size == 148 || kind == 2 && size == 92
			checkBoth(t, "right codes", public, cookie, b, right, right)
		}
	}
	for _, b := range sealed(t, random, public, true, cookie) {
		checkBoth(t, "a byte less", public, cookie, b[:len(b)-1], false, false)
		checkBoth(t, "a byte less at the start", public, cookie, b[1:], false, false)
		checkBoth(t, "a byte more", public, cookie, append(bytes.Clone(b), 0), false, false)
		checkBoth(t, "many bytes more", public, cookie, append(bytes.Clone(b), make([]byte, 1<<20)...), false, false)
	}
}

// equalCalls returns how often a function of the package calls codec.Equal.
func equalCalls(t *testing.T, name string) int {
	t.Helper()
	file, err := parser.ParseFile(token.NewFileSet(), "macs.go", nil, 0)
	if err != nil {
		t.Fatal(err)
	}
	calls := 0
	for _, decl := range file.Decls {
		function, ok := decl.(*ast.FuncDecl)
		if !ok || function.Name.Name != name {
			continue
		}
		ast.Inspect(function, func(n ast.Node) bool {
			if call, ok := n.(*ast.CallExpr); ok && types.ExprString(call.Fun) == "codec.Equal" {
				calls++
			}
			return true
		})
	}
	return calls
}

// P12.3: the comparison uses codec.Equal, which no result shows.
func TestCheckUsesEqual(t *testing.T) {
	for _, name := range []string{"CheckMac1", "CheckMac2"} {
		if calls := equalCalls(t, name); calls != 1 {
			t.Errorf("%s calls codec.Equal %d times", name, calls)
		}
	}
}

// P12.4 and P12.5: random answers, and one of zeros. What Open returns is the cookie.
func TestReply(t *testing.T) {
	random := rand.New(rand.NewSource(12))
	for i := range 1000 {
		var public api.Key
		var n api.Long
		var cookie, mac1 api.Tag
		var receiver uint32
		if i > 0 {
			public, n, cookie, mac1, receiver = randomKey(random), api.Long(randomBytes(random, 24)), randomTag(random), randomTag(random), random.Uint32()
		}
		b := Reply(public, n, cookie, mac1, receiver)
		if want := plainReply(public, n, cookie, mac1, receiver); !bytes.Equal(b, want) {
			t.Errorf("Reply returns %x, not %x", b, want)
		}
		m, err := message.DecodeCookie(b)
		if m.Receiver != receiver || m.Nonce != n || err != api.OK {
			t.Errorf("an answer became %v with error %d", m, err)
		}
		if back := checkOpen(t, public, mac1, b, api.OK); back != cookie {
			t.Errorf("the cookie %x became %x", cookie, back)
		}
	}
}

// P12.4: each bit of an answer: a changed header is of another kind, a changed receiver is not noticed, everything else is.
func TestOpenReplyEachBit(t *testing.T) {
	random := rand.New(rand.NewSource(13))
	public, cookie, mac1 := randomKey(random), randomTag(random), randomTag(random)
	b := Reply(public, api.Long(randomBytes(random, 24)), cookie, mac1, random.Uint32())
	for bit := range 8 * len(b) {
		want := api.ErrTag
		switch {
		case bit < 32:
			want = api.ErrType
		case bit < 64:
			want = api.OK
		}
		b[bit/8] ^= 1 << (bit % 8)
		if back := checkOpen(t, public, mac1, b, want); want == api.OK && back != cookie {
			t.Errorf("bit %d changes the cookie %x to %x", bit, cookie, back)
		}
		b[bit/8] ^= 1 << (bit % 8)
	}
}

// P12.4: each bit of the public key and of the first code counts.
func TestOpenReplyOtherKeys(t *testing.T) {
	random := rand.New(rand.NewSource(14))
	public, cookie, mac1 := randomKey(random), randomTag(random), randomTag(random)
	b := Reply(public, api.Long(randomBytes(random, 24)), cookie, mac1, 1)
	for bit := range 256 {
		changed := public
		changed[bit/8] ^= 1 << (bit % 8)
		checkOpen(t, changed, mac1, b, api.ErrTag)
	}
	for bit := range 128 {
		changed := mac1
		changed[bit/8] ^= 1 << (bit % 8)
		checkOpen(t, public, changed, b, api.ErrTag)
	}
	checkOpen(t, api.Key{}, api.Tag{}, b, api.ErrTag)
}

// P12.4: ErrType for each other number of bytes and each other header, also where the rest is right. A message of the right form is ErrTag.
func TestOpenReplyErrors(t *testing.T) {
	random := rand.New(rand.NewSource(15))
	public, cookie, mac1 := randomKey(random), randomTag(random), randomTag(random)
	right := Reply(public, api.Long{}, cookie, mac1, 1)
	checkOpen(t, public, mac1, nil, api.ErrType)
	for size := range 300 {
		b := append(bytes.Clone(right), make([]byte, 300)...)[:size]
		if size != 64 {
			checkOpen(t, public, mac1, b, api.ErrType)
		}
	}
	for place := range 4 {
		for value := range 256 {
			b := bytes.Clone(right)
			b[place] = byte(value)
			want := api.ErrType
			if bytes.Equal(b, right) {
				want = api.OK
			}
			checkOpen(t, public, mac1, b, want)
		}
	}
	for _, b := range sealed(t, random, public, true, cookie) {
		checkOpen(t, public, mac1, b, api.ErrType)
	}
	checkOpen(t, public, mac1, append([]byte{4}, make([]byte, 63)...), api.ErrType)
	checkOpen(t, public, mac1, append([]byte{3}, make([]byte, 63)...), api.ErrTag)
	for range 200 {
		checkOpen(t, public, mac1, append([]byte{3, 0, 0, 0}, randomBytes(random, 60)...), api.ErrTag)
	}
}

// P12.1 and P12.4: the two labels give different keys: an answer is not sealed with the key of the first code.
func TestLabels(t *testing.T) {
	public, cookie, mac1 := api.Key(count(1, 32)), api.Tag(count(2, 16)), api.Tag(count(3, 16))
	other := xchacha.Seal(blake.Hash([]byte("mac1----"), public[:]), api.Long{}, cookie[:], mac1[:])
	b := message.EncodeCookie(api.CookieReply{Cookie: [32]byte(other)})
	checkOpen(t, public, mac1, b, api.ErrTag)
}

// P12.5: what a side under load does: it answers with a cookie, the sender opens it and seals its message again, and the second code leads back to the sender's address alone.
func TestUnderLoad(t *testing.T) {
	random := rand.New(rand.NewSource(16))
	public, secret := randomKey(random), randomKey(random)
	from := api.Endpoint{Addr: api.Addr{IP: [16]byte{10, 0, 0, 1}}, Port: 1234}
	m := randomInitiation(t, random)
	b, mac1 := SealInitiation(public, false, api.Tag{}, m)
	checkBoth(t, "without a cookie", public, Cookie(secret, from), b, true, false)
	reply := Reply(public, api.Long(randomBytes(random, 24)), Cookie(secret, from), mac1, m.Sender)
	cookie := checkOpen(t, public, mac1, reply, api.OK)
	b, _ = SealInitiation(public, true, cookie, m)
	checkBoth(t, "with the cookie", public, Cookie(secret, from), b, true, true)
	from.Port++
	checkBoth(t, "from another port", public, Cookie(secret, from), b, true, false)
}

// invert changes each byte of a result, and the room behind it.
func invert(result []byte) {
	room := result[:cap(result)]
	for i := range room {
		room[i] ^= 255
	}
}

// R3 and R4: a second call returns the same, also if the first result was changed, and two results share no memory.
func TestRepeated(t *testing.T) {
	random := rand.New(rand.NewSource(17))
	public, cookie, mac1 := randomKey(random), randomTag(random), randomTag(random)
	one, two := randomInitiation(t, random), randomResponse(t, random)
	for _, has := range []bool{false, true} {
		calls := []func() []byte{
			func() []byte { b, _ := SealInitiation(public, has, cookie, one); return b },
			func() []byte { b, _ := SealResponse(public, has, cookie, two); return b },
			func() []byte { return Reply(public, api.Long{1}, cookie, mac1, 7) },
		}
		for i, call := range calls {
			first, want := call(), call()
			invert(first)
			if again := call(); !bytes.Equal(want, again) {
				t.Errorf("call %d returns %x and then %x", i, want, again)
			}
		}
	}
}

// R3: no argument is changed, not even the room behind its bytes.
func TestArgumentsUnchanged(t *testing.T) {
	random := rand.New(rand.NewSource(18))
	public, cookie, mac1 := randomKey(random), randomTag(random), randomTag(random)
	for _, b := range append(sealed(t, random, public, true, cookie), Reply(public, api.Long{}, cookie, mac1, 1)) {
		memory := append(bytes.Clone(b), randomBytes(random, 100)...)
		before := bytes.Clone(memory)
		part := memory[:len(b)]
		Mac1(public, part)
		CheckMac1(public, part)
		CheckMac2(cookie, part)
		if _, err := OpenReply(public, mac1, part); (err == api.OK) != (len(b) == 64) {
			t.Errorf("OpenReply of %d bytes: error %d", len(b), err)
		}
		if !bytes.Equal(memory, before) {
			t.Errorf("the memory of %d bytes was changed", len(b))
		}
	}
}
