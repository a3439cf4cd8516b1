package codec

import (
	"bytes"
	"encoding/base64"
	"encoding/hex"
	"math/rand"
	"strings"
	"testing"

	"burrow/api"
)

// numbers have different bytes, so that an exchange of two of them shows.
var numbers = []uint64{0, 1, 255, 256, 258, 0x0102030405060708, 0xfedcba9876543210, 1 << 63, 1<<64 - 1}

// randomBytes returns bytes that are the same in every run for the same seed.
func randomBytes(seed int64, size int) []byte {
	b := make([]byte, size)
	rand.New(rand.NewSource(seed)).Read(b)
	return b
}

func keyOf(b []byte) api.Key {
	var k api.Key
	copy(k[:], b)
	return k
}

// P1.1

func TestLittleAndBig(t *testing.T) {
	const n = 0x0102030405060708
	little := []byte{8, 7, 6, 5, 4, 3, 2, 1}
	big := []byte{1, 2, 3, 4, 5, 6, 7, 8}
	for size := 1; size <= 8; size++ {
		if b := Little(n, size); !bytes.Equal(b, little[:size]) {
			t.Errorf("Little(%#x, %d) = %v", n, size, b)
		}
		if b := Big(n, size); !bytes.Equal(b, big[8-size:]) {
			t.Errorf("Big(%#x, %d) = %v", n, size, b)
		}
	}
}

func TestLittleAndBigExample(t *testing.T) {
	if b := Little(258, 3); !bytes.Equal(b, []byte{2, 1, 0}) {
		t.Error(b)
	}
	if b := Big(258, 3); !bytes.Equal(b, []byte{0, 1, 2}) {
		t.Error(b)
	}
}

func TestLittleAndBigOfWrongSize(t *testing.T) {
	for _, size := range []int{-1 << 63, -8, -1, 0, 9, 16, 1<<63 - 1} {
		if b := Little(1<<64-1, size); len(b) != 0 {
			t.Errorf("Little of size %d: %v", size, b)
		}
		if b := Big(1<<64-1, size); len(b) != 0 {
			t.Errorf("Big of size %d: %v", size, b)
		}
	}
}

// P1.2

func TestReadNumbers(t *testing.T) {
	cases := []struct {
		b           []byte
		little, big uint64
	}{
		{nil, 0, 0},
		{[]byte{}, 0, 0},
		{[]byte{7}, 7, 7},
		{[]byte{2, 1, 0}, 258, 0x020100},
		{[]byte{0, 1, 2}, 0x020100, 258},
		{[]byte{1, 2, 3, 4, 5, 6, 7, 8}, 0x0807060504030201, 0x0102030405060708},
		{bytes.Repeat([]byte{255}, 8), 1<<64 - 1, 1<<64 - 1},
	}
	for _, c := range cases {
		if n := ReadLittle(c.b); n != c.little {
			t.Errorf("ReadLittle(%v) = %#x", c.b, n)
		}
		if n := ReadBig(c.b); n != c.big {
			t.Errorf("ReadBig(%v) = %#x", c.b, n)
		}
	}
}

func TestReadNumbersModulo(t *testing.T) {
	b := []byte{1, 2, 3, 4, 5, 6, 7, 8, 9, 10}
	if n := ReadLittle(b); n != 0x0807060504030201 {
		t.Errorf("%#x", n)
	}
	if n := ReadBig(b); n != 0x030405060708090a {
		t.Errorf("%#x", n)
	}
	long := randomBytes(1, 1000)
	if n := ReadLittle(long); n != ReadLittle(long[:8]) {
		t.Errorf("%#x", n)
	}
	if n := ReadBig(long); n != ReadBig(long[992:]) {
		t.Errorf("%#x", n)
	}
}

// P1.3

func TestEqual(t *testing.T) {
	cases := []struct {
		a, b  []byte
		equal bool
	}{
		{nil, nil, true},
		{nil, []byte{}, true},
		{[]byte{0}, nil, false},
		{nil, []byte{0}, false},
		{[]byte{1, 2, 3}, []byte{1, 2, 3}, true},
		{[]byte{1, 2, 3}, []byte{1, 2}, false},
		{[]byte{1, 2}, []byte{1, 2, 0}, false},
		{[]byte{1, 2, 3}, []byte{3, 2, 1}, false},
	}
	for _, c := range cases {
		if Equal(c.a, c.b) != c.equal {
			t.Errorf("Equal(%v, %v) is not %v", c.a, c.b, c.equal)
		}
	}
}

func TestEqualSeesEachBit(t *testing.T) {
	a := randomBytes(2, 40)
	for bit := range 8 * len(a) {
		b := bytes.Clone(a)
		b[bit/8] ^= 1 << (bit % 8)
		if Equal(a, b) {
			t.Errorf("bit %d is not compared", bit)
		}
	}
	// Two differences must not cancel each other.
	b := bytes.Clone(a)
	b[3] ^= 1
	b[30] ^= 1
	if Equal(a, b) {
		t.Error("two differences are none")
	}
}

func TestJoin(t *testing.T) {
	cases := []struct {
		parts [][]byte
		want  string
	}{
		{nil, ""},
		{[][]byte{nil}, ""},
		{[][]byte{nil, {}, nil}, ""},
		{[][]byte{[]byte("ab")}, "ab"},
		{[][]byte{[]byte("ab"), nil, []byte("c"), []byte("ab")}, "abcab"},
	}
	for _, c := range cases {
		if b := Join(c.parts...); string(b) != c.want {
			t.Errorf("Join(%q) = %q", c.parts, b)
		}
	}
}

// R3: a result shares no memory with an argument, even if the argument has room for all parts.
func TestJoinSharesNothing(t *testing.T) {
	room := []byte("abcdef")
	first := room[:2]
	joined := Join(first, []byte("xy"))
	if string(room) != "abcdef" {
		t.Errorf("the argument was changed: %q", room)
	}
	joined[0] = 'z'
	if string(first) != "ab" {
		t.Error("the result shares memory with the argument")
	}
	alone := Join(first)
	alone[0] = 'z'
	if string(first) != "ab" {
		t.Error("the result of one part shares memory with it")
	}
}

// P1.4

func TestHex(t *testing.T) {
	if s := Hex([]byte{255, 0}); s != "ff00" {
		t.Error(s)
	}
	if s := Hex(nil); s != "" {
		t.Error(s)
	}
	for x := range 256 {
		b := []byte{byte(x)}
		if s := Hex(b); s != hex.EncodeToString(b) {
			t.Errorf("Hex(%v) = %q", b, s)
		}
	}
}

func TestParseHex(t *testing.T) {
	cases := []struct {
		s    string
		want []byte
	}{
		{"", nil},
		{"00", []byte{0}},
		{"0123456789abcdef", []byte{0x01, 0x23, 0x45, 0x67, 0x89, 0xab, 0xcd, 0xef}},
		{"ABCDEF", []byte{0xab, 0xcd, 0xef}},
		{"aBFf", []byte{0xab, 0xff}},
	}
	for _, c := range cases {
		if b, e := ParseHex(c.s); e != api.OK || !bytes.Equal(b, c.want) {
			t.Errorf("ParseHex(%q) = %v, %d", c.s, b, e)
		}
	}
}

func TestParseHexErrors(t *testing.T) {
	for _, s := range []string{"0", "000", "zzz", "0x", " 0", "0 ", "ab\n1", "é", "００", "00ff0g", "g000"} {
		if b, e := ParseHex(s); e != api.ErrForm || len(b) != 0 {
			t.Errorf("ParseHex(%q) = %v, %d", s, b, e)
		}
	}
}

// Each single byte is tried at both places of a pair.
func TestParseHexDigits(t *testing.T) {
	for x := range 256 {
		c := string([]byte{byte(x)})
		digit := strings.Contains("0123456789abcdefABCDEF", c)
		for _, s := range []string{c + "0", "0" + c} {
			if _, e := ParseHex(s); (e == api.OK) != digit {
				t.Errorf("ParseHex(%q): %d", s, e)
			}
		}
	}
}

// P1.5

func TestTextExample(t *testing.T) {
	zero := strings.Repeat("A", 43) + "="
	if s := Text(api.Key{}); s != zero {
		t.Error(s)
	}
	if k, e := ParseKey(zero); e != api.OK || k != (api.Key{}) {
		t.Error(k, e)
	}
}

func TestTextIsBase64(t *testing.T) {
	for seed := range 200 {
		k := keyOf(randomBytes(int64(seed), 32))
		want := base64.StdEncoding.EncodeToString(k[:])
		if s := Text(k); s != want {
			t.Errorf("Text(%v) = %q", k, s)
		}
		if x, e := ParseKey(want); e != api.OK || x != k {
			t.Errorf("ParseKey(%q) = %v, %d", want, x, e)
		}
	}
}

func TestTextOfEachBit(t *testing.T) {
	for bit := range 256 {
		var k api.Key
		k[bit/8] = 128 >> (bit % 8)
		if s := Text(k); s != base64.StdEncoding.EncodeToString(k[:]) {
			t.Errorf("bit %d: %q", bit, s)
		}
	}
}

func TestParseKeyForm(t *testing.T) {
	a42 := strings.Repeat("A", 42)
	cases := []string{
		"",
		"=",
		a42 + "=",
		a42 + "A",
		a42 + "AA",
		a42 + "A==",
		a42 + "AA=",
		a42 + "==",
		a42 + "A=\n",
		"=" + a42 + "=",
		strings.Repeat("é", 21) + "A=",
		strings.Repeat("é", 43) + "=",
	}
	for _, s := range cases {
		if k, e := ParseKey(s); e != api.ErrForm || k != (api.Key{}) {
			t.Errorf("ParseKey(%q) = %v, %d", s, k, e)
		}
	}
}

// Each single byte is tried at each place of the text of a key whose other characters are valid.
func TestParseKeyCharacters(t *testing.T) {
	valid := Text(keyOf(bytes.Repeat([]byte{0xa5}, 32)))
	for place := range 44 {
		for x := range 256 {
			b := []byte(valid)
			b[place] = byte(x)
			value := strings.IndexByte(base64Chars, byte(x))
			accepted := value >= 0
			switch place {
			case 42:
				accepted = value >= 0 && value%4 == 0
			case 43:
				accepted = x == '='
			}
			k, e := ParseKey(string(b))
			if accepted && (e != api.OK || Text(k) != string(b)) || !accepted && (e != api.ErrForm || k != (api.Key{})) {
				t.Errorf("ParseKey(%q) = %v, %d", b, k, e)
			}
		}
	}
}

// P1.6

func TestNumbersReturn(t *testing.T) {
	for _, n := range numbers {
		if x := ReadLittle(Little(n, 8)); x != n {
			t.Errorf("little: %#x became %#x", n, x)
		}
		if x := ReadBig(Big(n, 8)); x != n {
			t.Errorf("big: %#x became %#x", n, x)
		}
	}
}

func TestHexReturns(t *testing.T) {
	for size := range 100 {
		b := randomBytes(int64(size), size)
		if x, e := ParseHex(Hex(b)); e != api.OK || !bytes.Equal(x, b) {
			t.Errorf("%v became %v, %d", b, x, e)
		}
	}
}

func TestKeysReturn(t *testing.T) {
	for seed := range 200 {
		k := keyOf(randomBytes(int64(1000+seed), 32))
		if x, e := ParseKey(Text(k)); e != api.OK || x != k {
			t.Errorf("%v became %v, %d", k, x, e)
		}
	}
}
