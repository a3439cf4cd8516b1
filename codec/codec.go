// Package codec converts numbers and keys to bytes and text and back. It is layer 1: see shared/doc/01-codec.md.
package codec

import (
	"slices"
	"strings"

	"burrow/api"
)

const (
	maxNumber   = 8 // bytes of a number
	hexDigits   = "0123456789abcdef"
	base64Chars = "ABCDEFGHIJKLMNOPQRSTUVWXYZabcdefghijklmnopqrstuvwxyz0123456789+/"
	keyText     = 44 // characters of a key in base64
	padding     = '='
)

// A key is converted in groups of three bytes, which are four characters. The last group is filled up with a byte that does not belong to the key.
const (
	groupBytes = 3
	groupChars = 4
	groups     = keyText / groupChars
	filledKey  = groups * groupBytes
)

// Little returns the size lowest bytes of n, the least significant one first. It returns nothing if size is not from 1 to 8.
func Little(n uint64, size int) []byte {
	if size < 1 || size > maxNumber {
		return nil
	}
	b := make([]byte, size)
	for i := range size {
		b[i] = byte(n >> (8 * i))
	}
	return b
}

// Big returns the bytes of Little with the most significant one first.
func Big(n uint64, size int) []byte {
	b := Little(n, size)
	slices.Reverse(b)
	return b
}

// ReadLittle returns the number whose bytes are b, the least significant one first, modulo 2^64.
func ReadLittle(b []byte) uint64 {
	var n uint64
	for i := range min(len(b), maxNumber) {
		n |= uint64(b[i]) << (8 * i)
	}
	return n
}

// ReadBig returns the number whose bytes are b, the most significant one first, modulo 2^64.
func ReadBig(b []byte) uint64 {
	var n uint64
	for _, x := range b {
		n = n<<8 | uint64(x)
	}
	return n
}

// Equal reports whether a and b have the same length and the same bytes. It looks at all bytes of two equally long arguments, because the time until the first difference would help to guess a tag.
func Equal(a, b []byte) bool {
	if len(a) != len(b) {
		return false
	}
	var differences byte
	for i := range len(a) {
		differences |= a[i] ^ b[i]
	}
	return differences == 0
}

// Join returns the parts one after the other.
func Join(parts ...[]byte) []byte {
	size := 0
	for _, part := range parts {
		size += len(part)
	}
	joined := make([]byte, 0, size)
	for _, part := range parts {
		joined = append(joined, part...)
	}
	return joined
}

// Hex returns two lower-case hexadecimal digits for each byte.
func Hex(b []byte) string {
	text := make([]byte, 0, 2*len(b))
	for _, x := range b {
		text = append(text, hexDigits[x>>4], hexDigits[x&15])
	}
	return string(text)
}

// ParseHex returns the bytes of a text of hexadecimal digits in either case.
func ParseHex(s string) ([]byte, api.Errno) {
	if len(s)%2 != 0 {
		return nil, api.ErrForm
	}
	b := make([]byte, len(s)/2)
	for i := range len(b) {
		high, okHigh := hexValue(s[2*i])
		low, okLow := hexValue(s[2*i+1])
		if !okHigh || !okLow {
			return nil, api.ErrForm
		}
		b[i] = high<<4 | low
	}
	return b, api.OK
}

func hexValue(c byte) (byte, bool) {
	switch {
	case '0' <= c && c <= '9':
		return c - '0', true
	case 'a' <= c && c <= 'f':
		return c - 'a' + 10, true
	case 'A' <= c && c <= 'F':
		return c - 'A' + 10, true
	}
	return 0, false
}

// Text returns the key in base64.
func Text(k api.Key) string {
	var filled [filledKey]byte
	copy(filled[:], k[:])
	text := make([]byte, 0, keyText)
	for g := range groups {
		n := ReadBig(filled[g*groupBytes : (g+1)*groupBytes])
		for c := range groupChars {
			text = append(text, base64Chars[n>>(6*(groupChars-1-c))&63])
		}
	}
	text[keyText-1] = padding
	return string(text)
}

// ParseKey returns the key of a text in base64. It accepts only texts that Text returns.
func ParseKey(s string) (api.Key, api.Errno) {
	if len(s) != keyText || s[keyText-1] != padding {
		return api.Key{}, api.ErrForm
	}
	// The padding stands for six bits that are 0.
	digits := s[:keyText-1] + base64Chars[:1]
	var filled [filledKey]byte
	for g := range groups {
		n, ok := readGroup(digits[g*groupChars : (g+1)*groupChars])
		if !ok {
			return api.Key{}, api.ErrForm
		}
		copy(filled[g*groupBytes:], Big(n, groupBytes))
	}
	if filled[filledKey-1] != 0 {
		return api.Key{}, api.ErrForm
	}
	var k api.Key
	copy(k[:], filled[:])
	return k, api.OK
}

func readGroup(digits string) (uint64, bool) {
	var n uint64
	for i := range len(digits) {
		value := strings.IndexByte(base64Chars, digits[i])
		if value < 0 {
			return 0, false
		}
		n = n<<6 | uint64(value)
	}
	return n, true
}
