package inner

import (
	"bytes"

	"burrow/api"
)

const (
	bitsFour = 32 // bits of an address of IPv4
	bitsSix  = 128
	byteBits = 8
)

// address returns the address whose first bytes are b, and whose others are zero.
func address(six bool, b []byte) api.Addr {
	a := api.Addr{Six: six}
	copy(a.IP[:], b)
	return a
}

// size returns the number of bits that may differ among the addresses of the kind of a.
func size(a api.Addr) int {
	if a.Six {
		return bitsSix
	}
	return bitsFour
}

// first returns a with only its first bits, which are from 0 to 128; the others are zero.
func first(a api.Addr, bits int) api.Addr {
	whole := bits / byteBits
	if whole < len(a.IP) {
		a.IP[whole] &^= 0xff >> (bits % byteBits)
		clear(a.IP[whole+1:])
	}
	return a
}

// validAddress reports whether all bits of a that its kind does not have are zero.
func validAddress(a api.Addr) bool {
	return first(a, size(a)) == a
}

// Valid reports whether a prefix is valid: its address is, Bits is from 0 to 32 (128 for IPv6), and all bits behind the first Bits are zero.
func Valid(p api.Prefix) bool {
	// The bits that the kind does not have are behind the first Bits, so that a valid address needs no look of its own.
	return 0 <= p.Bits && p.Bits <= size(p.Addr) && first(p.Addr, p.Bits) == p.Addr
}

// Contains reports whether p is valid, a is valid and of the same kind, and both addresses agree in the first Bits bits.
func Contains(p api.Prefix, a api.Addr) bool {
	return Valid(p) && validAddress(a) && first(a, p.Bits) == p.Addr
}

// Less reports whether a comes before b: IPv4 before IPv6, and then by the bytes of IP.
func Less(a, b api.Addr) bool {
	if a.Six != b.Six {
		return b.Six
	}
	return bytes.Compare(a.IP[:], b.IP[:]) < 0
}
