package config

import (
	"strconv"
	"strings"

	"burrow/api"
	"burrow/codec"
	"burrow/inner"
)

const (
	fourNumbers = 4 // of an address of IPv4, each of one byte
	sixNumbers  = 8 // of an address of IPv6
	sixBytes    = 2 // of a number of an address of IPv6
	sixDigits   = 2 * sixBytes
	maxByte     = 255
	maxPort     = 65535
	maxDigits   = 10 // of a decimal number
)

// FormatAddr returns the text of a valid address, otherwise the empty text.
func FormatAddr(a api.Addr) string {
	switch {
	case !validAddr(a):
		return ""
	case a.Six:
		return formatSix(a.IP)
	}
	return formatFour(a.IP)
}

// validAddr reports whether an address is valid: the prefix without bits contains just the valid addresses of its kind.
func validAddr(a api.Addr) bool {
	return inner.Contains(api.Prefix{Addr: api.Addr{Six: a.Six}}, a)
}

func formatFour(ip [16]byte) string {
	var numbers []string
	for i := range fourNumbers {
		numbers = append(numbers, strconv.Itoa(int(ip[i])))
	}
	return strings.Join(numbers, ".")
}

func formatSix(ip [16]byte) string {
	var numbers []string
	for i := range sixNumbers {
		n := codec.ReadBig(ip[sixBytes*i : sixBytes*(i+1)])
		numbers = append(numbers, strconv.FormatUint(n, 16))
	}
	return strings.Join(numbers, ":")
}

// ParseAddr returns the address of a text. Error: ErrForm.
func ParseAddr(s string) (api.Addr, api.Errno) {
	if strings.Contains(s, ":") {
		return parseSix(s)
	}
	return parseFour(s)
}

func parseFour(s string) (api.Addr, api.Errno) {
	// Dots that are too many stay in the last piece, which is no number then.
	pieces := strings.SplitN(s, ".", fourNumbers)
	if len(pieces) != fourNumbers {
		return api.Addr{}, api.ErrForm
	}
	var a api.Addr
	for i, piece := range pieces {
		n, err := number(piece)
		if err != api.OK || n > maxByte {
			return api.Addr{}, api.ErrForm
		}
		a.IP[i] = byte(n)
	}
	return a, api.OK
}

func parseSix(s string) (api.Addr, api.Errno) {
	pieces := strings.SplitN(s, ":", sixNumbers)
	if len(pieces) != sixNumbers {
		return api.Addr{}, api.ErrForm
	}
	a := api.Addr{Six: true}
	for i, piece := range pieces {
		b, err := hexNumber(piece)
		if err != api.OK {
			return api.Addr{}, api.ErrForm
		}
		copy(a.IP[sixBytes*i:], b)
	}
	return a, api.OK
}

// hexNumber returns the bytes of a number of an address of IPv6. Error: ErrForm.
func hexNumber(s string) ([]byte, api.Errno) {
	if s == "" || len(s) > sixDigits {
		return nil, api.ErrForm
	}
	return codec.ParseHex(strings.Repeat("0", sixDigits-len(s)) + s)
}

// number returns the value of a decimal number without a sign and unnecessary zeros, and with at most maxDigits digits. Error: ErrForm.
func number(s string) (int64, api.Errno) {
	if len(s) > maxDigits || len(s) > 1 && s[0] == '0' {
		return 0, api.ErrForm
	}
	// ParseUint accepts no sign, and underscores only where it is to find the base.
	n, err := strconv.ParseUint(s, 10, 64)
	if err != nil {
		return 0, api.ErrForm
	}
	return int64(n), api.OK
}

// FormatEndpoint returns the text of a valid address with a port from 1 to 65535, otherwise the empty text.
func FormatEndpoint(e api.Endpoint) string {
	host := FormatAddr(e.Addr)
	if host == "" || !validPort(e.Port) {
		return ""
	}
	if e.Addr.Six {
		host = "[" + host + "]"
	}
	return host + ":" + strconv.Itoa(e.Port)
}

// validPort reports whether a port is one of an endpoint. The port of a daemon may also be 0.
func validPort(port int) bool {
	return 1 <= port && port <= maxPort
}

// ParseEndpoint returns the endpoint of a text. Error: ErrForm.
func ParseEndpoint(s string) (api.Endpoint, api.Errno) {
	colon := strings.LastIndex(s, ":")
	if colon < 0 {
		return api.Endpoint{}, api.ErrForm
	}
	host, bracketed := unwrap(s[:colon])
	a, errHost := ParseAddr(host)
	port, errPort := number(s[colon+1:])
	if errHost != api.OK || errPort != api.OK || a.Six != bracketed || !validPort(int(port)) {
		return api.Endpoint{}, api.ErrForm
	}
	return api.Endpoint{Addr: a, Port: int(port)}, api.OK
}

// unwrap returns what square brackets enclose, and true; s and false if they do not enclose it.
func unwrap(s string) (string, bool) {
	if strings.HasPrefix(s, "[") && strings.HasSuffix(s, "]") {
		return s[1 : len(s)-1], true
	}
	return s, false
}

// FormatPrefix returns the text of a valid prefix, otherwise the empty text.
func FormatPrefix(p api.Prefix) string {
	if !inner.Valid(p) {
		return ""
	}
	return FormatAddr(p.Addr) + "/" + strconv.Itoa(p.Bits)
}

// ParsePrefix returns the prefix of a text. Error: ErrForm.
func ParsePrefix(s string) (api.Prefix, api.Errno) {
	host, size, _ := strings.Cut(s, "/")
	a, errHost := ParseAddr(host)
	bits, errBits := number(size)
	p := api.Prefix{Addr: a, Bits: int(bits)}
	if errHost != api.OK || errBits != api.OK || !inner.Valid(p) {
		return api.Prefix{}, api.ErrForm
	}
	return p, api.OK
}
