package config

import (
	"fmt"
	"math"
	"math/rand"
	"net/netip"
	"regexp"
	"strconv"
	"strings"
	"testing"

	"burrow/api"
)

const (
	plainFour = `((?:0|[1-9][0-9]{0,2})(?:\.(?:0|[1-9][0-9]{0,2})){3})`
	plainSix  = `([0-9A-Fa-f]{1,4}(?::[0-9A-Fa-f]{1,4}){7})`
	plainBits = `(0|[1-9][0-9]{0,2})`
	plainPort = `([1-9][0-9]{0,4})`
)

var (
	fourForm         = regexp.MustCompile(`^` + plainFour + `$`)
	sixForm          = regexp.MustCompile(`^` + plainSix + `$`)
	fourEndpointForm = regexp.MustCompile(`^` + plainFour + `:` + plainPort + `$`)
	sixEndpointForm  = regexp.MustCompile(`^\[` + plainSix + `\]:` + plainPort + `$`)
	prefixForm       = regexp.MustCompile(`^([^/]*)/` + plainBits + `$`)
)

// four and six return addresses that begin with some bytes.
func four(b ...byte) api.Addr {
	var a api.Addr
	copy(a.IP[:], b)
	return a
}

func six(b ...byte) api.Addr {
	a := api.Addr{Six: true}
	copy(a.IP[:], b)
	return a
}

// plainValidAddr follows the first sentence of P10.3 word for word.
func plainValidAddr(a api.Addr) bool {
	return a.Six || [12]byte(a.IP[4:]) == [12]byte{}
}

// plainValidPrefix follows P10.3 by way of net/netip.
func plainValidPrefix(p api.Prefix) bool {
	ip := netip.AddrFrom16(p.Addr.IP)
	if !p.Addr.Six {
		ip = netip.AddrFrom4([4]byte(p.Addr.IP[:4]))
	}
	prefix := netip.PrefixFrom(ip, p.Bits)
	return plainValidAddr(p.Addr) && prefix.IsValid() && prefix.Masked() == prefix
}

// plainFormatAddr follows P13.1 word for word.
func plainFormatAddr(a api.Addr) string {
	b := a.IP
	switch {
	case !plainValidAddr(a):
		return ""
	case !a.Six:
		return fmt.Sprintf("%d.%d.%d.%d", b[0], b[1], b[2], b[3])
	}
	text := ""
	for i := 0; i < 16; i += 2 {
		text += fmt.Sprintf(":%x", int(b[i])*256+int(b[i+1]))
	}
	return text[1:]
}

// plainFormatEndpoint follows P13.1 word for word.
func plainFormatEndpoint(e api.Endpoint) string {
	switch {
	case !plainValidAddr(e.Addr) || e.Port < 1 || e.Port > 65535:
		return ""
	case e.Addr.Six:
		return fmt.Sprintf("[%s]:%d", plainFormatAddr(e.Addr), e.Port)
	}
	return fmt.Sprintf("%s:%d", plainFormatAddr(e.Addr), e.Port)
}

// plainFormatPrefix follows P13.1 word for word.
func plainFormatPrefix(p api.Prefix) string {
	if !plainValidPrefix(p) {
		return ""
	}
	return fmt.Sprintf("%s/%d", plainFormatAddr(p.Addr), p.Bits)
}

// plainParseAddr follows P13.1 by regular expressions.
func plainParseAddr(s string) (api.Addr, api.Errno) {
	var a api.Addr
	switch {
	case fourForm.MatchString(s):
		for i, text := range strings.Split(s, ".") {
			n, _ := strconv.Atoi(text)
			if n > 255 {
				return api.Addr{}, api.ErrForm
			}
			a.IP[i] = byte(n)
		}
	case sixForm.MatchString(s):
		a.Six = true
		for i, text := range strings.Split(s, ":") {
			n, _ := strconv.ParseInt(text, 16, 64)
			a.IP[2*i], a.IP[2*i+1] = byte(n/256), byte(n%256)
		}
	default:
		return api.Addr{}, api.ErrForm
	}
	return a, api.OK
}

// plainParseEndpoint follows P13.1 by regular expressions.
func plainParseEndpoint(s string) (api.Endpoint, api.Errno) {
	parts := fourEndpointForm.FindStringSubmatch(s)
	if parts == nil {
		parts = sixEndpointForm.FindStringSubmatch(s)
	}
	if parts == nil {
		return api.Endpoint{}, api.ErrForm
	}
	a, err := plainParseAddr(parts[1])
	port, _ := strconv.Atoi(parts[2])
	if err != api.OK || port > 65535 {
		return api.Endpoint{}, api.ErrForm
	}
	return api.Endpoint{Addr: a, Port: port}, api.OK
}

// plainParsePrefix follows P13.1 by regular expressions.
func plainParsePrefix(s string) (api.Prefix, api.Errno) {
	parts := prefixForm.FindStringSubmatch(s)
	if parts == nil {
		return api.Prefix{}, api.ErrForm
	}
	a, err := plainParseAddr(parts[1])
	bits, _ := strconv.Atoi(parts[2])
	p := api.Prefix{Addr: a, Bits: bits}
	if err != api.OK || !plainValidPrefix(p) {
		return api.Prefix{}, api.ErrForm
	}
	return p, api.OK
}

// checkParsers compares the three parsers with the plain versions.
func checkParsers(t *testing.T, s string) {
	t.Helper()
	a, err := ParseAddr(s)
	if want, wantErr := plainParseAddr(s); a != want || err != wantErr {
		t.Errorf("ParseAddr(%q) is %v, %d, not %v, %d", s, a, err, want, wantErr)
	}
	e, err := ParseEndpoint(s)
	if want, wantErr := plainParseEndpoint(s); e != want || err != wantErr {
		t.Errorf("ParseEndpoint(%q) is %v, %d, not %v, %d", s, e, err, want, wantErr)
	}
	p, err := ParsePrefix(s)
	if want, wantErr := plainParsePrefix(s); p != want || err != wantErr {
		t.Errorf("ParsePrefix(%q) is %v, %d, not %v, %d", s, p, err, want, wantErr)
	}
}

// checkAddr compares the texts of an address with the plain version, and reads them.
func checkAddr(t *testing.T, a api.Addr) {
	t.Helper()
	s := FormatAddr(a)
	if want := plainFormatAddr(a); s != want {
		t.Errorf("FormatAddr(%v) is %q, not %q", a, s, want)
	}
	if x, err := ParseAddr(s); s != "" && (err != api.OK || x != a) {
		t.Errorf("ParseAddr(%q) is %v, %d", s, x, err)
	}
}

func checkEndpoint(t *testing.T, e api.Endpoint) {
	t.Helper()
	s := FormatEndpoint(e)
	if want := plainFormatEndpoint(e); s != want {
		t.Errorf("FormatEndpoint(%v) is %q, not %q", e, s, want)
	}
	if x, err := ParseEndpoint(s); s != "" && (err != api.OK || x != e) {
		t.Errorf("ParseEndpoint(%q) is %v, %d", s, x, err)
	}
}

func checkPrefix(t *testing.T, p api.Prefix) {
	t.Helper()
	s := FormatPrefix(p)
	if want := plainFormatPrefix(p); s != want {
		t.Errorf("FormatPrefix(%v) is %q, not %q", p, s, want)
	}
	if x, err := ParsePrefix(s); s != "" && (err != api.OK || x != p) {
		t.Errorf("ParsePrefix(%q) is %v, %d", s, x, err)
	}
}

// randomAddr returns a valid address of either kind, in which many bytes are zero.
func randomAddr(random *rand.Rand) api.Addr {
	a := api.Addr{Six: random.Intn(2) == 0}
	size := 4
	if a.Six {
		size = 16
	}
	for i := range size {
		if random.Intn(2) == 0 {
			a.IP[i] = byte(random.Intn(256) >> random.Intn(8))
		}
	}
	return a
}

func randomEndpoint(random *rand.Rand) api.Endpoint {
	return api.Endpoint{Addr: randomAddr(random), Port: 1 + random.Intn(65535)}
}

// randomPrefix returns a valid prefix of either kind.
func randomPrefix(random *rand.Rand) api.Prefix {
	a := randomAddr(random)
	size := 32
	if a.Six {
		size = 128
	}
	bits := random.Intn(size + 1)
	for bit := bits; bit < size; bit++ {
		a.IP[bit/8] &^= 128 >> (bit % 8)
	}
	return api.Prefix{Addr: a, Bits: bits}
}

// P13.1: the texts of addresses, in both directions.
func TestAddrTexts(t *testing.T) {
	tests := []struct {
		addr api.Addr
		text string
	}{
		{four(), "0.0.0.0"},
		{four(1, 2, 3, 4), "1.2.3.4"},
		{four(10, 0, 255, 1), "10.0.255.1"},
		{four(255, 255, 255, 255), "255.255.255.255"},
		{four(9, 10, 99, 100), "9.10.99.100"},
		{six(), "0:0:0:0:0:0:0:0"},
		{six(0, 1), "1:0:0:0:0:0:0:0"},
		{six(0x20, 0x01, 0x0d, 0xb8), "2001:db8:0:0:0:0:0:0"},
		{six(0, 0x0f, 0, 0x10, 0, 0xff, 1, 0, 0x0f, 0xff, 0x10, 0, 0xab, 0xcd, 0xff, 0xff), "f:10:ff:100:fff:1000:abcd:ffff"},
		{api.Addr{Six: true, IP: [16]byte{15: 1}}, "0:0:0:0:0:0:0:1"},
		{api.Addr{Six: true, IP: [16]byte{10: 255, 11: 255, 12: 10, 13: 1, 14: 2, 15: 3}}, "0:0:0:0:0:ffff:a01:203"},
	}
	for _, test := range tests {
		if got := FormatAddr(test.addr); got != test.text {
			t.Errorf("FormatAddr(%v) is %q, not %q", test.addr, got, test.text)
		}
		if got, err := ParseAddr(test.text); err != api.OK || got != test.addr {
			t.Errorf("ParseAddr(%q) is %v, %d", test.text, got, err)
		}
	}
}

// P13.1: texts that are read, although they are not written so.
func TestLooseAddrTexts(t *testing.T) {
	tests := []struct{ loose, text string }{
		{"0000:0000:0000:0000:0000:0000:0000:0000", "0:0:0:0:0:0:0:0"},
		{"00:000:0:0000:0:00:000:0001", "0:0:0:0:0:0:0:1"},
		{"2001:0db8:0:0:0:0:0:0", "2001:db8:0:0:0:0:0:0"},
		{"ABCD:EF:a:00B:0c:DeF:fF:000F", "abcd:ef:a:b:c:def:ff:f"},
	}
	for _, test := range tests {
		a, err := ParseAddr(test.loose)
		if err != api.OK || FormatAddr(a) != test.text {
			t.Errorf("ParseAddr(%q) is %v, %d", test.loose, a, err)
		}
		e, err := ParseEndpoint("[" + test.loose + "]:1")
		if err != api.OK || FormatEndpoint(e) != "["+test.text+"]:1" {
			t.Errorf("ParseEndpoint([%s]:1) is %v, %d", test.loose, e, err)
		}
		p, err := ParsePrefix(test.loose + "/128")
		if err != api.OK || FormatPrefix(p) != test.text+"/128" {
			t.Errorf("ParsePrefix(%s/128) is %v, %d", test.loose, p, err)
		}
	}
}

// P13.1: each value of each number of an address.
func TestAddrNumbers(t *testing.T) {
	for place := range 4 {
		for n := range 256 {
			a := four(1, 20, 0, 255)
			a.IP[place] = byte(n)
			checkAddr(t, a)
		}
	}
	for place := range 8 {
		for n := range 65536 {
			a := six(0x20, 0x01, 0, 0, 0, 0x0f)
			a.IP[2*place], a.IP[2*place+1] = byte(n>>8), byte(n)
			checkAddr(t, a)
		}
	}
}

// P13.1: the numbers as texts, with and without zeros, in every place of an address.
func TestNumberTexts(t *testing.T) {
	numbers := []string{"", " ", "-0", "+0", "-1", "+1", "1_0", "_1", "0x1", "1e1", "1.", "g", "G", "٣", "00000000000000000000", "18446744073709551616", "4294967297", "12345678901"}
	for n := range 1100 {
		text := strconv.Itoa(n)
		numbers = append(numbers, text, "0"+text, "00"+text)
	}
	for n := 0; n < 0x12000; n += 97 {
		numbers = append(numbers, fmt.Sprintf("%x", n), fmt.Sprintf("%X", n), fmt.Sprintf("%04x", n), fmt.Sprintf("%05x", n))
	}
	for _, n := range numbers {
		for place := range 4 {
			pieces := []string{"10", "0", "255", "1"}
			pieces[place] = n
			s := strings.Join(pieces, ".")
			checkParsers(t, s)
			checkParsers(t, s+":7")
			checkParsers(t, s+"/32")
		}
		for place := range 8 {
			pieces := []string{"2001", "db8", "0", "a", "0", "0", "B", "00c"}
			pieces[place] = n
			s := strings.Join(pieces, ":")
			checkParsers(t, s)
			checkParsers(t, "["+s+"]:7")
			checkParsers(t, s+"/128")
		}
		checkParsers(t, n)
		checkParsers(t, "10.0.0.0:"+n)
		checkParsers(t, "[fd00:0:0:0:0:0:0:0]:"+n)
		checkParsers(t, "0.0.0.0/"+n)
		checkParsers(t, "0:0:0:0:0:0:0:0/"+n)
	}
}

// P13.1: an address of IPv4 is only valid if its other bytes are zero.
func TestInvalidAddr(t *testing.T) {
	for place := 4; place < 16; place++ {
		for bit := range 8 {
			a := four(10)
			a.IP[place] = 1 << bit
			if s := FormatAddr(a); s != "" {
				t.Errorf("FormatAddr(%v) is %q", a, s)
			}
			if s := FormatEndpoint(api.Endpoint{Addr: a, Port: 1}); s != "" {
				t.Errorf("FormatEndpoint(%v) is %q", a, s)
			}
			for bits := range 130 {
				if s := FormatPrefix(api.Prefix{Addr: a, Bits: bits}); s != "" {
					t.Errorf("FormatPrefix(%v, %d) is %q", a, bits, s)
				}
			}
			a.Six = true
			checkAddr(t, a)
		}
	}
}

// P13.1: endpoints as they are written, and as they are not.
func TestEndpointTexts(t *testing.T) {
	if s := FormatEndpoint(api.Endpoint{Addr: four(10, 0, 255, 1), Port: 51820}); s != "10.0.255.1:51820" {
		t.Error(s)
	}
	if s := FormatEndpoint(api.Endpoint{Addr: six(0x20, 0x01, 0x0d, 0xb8), Port: 80}); s != "[2001:db8:0:0:0:0:0:0]:80" {
		t.Error(s)
	}
	if s := FormatEndpoint(api.Endpoint{}); s != "" {
		t.Error(s)
	}
	for _, s := range []string{
		"", ":", "1", ":1", "::1", "[]:1", "[:1", "]:1", "[]", "[", "]", "][:1",
		"10.0.0.1", "10.0.0.1:", "10.0.0.1:0", "10.0.0.1:65536", "10.0.0.1:99999", "10.0.0.1:080", "10.0.0.1:+80", "10.0.0.1:-80",
		"10.0.0.1:80 ", " 10.0.0.1:80", "10.0.0.1 :80", "10.0.0.1: 80", "10.0.0.1:80:80", "10.0.0.1:4294967376", "10.0.0.1::80", "10.0.0.1:8 0",
		"[10.0.0.1]:80", "[10.0.0.1:80", "10.0.0.1]:80", "[10.0.0.1:80]",
		"1:2:3:4:5:6:7:8:80", "1:2:3:4:5:6:7:8", "1:2:3:4:5:6:7:80", "[1:2:3:4:5:6:7:8]", "[1:2:3:4:5:6:7:8]80", "[1:2:3:4:5:6:7:8]:", "[1:2:3:4:5:6:7:8]:0",
		"[1:2:3:4:5:6:7:8:80", "1:2:3:4:5:6:7:8]:80", "[[1:2:3:4:5:6:7:8]]:80", "[1:2:3:4:5:6:7:8]]:80", "[1:2:3:4:5:6:7]:80", "[::1]:80", "(1:2:3:4:5:6:7:8):80",
		"localhost:80", "10.0.0.1:http", "10.0.0:80", "10.0.0.0/8:80",
	} {
		if e, err := ParseEndpoint(s); err != api.ErrForm || e != (api.Endpoint{}) {
			t.Errorf("ParseEndpoint(%q) is %v, %d", s, e, err)
		}
		checkParsers(t, s)
	}
}

// P13.1: each port, and numbers that are none.
func TestPorts(t *testing.T) {
	for port := -3; port < 65540; port++ {
		checkEndpoint(t, api.Endpoint{Addr: four(192, 0, 2, 1), Port: port})
		checkEndpoint(t, api.Endpoint{Addr: six(0xfe, 0x80), Port: port})
		checkParsers(t, "192.0.2.1:"+strconv.Itoa(port))
		checkParsers(t, "[fe80:0:0:0:0:0:0:0]:"+strconv.Itoa(port))
	}
	for _, port := range []int{math.MinInt, math.MaxInt, -65535, -80, 65536 + 80, 1<<32 + 80, 1<<48 + 1, -1<<32 + 80} {
		e := api.Endpoint{Addr: four(192, 0, 2, 1), Port: port}
		if s := FormatEndpoint(e); s != "" {
			t.Errorf("FormatEndpoint(%v) is %q", e, s)
		}
		checkParsers(t, "192.0.2.1:"+strconv.Itoa(port))
	}
}

// P13.1: prefixes as they are written, and as they are not; the example of the chapter.
func TestPrefixTexts(t *testing.T) {
	if s := FormatPrefix(api.Prefix{Addr: four(10), Bits: 8}); s != "10.0.0.0/8" {
		t.Error(s)
	}
	if s := FormatPrefix(api.Prefix{Addr: six(0x20, 0x01, 0x0d, 0xb8), Bits: 32}); s != "2001:db8:0:0:0:0:0:0/32" {
		t.Error(s)
	}
	if s := FormatPrefix(api.Prefix{}); s != "0.0.0.0/0" {
		t.Error(s)
	}
	for _, s := range []string{
		"", "/", "/0", "/8", "10.0.0.0", "10.0.0.0/", "10.0.0.1/8", "10.0.0.0/33", "10.0.0.0/08", "10.0.0.0/00", "10.0.0.0/+8", "10.0.0.0/-8", "10.0.0.0/8/8", "10.0.0.0//8",
		" 10.0.0.0/8", "10.0.0.0/8 ", "10.0.0.0 /8", "10.0.0.0/ 8", "10.0.0.0/8.", "10.0.0.0/255.0.0.0", "10.0.0.0/4294967304", "10/8", "10.0.0/8", "10.0.0.0:8", "10.0.0.0:1/8", "[10.0.0.0]/8",
		"0:0:0:0:0:0:0:0/129", "[0:0:0:0:0:0:0:0]/0", "[0:0:0:0:0:0:0:0/0]", "::/0", "0:0:0:0:0:0:0:1/127", "8000:0:0:0:0:0:0:0/0",
	} {
		if p, err := ParsePrefix(s); err != api.ErrForm || p != (api.Prefix{}) {
			t.Errorf("ParsePrefix(%q) is %v, %d", s, p, err)
		}
		checkParsers(t, s)
	}
}

// P13.1: each number of bits, with each single bit of the address.
func TestPrefixBits(t *testing.T) {
	for bits := -2; bits < 131; bits++ {
		for _, kind := range []bool{false, true} {
			checkPrefix(t, api.Prefix{Addr: api.Addr{Six: kind}, Bits: bits})
			for bit := range 128 {
				p := api.Prefix{Addr: api.Addr{Six: kind}, Bits: bits}
				p.Addr.IP[bit/8] = 128 >> (bit % 8)
				checkPrefix(t, p)
				text := plainFormatAddr(p.Addr)
				checkParsers(t, text+"/"+strconv.Itoa(bits))
			}
		}
	}
	for _, bits := range []int{math.MinInt, math.MaxInt, 256, 264, 1 << 32, 1<<32 + 8, -8, -256} {
		checkPrefix(t, api.Prefix{Addr: four(10), Bits: bits})
		checkPrefix(t, api.Prefix{Addr: six(0xfd), Bits: bits})
	}
}

// P13.1: texts that are no addresses.
func TestWrongAddrTexts(t *testing.T) {
	for _, s := range []string{
		"", ".", "...", "....", "1", "1.2", "1.2.3", "1.2.3.4.5", "1.2.3.", ".2.3.4", "1..3.4", "1.2.3.4.", ".1.2.3.4", "256.0.0.1", "0.0.0.256", "1.2.3.999", "1.2.3.1000", "1.2.3.04", "01.2.3.4", "1.2.3.00",
		"+1.2.3.4", "-1.2.3.4", "1.2.3.4 ", " 1.2.3.4", "1.2. 3.4", "1,2,3,4", "1.2.3.a", "0x1.2.3.4", "1.2.3.4\n", "1.2.3.4\x00", "1.2.3.4294967300", "1.2.3.18446744073709551617",
		":", "::", "::1", ":::::::", "::::::::", "1:2:3:4:5:6:7", "1:2:3:4:5:6:7:", ":2:3:4:5:6:7:8", "1:2:3::5:6:7:8", "1:2:3:4:5:6:7:8:9", "1:2:3:4:5:6:7:8:", ":1:2:3:4:5:6:7:8", "1::8",
		"12345:0:0:0:0:0:0:0", "00000:0:0:0:0:0:0:0", "0:0:0:0:0:0:0:00001", "g:0:0:0:0:0:0:0", "+1:0:0:0:0:0:0:0", "-1:0:0:0:0:0:0:0", "0x1:0:0:0:0:0:0:0", "1_2:0:0:0:0:0:0:0",
		" 1:0:0:0:0:0:0:0", "1:0:0:0:0:0:0:0 ", "1 :0:0:0:0:0:0:0", "1:2:3:4:5:6:1.2.3.4", "1:2:3:4:5:6:7:8.9", "1.2.3.4:5:6:7:8", "[1:2:3:4:5:6:7:8]", "1:2:3:4:5:6:7:8%1", "1:2:3:4:5:6:7:8/128", "1.2.3.4/32", "1.2.3.4:5",
		strings.Repeat(".", 100000), strings.Repeat(":", 100000), strings.Repeat("0", 100000), "1.2.3." + strings.Repeat("0", 100000), "1:2:3:4:5:6:7:" + strings.Repeat("0", 100000),
	} {
		if a, err := ParseAddr(s); err != api.ErrForm || a != (api.Addr{}) {
			t.Errorf("ParseAddr(%q) is %v, %d", s, a, err)
		}
		checkParsers(t, s)
	}
}

// allBytes returns each byte.
func allBytes() []byte {
	var b []byte
	for x := range 256 {
		b = append(b, byte(x))
	}
	return b
}

// changed calls look with each beginning and each end of s, and with every text that differs from s in one byte, which is missing, or another one, or new. The new ones are tried.
func changed(s string, tried []byte, look func(string)) {
	for i := range len(s) + 1 {
		head, tail := s[:i], s[i:]
		look(head)
		look(tail)
		rest := strings.TrimPrefix(tail, s[i:min(i+1, len(s))])
		look(head + rest)
		for _, x := range tried {
			look(head + string([]byte{x}) + tail)
			look(head + string([]byte{x}) + rest)
		}
	}
}

// P13.1: every changed, missing or added byte of right texts.
func TestChangedAddrTexts(t *testing.T) {
	for _, s := range []string{
		"0.0.0.0", "10.20.0.255", "255.1.100.25", "0:0:0:0:0:0:0:0", "2001:db8:0:a:B:0c:00D:1", "ffff:1000:0:0:0:0:0:0009",
		"10.20.0.255:1", "1.2.3.4:65535", "[0:0:0:0:0:0:0:0]:9", "[2001:db8:0:a:B:0c:00D:1]:51820",
		"0.0.0.0/0", "10.0.0.0/8", "10.20.0.255/32", "192.168.128.0/18", "0:0:0:0:0:0:0:0/0", "2001:db8:0:0:0:0:0:0/29", "2001:db8:0:a:B:0c:00D:1/128",
	} {
		changed(s, allBytes(), func(text string) { checkParsers(t, text) })
	}
}

// P13.1: random values, and their texts with capital letters and more zeros.
func TestRandomAddrTexts(t *testing.T) {
	random := rand.New(rand.NewSource(13))
	for range 20000 {
		a, e, p := randomAddr(random), randomEndpoint(random), randomPrefix(random)
		checkAddr(t, a)
		checkEndpoint(t, e)
		checkPrefix(t, p)
		for _, s := range []string{FormatAddr(a), FormatEndpoint(e), FormatPrefix(p)} {
			if s == "" {
				t.Fatal("a valid value without a text")
			}
			checkParsers(t, strings.ToUpper(s))
			checkParsers(t, strings.Replace(s, ":", ":0", 1+random.Intn(3)))
			checkParsers(t, strings.Replace(s, ".", ".0", 1+random.Intn(3)))
		}
	}
}
