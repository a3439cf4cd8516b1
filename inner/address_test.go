package inner

import (
	"math"
	"math/rand"
	"net/netip"
	"slices"
	"testing"

	"burrow/api"
)

// bitOf returns a bit of an address; 0 is the most significant one of the first byte.
func bitOf(a api.Addr, bit int) byte {
	return a.IP[bit/8] >> (7 - bit%8) & 1
}

// flip returns the address with another value of this bit.
func flip(a api.Addr, bit int) api.Addr {
	a.IP[bit/8] ^= 1 << (7 - bit%8)
	return a
}

// bitsOf returns the number of bits of an address.
func bitsOf(six bool) int {
	if six {
		return 128
	}
	return 32
}

// plainValidAddress follows the first sentence of P10.3 word for word.
func plainValidAddress(a api.Addr) bool {
	for _, x := range a.IP[4:] {
		if x != 0 && !a.Six {
			return false
		}
	}
	return true
}

// plainValid follows P10.3 word for word, bit by bit.
func plainValid(p api.Prefix) bool {
	if !plainValidAddress(p.Addr) || p.Bits < 0 || p.Bits > bitsOf(p.Addr.Six) {
		return false
	}
	for bit := p.Bits; bit < 128; bit++ {
		if bitOf(p.Addr, bit) != 0 {
			return false
		}
	}
	return true
}

// plainContains follows P10.3 word for word, bit by bit.
func plainContains(p api.Prefix, a api.Addr) bool {
	if !plainValid(p) || !plainValidAddress(a) || p.Addr.Six != a.Six {
		return false
	}
	for bit := range p.Bits {
		if bitOf(p.Addr, bit) != bitOf(a, bit) {
			return false
		}
	}
	return true
}

// plainLess follows P10.3 word for word.
func plainLess(a, b api.Addr) bool {
	if a.Six != b.Six {
		return !a.Six && b.Six
	}
	for i := range a.IP {
		if a.IP[i] != b.IP[i] {
			return a.IP[i] < b.IP[i]
		}
	}
	return false
}

// checkPrefix compares Valid and Contains with the plain versions.
func checkPrefix(t *testing.T, p api.Prefix, a api.Addr) {
	t.Helper()
	if got, want := Valid(p), plainValid(p); got != want {
		t.Errorf("Valid(%v) is %t", p, got)
	}
	if got, want := Contains(p, a), plainContains(p, a); got != want {
		t.Errorf("Contains(%v, %v) is %t", p, a, got)
	}
}

// prefixOf returns the prefix of a text.
func prefixOf(text string) api.Prefix {
	p := netip.MustParsePrefix(text)
	return api.Prefix{Addr: ipOf(p.Addr().String()), Bits: p.Bits()}
}

// kindOf returns the same bytes as an address of the other kind or of the same one.
func kindOf(six bool, a api.Addr) api.Addr {
	a.Six = six
	return a
}

// cutTo returns the address with zero bits behind the first ones.
func cutTo(a api.Addr, bits int) api.Addr {
	for bit := bits; bit < 128; bit++ {
		if bitOf(a, bit) != 0 {
			a = flip(a, bit)
		}
	}
	return a
}

// randomAddr returns a valid address of either kind.
func randomAddr(random *rand.Rand, six bool) api.Addr {
	a := api.Addr{Six: six}
	if six {
		random.Read(a.IP[:])
	} else {
		random.Read(a.IP[:4])
	}
	return a
}

// P10.3: prefixes as they are written.
func TestContains(t *testing.T) {
	tests := []struct {
		prefix, addr string
		want         bool
	}{
		{"10.0.0.0/8", "10.1.2.3", true},
		{"10.1.0.0/16", "10.1.2.3", true},
		{"10.1.0.0/16", "10.0.2.3", false},
		{"10.0.0.0/8", "11.0.0.0", false},
		{"10.0.0.0/8", "9.255.255.255", false},
		{"10.0.0.0/7", "11.255.255.255", true},
		{"10.0.0.0/7", "12.0.0.0", false},
		{"10.1.2.3/32", "10.1.2.3", true},
		{"10.1.2.3/32", "10.1.2.2", false},
		{"10.1.2.2/31", "10.1.2.3", true},
		{"0.0.0.0/0", "0.0.0.0", true},
		{"0.0.0.0/0", "255.255.255.255", true},
		{"128.0.0.0/1", "255.255.255.255", true},
		{"128.0.0.0/1", "127.255.255.255", false},
		{"0.0.0.0/0", "::", false},
		{"::/0", "0.0.0.0", false},
		{"::/0", "::", true},
		{"::/0", "ffff::ffff", true},
		{"2001:db8::/32", "2001:db8:1::1", true},
		{"2001:db8::/32", "2001:db9::1", false},
		{"2001:db8::/33", "2001:db8:8000::", false},
		{"2001:db8::1/128", "2001:db8::1", true},
		{"2001:db8::1/128", "2001:db8::", false},
		{"::ffff:0:0/96", "10.0.0.1", false},
		{"a00::/8", "10.0.0.0", false},
		{"10.0.0.0/8", "a00::", false},
	}
	for _, test := range tests {
		p, a := prefixOf(test.prefix), ipOf(test.addr)
		if !Valid(p) {
			t.Errorf("%s is not valid", test.prefix)
		}
		if got := Contains(p, a); got != test.want {
			t.Errorf("%s contains %s: %t", test.prefix, test.addr, got)
		}
	}
}

// P10.3: Bits out of range, also where its lowest bits are in range.
func TestBitsRange(t *testing.T) {
	for _, six := range []bool{false, true} {
		most := bitsOf(six)
		a := api.Addr{Six: six}
		for _, bits := range []int{math.MinInt, math.MinInt + 8, -1 << 32, -256, -128, -33, -9, -8, -7, -2, -1,
			most + 1, most + 2, most + 7, most + 8, 129, 136, 256, 264, 1 << 32, 1<<32 + 8, math.MaxInt - 8, math.MaxInt} {
			p := api.Prefix{Addr: a, Bits: bits}
			if Valid(p) || Contains(p, a) {
				t.Errorf("%v is valid", p)
			}
		}
		for bits := range most + 1 {
			p := api.Prefix{Addr: a, Bits: bits}
			if !Valid(p) || !Contains(p, a) {
				t.Errorf("%v is not valid", p)
			}
		}
	}
}

// P10.3: one bit of the address is set, for each Bits.
func TestEachBit(t *testing.T) {
	for _, six := range []bool{false, true} {
		for bit := range 128 {
			a := flip(api.Addr{Six: six}, bit)
			for bits := -3; bits < 140; bits++ {
				p := api.Prefix{Addr: a, Bits: bits}
				checkPrefix(t, p, a)
				checkPrefix(t, p, api.Addr{Six: six})
				checkPrefix(t, api.Prefix{Addr: api.Addr{Six: six}, Bits: bits}, a)
				checkPrefix(t, p, kindOf(!six, a))
			}
		}
	}
}

// P10.3: addresses that differ from that of a prefix in one bit, or in all bits behind one.
func TestContainsEachBit(t *testing.T) {
	random := rand.New(rand.NewSource(1))
	for _, six := range []bool{false, true} {
		for range 5 {
			a := randomAddr(random, six)
			for bits := range 129 {
				p := api.Prefix{Addr: cutTo(a, bits), Bits: bits}
				for bit := range 128 {
					checkPrefix(t, p, flip(a, bit))
					checkPrefix(t, p, cutTo(a, bit))
					checkPrefix(t, p, kindOf(!six, cutTo(a, bit)))
				}
			}
		}
	}
}

// P10.3: an address of IPv4 that is not valid is in no prefix, and no prefix with it is valid.
func TestInvalidAddress(t *testing.T) {
	for place := 4; place < 16; place++ {
		for _, x := range []byte{1, 2, 128, 255} {
			a := ipOf("10.1.2.3")
			a.IP[place] = x
			for bits := range 33 {
				good := api.Prefix{Addr: cutTo(ipOf("10.1.2.3"), bits), Bits: bits}
				if !Contains(good, ipOf("10.1.2.3")) || Contains(good, a) {
					t.Errorf("%v contains %v", good, a)
				}
				bad := good
				bad.Addr.IP[place] = x
				if Valid(bad) || Contains(bad, a) || Contains(bad, ipOf("10.1.2.3")) {
					t.Errorf("%v is valid", bad)
				}
			}
		}
	}
}

// P10.3: an address in a prefix that is not valid, because of a bit behind the first ones.
func TestInvalidPrefix(t *testing.T) {
	for _, six := range []bool{false, true} {
		most := bitsOf(six)
		for bits := range most {
			for bit := bits; bit < most; bit++ {
				a := flip(api.Addr{Six: six}, bit)
				p := api.Prefix{Addr: a, Bits: bits}
				if Valid(p) || Contains(p, a) || Contains(p, api.Addr{Six: six}) {
					t.Errorf("%v is valid", p)
				}
			}
		}
	}
}

// P10.3: the library agrees about random prefixes and addresses.
func TestContainsLikeLibrary(t *testing.T) {
	random := rand.New(rand.NewSource(2))
	for range 50000 {
		six := random.Intn(2) == 0
		a, b := randomAddr(random, six), randomAddr(random, six)
		bits := random.Intn(bitsOf(six) + 1)
		copy(b.IP[:], a.IP[:random.Intn(17)])
		if !six {
			clear(b.IP[4:])
		}
		whole := netip.PrefixFrom(libraryAddr(a), bits)
		p := api.Prefix{Addr: a, Bits: bits}
		if got, want := Valid(p), whole.Masked() == whole; got != want {
			t.Errorf("Valid(%v) is %t", p, got)
		}
		p.Addr = cutTo(a, bits)
		if got, want := Contains(p, b), whole.Contains(libraryAddr(b)); got != want {
			t.Errorf("Contains(%v, %v) is %t", p, b, got)
		}
		if got, want := Less(a, b), libraryAddr(a).Less(libraryAddr(b)); got != want {
			t.Errorf("Less(%v, %v) is %t", a, b, got)
		}
	}
}

// libraryAddr returns a valid address as the library has it.
func libraryAddr(a api.Addr) netip.Addr {
	if a.Six {
		return netip.AddrFrom16(a.IP)
	}
	return netip.AddrFrom4([4]byte(a.IP[:4]))
}

// P10.3: any prefixes and addresses, few of which are valid.
func TestAnyPrefixes(t *testing.T) {
	random := rand.New(rand.NewSource(3))
	for range 50000 {
		p := api.Prefix{Addr: randomAddr(random, true), Bits: random.Intn(160) - 16}
		p.Addr = cutTo(kindOf(random.Intn(2) == 0, p.Addr), random.Intn(129))
		a := kindOf(random.Intn(2) == 0, randomAddr(random, true))
		copy(a.IP[:], p.Addr.IP[:random.Intn(17)])
		checkPrefix(t, p, cutTo(a, random.Intn(129)))
	}
}

// P10.3: the first byte that differs decides, whatever the others are; bytes are compared without a sign.
func TestLessEachByte(t *testing.T) {
	values := []byte{0, 1, 2, 126, 127, 128, 129, 254, 255}
	for _, six := range []bool{false, true} {
		for place := range 16 {
			for _, x := range values {
				for _, y := range values {
					a, b := api.Addr{Six: six}, api.Addr{Six: six}
					for later := place + 1; later < 16; later++ {
						a.IP[later], b.IP[later] = 255-x, 255-y
					}
					a.IP[place], b.IP[place] = x, y
					if got, want := Less(a, b), x < y; got != want {
						t.Errorf("Less(%v, %v) is %t", a, b, got)
					}
				}
			}
		}
	}
}

// P10.3: each address of IPv4 comes before each one of IPv6, whatever their bytes are.
func TestLessKinds(t *testing.T) {
	random := rand.New(rand.NewSource(4))
	for range 1000 {
		four, six := kindOf(false, randomAddr(random, true)), randomAddr(random, true)
		for _, same := range []api.Addr{six, kindOf(true, four), {Six: true}} {
			if !Less(four, same) || Less(same, four) {
				t.Errorf("%v does not come before %v", four, same)
			}
		}
	}
}

// P10.3: the order of all pairs of some addresses, which gives each of them its place.
func TestLessOrder(t *testing.T) {
	sorted := []api.Addr{ipOf("0.0.0.0"), ipOf("0.0.0.1"), ipOf("0.0.1.0"), ipOf("9.255.255.255"), ipOf("10.0.0.0"), ipOf("10.0.0.1"),
		{IP: [16]byte{10, 0, 0, 1, 1}}, {IP: [16]byte{10, 0, 0, 1, 2}}, ipOf("127.255.255.255"), ipOf("128.0.0.0"), ipOf("255.255.255.255"),
		ipOf("::"), ipOf("::1"), ipOf("::a00:1"), ipOf("::ffff:ffff"), ipOf("a00::"), ipOf("a00:1::"), ipOf("8000::"), ipOf("ffff::")}
	for i, a := range sorted {
		for j, b := range sorted {
			if got := Less(a, b); got != (i < j) {
				t.Errorf("Less(%v, %v) is %t", a, b, got)
			}
		}
	}
}

// P10.3: any addresses, with a common beginning of every length; no address comes before itself.
func TestLessAnyAddresses(t *testing.T) {
	random := rand.New(rand.NewSource(5))
	for range 20000 {
		a := kindOf(random.Intn(2) == 0, randomAddr(random, true))
		b := kindOf(random.Intn(4) == 0 != a.Six, randomAddr(random, true))
		copy(b.IP[:], a.IP[:random.Intn(17)])
		if Less(a, b) != plainLess(a, b) || Less(b, a) != plainLess(b, a) {
			t.Errorf("Less(%v, %v) is %t, and the other way round %t", a, b, Less(a, b), Less(b, a))
		}
		if Less(a, a) || Less(b, b) {
			t.Errorf("%v or %v comes before itself", a, b)
		}
	}
}

// P10.1 and P10.3: the addresses of a packet are valid and of its kind.
func TestAddressesOfPackets(t *testing.T) {
	random := rand.New(rand.NewSource(6))
	for range 1000 {
		four, six := fourPacket(random, 30, 5, 30), sixPacket(random, 50, 10)
		for kind, packet := range [][]byte{four, six} {
			info, err := Check(packet)
			for _, a := range []api.Addr{info.Source, info.Dest} {
				all := api.Prefix{Addr: api.Addr{Six: kind == 1}}
				if err != api.OK || !Contains(all, a) {
					t.Errorf("%v of %x, error %d", a, start(packet), err)
				}
			}
		}
	}
}

// P10.3: sorting with Less gives the same list from any order.
func TestSorting(t *testing.T) {
	random := rand.New(rand.NewSource(7))
	var list []api.Addr
	for range 200 {
		list = append(list, randomAddr(random, random.Intn(2) == 0))
	}
	compare := func(a, b api.Addr) int {
		switch {
		case Less(a, b):
			return -1
		case Less(b, a):
			return 1
		}
		return 0
	}
	sorted := slices.SortedFunc(slices.Values(list), compare)
	random.Shuffle(len(list), func(i, j int) { list[i], list[j] = list[j], list[i] })
	if !slices.Equal(slices.SortedFunc(slices.Values(list), compare), sorted) {
		t.Error("two orders of one list")
	}
}

func BenchmarkContains(b *testing.B) {
	p, a := prefixOf("10.1.0.0/16"), ipOf("10.1.2.3")
	for b.Loop() {
		Contains(p, a)
	}
}
