package routes

import (
	"fmt"
	"math"
	"math/rand"
	"net/netip"
	"slices"
	"strings"
	"testing"

	"burrow/api"
)

var (
	keyA = api.Key{1}
	keyB = api.Key{2}
	keyC = api.Key{31: 3}
)

// addrOf returns the address of a text.
func addrOf(text string) api.Addr {
	ip := netip.MustParseAddr(text)
	a := api.Addr{Six: ip.Is6()}
	copy(a.IP[:], ip.AsSlice())
	return a
}

// prefixOf returns the prefix of a text, which need not be valid.
func prefixOf(text string) api.Prefix {
	p := netip.MustParsePrefix(text)
	return api.Prefix{Addr: addrOf(p.Addr().String()), Bits: p.Bits()}
}

func route(text string, peer api.Key) api.Route {
	return api.Route{Prefix: prefixOf(text), Peer: peer}
}

// bitText returns the bits of the 16 bytes of an address as digits.
func bitText(a api.Addr) string {
	var text []byte
	for bit := range 128 {
		text = append(text, '0'+a.IP[bit/8]>>(7-bit%8)&1)
	}
	return string(text)
}

// plainMost returns the greatest Bits of a kind.
func plainMost(six bool) int {
	if six {
		return 128
	}
	return 32
}

// plainValidAddr follows P10.3 word for word.
func plainValidAddr(a api.Addr) bool {
	return a.Six || [12]byte(a.IP[4:]) == [12]byte{}
}

// plainValidPrefix follows P10.3 word for word.
func plainValidPrefix(p api.Prefix) bool {
	return plainValidAddr(p.Addr) && 0 <= p.Bits && p.Bits <= plainMost(p.Addr.Six) && !strings.Contains(bitText(p.Addr)[p.Bits:], "1")
}

// plainContains follows P10.3 word for word.
func plainContains(p api.Prefix, a api.Addr) bool {
	return plainValidPrefix(p) && plainValidAddr(a) && a.Six == p.Addr.Six && strings.HasPrefix(bitText(a), bitText(p.Addr)[:p.Bits])
}

// plainCompare follows the order of the chapter: the kind, each byte of the address, and Bits.
func plainCompare(p, q api.Prefix) int {
	numbers := func(p api.Prefix) []int {
		l := []int{plainMost(p.Addr.Six)}
		for _, x := range p.Addr.IP {
			l = append(l, int(x))
		}
		return append(l, p.Bits)
	}
	return slices.Compare(numbers(p), numbers(q))
}

// plainValid follows P14.1 word for word.
func plainValid(l []api.Route) bool {
	for i, r := range l {
		for _, later := range l[i+1:] {
			if plainCompare(r.Prefix, later.Prefix) >= 0 {
				return false
			}
		}
		if !plainValidPrefix(r.Prefix) {
			return false
		}
	}
	return len(l) <= 16
}

// plainInsert follows P14.2 word for word.
func plainInsert(l []api.Route, p api.Prefix, peer api.Key) ([]api.Route, api.Errno) {
	if !plainValidPrefix(p) {
		return nil, api.ErrArg
	}
	var result []api.Route
	done := false
	for _, r := range l {
		if plainCompare(r.Prefix, p) == 0 && !done {
			r.Peer, done = peer, true
		}
		result = append(result, r)
	}
	if done {
		return result, api.OK
	}
	if len(l) >= 16 {
		return nil, api.ErrLimit
	}
	result = nil
	for _, r := range l {
		if plainCompare(p, r.Prefix) < 0 && !done {
			result = append(result, api.Route{Prefix: p, Peer: peer})
			done = true
		}
		result = append(result, r)
	}
	if !done {
		result = append(result, api.Route{Prefix: p, Peer: peer})
	}
	return result, api.OK
}

// plainRemove follows P14.2 word for word.
func plainRemove(l []api.Route, p api.Prefix) []api.Route {
	var result []api.Route
	for _, r := range l {
		if plainCompare(r.Prefix, p) != 0 {
			result = append(result, r)
		}
	}
	return result
}

// plainRemovePeer follows P14.2 word for word.
func plainRemovePeer(l []api.Route, peer api.Key) []api.Route {
	var result []api.Route
	for _, r := range l {
		if string(r.Peer[:]) != string(peer[:]) {
			result = append(result, r)
		}
	}
	return result
}

// plainLookup follows P14.3 word for word.
func plainLookup(l []api.Route, a api.Addr) (api.Key, bool) {
	for bits := 128; bits >= 0; bits-- {
		for _, r := range l {
			if r.Prefix.Bits == bits && plainContains(r.Prefix, a) {
				return r.Peer, true
			}
		}
	}
	return api.Key{}, false
}

// plainOf follows P14.3 word for word.
func plainOf(l []api.Route, peer api.Key) []api.Prefix {
	var result []api.Prefix
	for _, r := range l {
		if string(r.Peer[:]) == string(peer[:]) {
			result = append(result, r.Prefix)
		}
	}
	return result
}

// checkList compares Valid with the plain version.
func checkList(t *testing.T, l []api.Route) {
	t.Helper()
	if got, want := Valid(l), plainValid(l); got != want {
		t.Errorf("Valid(%v) is %t", l, got)
	}
}

// checkPrefix compares what is done to a list with a prefix with the plain versions.
func checkPrefix(t *testing.T, l []api.Route, p api.Prefix, peer api.Key) api.Errno {
	t.Helper()
	got, err := Insert(l, p, peer)
	want, wantErr := plainInsert(l, p, peer)
	if !slices.Equal(got, want) || err != wantErr {
		t.Errorf("Insert(%v, %v, %x) is %v, %d, not %v, %d", l, p, peer, got, err, want, wantErr)
	}
	if got, want := Remove(l, p), plainRemove(l, p); !slices.Equal(got, want) {
		t.Errorf("Remove(%v, %v) is %v, not %v", l, p, got, want)
	}
	if Valid(l) && (!Valid(got) || !Valid(Remove(l, p))) {
		t.Errorf("%v, %v: the results for a valid list are not valid", l, p)
	}
	return wantErr
}

// checkPeer compares what is done to a list with a peer with the plain versions.
func checkPeer(t *testing.T, l []api.Route, peer api.Key) {
	t.Helper()
	if got, want := RemovePeer(l, peer), plainRemovePeer(l, peer); !slices.Equal(got, want) {
		t.Errorf("RemovePeer(%v, %x) is %v, not %v", l, peer, got, want)
	}
	if got, want := Of(l, peer), plainOf(l, peer); !slices.Equal(got, want) {
		t.Errorf("Of(%v, %x) is %v, not %v", l, peer, got, want)
	}
	if Valid(l) && !Valid(RemovePeer(l, peer)) {
		t.Errorf("RemovePeer(%v, %x) is not valid", l, peer)
	}
}

// checkAddr compares Lookup with the plain version.
func checkAddr(t *testing.T, l []api.Route, a api.Addr) bool {
	t.Helper()
	got, ok := Lookup(l, a)
	want, wantOK := plainLookup(l, a)
	if got != want || ok != wantOK {
		t.Errorf("Lookup(%v, %v) is %x, %t, not %x, %t", l, a, got, ok, want, wantOK)
	}
	return wantOK
}

// wantLookup looks for the peer of an address; no key is "none".
func wantLookup(t *testing.T, l []api.Route, text string, want ...api.Key) {
	t.Helper()
	got, ok := Lookup(l, addrOf(text))
	if len(want) == 0 && (ok || got != api.Key{}) || len(want) == 1 && (!ok || got != want[0]) {
		t.Errorf("Lookup of %s is %x, %t", text, got, ok)
	}
}

// insertAll inserts routes in their order.
func insertAll(t *testing.T, l []api.Route, routes ...api.Route) []api.Route {
	t.Helper()
	for _, r := range routes {
		next, err := Insert(l, r.Prefix, r.Peer)
		if err != api.OK {
			t.Fatalf("Insert(%v, %v): %d", l, r, err)
		}
		l = next
	}
	return l
}

// sixteen returns a valid list of MaxPrefixes routes, which leaves places between them.
func sixteen() []api.Route {
	var l []api.Route
	for i := range 16 {
		l = append(l, route(fmt.Sprintf("10.%d.0.0/16", 2*i+1), api.Key{byte(i)}))
	}
	return l
}

// somePrefixes returns prefixes that lie in each other or side by side, in order, and then ones that are not valid.
func somePrefixes() (valid, invalid []api.Prefix) {
	for _, text := range []string{"0.0.0.0/0", "0.0.0.0/1", "10.0.0.0/8", "10.0.0.0/16", "10.1.0.0/16", "10.1.2.3/32", "128.0.0.0/1", "::/0", "::/128", "a00::/8"} {
		valid = append(valid, prefixOf(text))
	}
	invalid = []api.Prefix{
		prefixOf("10.1.0.0/8"), prefixOf("::1/127"), {Bits: -1}, {Bits: 33}, {Addr: api.Addr{Six: true}, Bits: 129},
		{Addr: api.Addr{IP: [16]byte{0: 10, 4: 1}}, Bits: 8}, {Addr: api.Addr{IP: [16]byte{0: 10, 15: 1}}, Bits: 32},
		{Bits: math.MinInt}, {Bits: math.MaxInt}, {Addr: api.Addr{Six: true}, Bits: math.MinInt},
	}
	return valid, invalid
}

// someAddrs returns the addresses of the prefixes, others in them and outside, and ones that are not valid.
func someAddrs() []api.Addr {
	var l []api.Addr
	for _, text := range []string{"0.0.0.0", "1.2.3.4", "9.255.255.255", "10.0.0.0", "10.0.255.255", "10.1.2.2", "10.1.2.3", "10.2.0.0", "11.0.0.0", "127.255.255.255", "128.0.0.0", "255.255.255.255", "::", "::1", "a00::", "a00:1::", "b00::", "ffff::"} {
		l = append(l, addrOf(text))
	}
	return append(l, api.Addr{IP: [16]byte{0: 10, 4: 1}}, api.Addr{IP: [16]byte{15: 255}})
}

// The example of the chapter, and example 4 of the whole.
func TestExample(t *testing.T) {
	l := insertAll(t, nil, route("10.0.0.0/8", keyA), route("10.1.0.0/16", keyB))
	wantLookup(t, l, "10.1.2.3", keyB)
	wantLookup(t, l, "10.2.0.0", keyA)
	wantLookup(t, l, "11.0.0.0")
}

// P14.1: lists with an order, and the same ones with two routes exchanged or one twice.
func TestValidOrder(t *testing.T) {
	valid, _ := somePrefixes()
	var l []api.Route
	for _, p := range valid {
		l = append(l, api.Route{Prefix: p, Peer: keyA})
	}
	for i := range len(l) + 1 {
		if !Valid(l[i:]) || !Valid(l[:i]) {
			t.Errorf("%v or %v is not valid", l[:i], l[i:])
		}
	}
	for i := range l {
		for j := range i {
			exchanged := slices.Clone(l)
			exchanged[i], exchanged[j] = exchanged[j], exchanged[i]
			if Valid(exchanged) || Valid([]api.Route{l[i], l[j]}) || !Valid([]api.Route{l[j], l[i]}) {
				t.Errorf("%v and %v", l[i], l[j])
			}
		}
		for _, peer := range []api.Key{keyA, keyB, {}} {
			twice := slices.Insert(slices.Clone(l), i, api.Route{Prefix: l[i].Prefix, Peer: peer})
			if Valid(twice) {
				t.Errorf("%v is valid", twice)
			}
		}
	}
}

// P14.1: the peers of a list, which may be equal or zero, do not matter.
func TestValidPeers(t *testing.T) {
	for _, keys := range [][2]api.Key{{keyA, keyA}, {keyB, keyA}, {keyA, keyB}, {}} {
		if l := []api.Route{route("10.0.0.0/8", keys[0]), route("11.0.0.0/8", keys[1])}; !Valid(l) {
			t.Errorf("%v is not valid", l)
		}
	}
}

// P14.1: how many routes a list may have.
func TestValidNumber(t *testing.T) {
	var l []api.Route
	for i := range 40 {
		l = append(l, route(fmt.Sprintf("10.%d.0.0/16", i), keyA))
	}
	// The beginnings of the long list have room for more, which does not count.
	for i := range len(l) + 1 {
		if got, want := Valid(l[:i]), i <= 16; got != want {
			t.Errorf("%d routes: %t", i, got)
		}
	}
}

// P14.1: a prefix that is not valid, alone and at each place of a list.
func TestValidPrefixes(t *testing.T) {
	valid, invalid := somePrefixes()
	for _, p := range invalid {
		if Valid([]api.Route{{Prefix: p, Peer: keyA}}) {
			t.Errorf("%v is valid", p)
		}
	}
	for _, p := range valid {
		if !Valid([]api.Route{{Prefix: p, Peer: keyA}}) {
			t.Errorf("%v is not valid", p)
		}
	}
	for i := range 16 {
		l := sixteen()
		l[i].Prefix.Addr.IP[2] = 1 // which leaves the order
		if Valid(l) {
			t.Errorf("%v is valid", l)
		}
	}
}

// P14.1 and P14.2: each Bits of one address, one bit of which is set.
func TestEachBits(t *testing.T) {
	for _, six := range []bool{false, true} {
		most := plainMost(six)
		for bit := range most {
			a := api.Addr{Six: six}
			a.IP[bit/8] = 128 >> (bit % 8)
			for bits := range most {
				l := []api.Route{{Prefix: api.Prefix{Addr: a, Bits: bits}, Peer: keyA}, {Prefix: api.Prefix{Addr: a, Bits: bits + 1}, Peer: keyB}}
				checkList(t, l)
				checkList(t, []api.Route{l[1], l[0]})
				checkAddr(t, l, a)
				checkPrefix(t, l[:1], l[1].Prefix, keyB)
				checkPrefix(t, l[1:], l[0].Prefix, keyA)
			}
		}
	}
}

// P14.2: a new route between all others of a full list without it, and a route in place of each other one.
func TestInsertPlaces(t *testing.T) {
	full := sixteen()
	for i, r := range full {
		short := slices.Delete(slices.Clone(full), i, i+1)
		if l, err := Insert(short, r.Prefix, r.Peer); err != api.OK || !slices.Equal(l, full) {
			t.Errorf("place %d: %v, %d", i, l, err)
		}
		want := slices.Clone(full)
		want[i].Peer = keyC
		if l, err := Insert(full, r.Prefix, keyC); err != api.OK || !slices.Equal(l, want) {
			t.Errorf("instead of %d: %v, %d", i, l, err)
		}
	}
}

// P14.2: the limit, which counts for new prefixes only.
func TestInsertLimit(t *testing.T) {
	full := sixteen()
	for _, text := range []string{"0.0.0.0/0", "10.0.0.0/15", "10.0.0.0/16", "10.1.0.0/17", "10.2.0.0/16", "255.0.0.0/8", "::/0", "a01::/16"} {
		p := prefixOf(text)
		if l, err := Insert(full, p, keyC); err != api.ErrLimit || len(l) != 0 {
			t.Errorf("Insert of %s: %v, %d", text, l, err)
		}
		if l, err := Insert(full[:15], p, keyC); err != api.OK || len(l) != 16 || !Valid(l) {
			t.Errorf("Insert of %s into 15 routes: %v, %d", text, l, err)
		}
	}
	long := append(sixteen(), route("10.0.0.0/8", keyA), route("::/0", keyB))
	for i, r := range long {
		want := slices.Clone(long)
		want[i].Peer = keyC
		if l, err := Insert(long, r.Prefix, keyC); err != api.OK || !slices.Equal(l, want) {
			t.Errorf("instead of %d of 18: %v, %d", i, l, err)
		}
	}
	if l, err := Insert(long, prefixOf("11.0.0.0/8"), keyC); err != api.ErrLimit || len(l) != 0 {
		t.Errorf("into 18 routes: %v, %d", l, err)
	}
}

// P14.2: a prefix that is not valid is refused, also if the list is full or has it.
func TestInsertInvalid(t *testing.T) {
	valid, invalid := somePrefixes()
	for _, p := range invalid {
		has := []api.Route{{Prefix: p, Peer: keyA}}
		for _, l := range [][]api.Route{nil, {}, sixteen(), has, append(sixteen(), has...)} {
			if got, err := Insert(l, p, keyB); err != api.ErrArg || len(got) != 0 {
				t.Errorf("Insert(%v, %v) is %v, %d", l, p, got, err)
			}
		}
	}
	for _, p := range valid {
		if l, err := Insert(nil, p, keyB); err != api.OK || !slices.Equal(l, []api.Route{{Prefix: p, Peer: keyB}}) {
			t.Errorf("Insert of %v: %v, %d", p, l, err)
		}
	}
}

// P14.2: in any list an equal prefix comes first, wherever it stands, and only the first one is replaced.
func TestInsertAnyOrder(t *testing.T) {
	l := []api.Route{route("11.0.0.0/8", keyA), route("9.0.0.0/8", keyA), route("12.0.0.0/8", keyA), route("10.0.0.0/8", keyA), route("10.0.0.0/8", keyA)}
	want := slices.Clone(l)
	want[3].Peer = keyB
	if got, err := Insert(l, prefixOf("10.0.0.0/8"), keyB); err != api.OK || !slices.Equal(got, want) {
		t.Error(got, err)
	}
	for text, place := range map[string]int{"8.0.0.0/8": 0, "10.0.0.0/7": 0, "10.0.0.0/9": 0, "11.0.0.0/9": 2, "12.0.0.0/9": 5, "13.0.0.0/8": 5, "::/0": 5} {
		want := slices.Insert(slices.Clone(l), place, route(text, keyB))
		if got, err := Insert(l, prefixOf(text), keyB); err != api.OK || !slices.Equal(got, want) {
			t.Errorf("Insert of %s: %v, %d", text, got, err)
		}
	}
}

// P14.2: all routes with a prefix are removed, whatever their peers are, and no others.
func TestRemove(t *testing.T) {
	valid, invalid := somePrefixes()
	all := slices.Concat(valid, invalid)
	var l []api.Route
	for _, peer := range []api.Key{keyA, keyB, {}} {
		for _, p := range all {
			l = append(l, api.Route{Prefix: p, Peer: peer})
		}
	}
	for i, p := range all {
		got := Remove(l, p)
		if !slices.Equal(got, plainRemove(l, p)) || len(got) != 3*len(all)-3 {
			t.Errorf("Remove of %v: %v", p, got)
		}
		if without := slices.Concat(l[:i], l[i+1:len(all)]); !slices.Equal(Remove(without, p), without) {
			t.Errorf("Remove of %v, which is not there: %v", p, Remove(without, p))
		}
	}
	if got := Remove(nil, valid[0]); len(got) != 0 {
		t.Error(got)
	}
}

// P14.2 and P14.3: the routes to a peer, also to the peer with the zero key and to one without routes.
func TestPeers(t *testing.T) {
	l := []api.Route{route("12.0.0.0/8", keyB), route("10.0.0.0/8", keyA), route("11.0.0.0/8", api.Key{}), route("::/0", keyA), route("10.0.0.0/8", keyA), route("1.2.3.4/8", keyA)}
	tests := []struct {
		peer api.Key
		of   []int
	}{{keyA, []int{1, 3, 4, 5}}, {keyB, []int{0}}, {api.Key{}, []int{2}}, {keyC, nil}, {api.Key{31: 1}, nil}}
	for _, test := range tests {
		var of []api.Prefix
		left := slices.Clone(l)
		for n, i := range test.of {
			of = append(of, l[i].Prefix)
			left = slices.Delete(left, i-n, i-n+1)
		}
		if got := Of(l, test.peer); !slices.Equal(got, of) {
			t.Errorf("Of %x: %v", test.peer, got)
		}
		if got := RemovePeer(l, test.peer); !slices.Equal(got, left) {
			t.Errorf("RemovePeer of %x: %v", test.peer, got)
		}
	}
	if of, left := Of(nil, keyA), RemovePeer(nil, keyA); len(of) != 0 || len(left) != 0 {
		t.Error(of, left)
	}
}

// P14.2 and P14.3: two keys that differ in any one bit are two peers.
func TestKeyBits(t *testing.T) {
	for bit := range 256 {
		other := keyA
		other[bit/8] ^= 1 << (bit % 8)
		l := []api.Route{route("10.0.0.0/8", keyA), route("11.0.0.0/8", other)}
		checkPeer(t, l, keyA)
		checkPeer(t, l, other)
	}
}

// P14.3: a prefix of each length around one address, in both orders, and in the middle of others.
func TestLookupLongest(t *testing.T) {
	for _, six := range []bool{false, true} {
		whole := addrOf("171.205.239.77")
		if six {
			whole = addrOf("fdab:cdef:1234:5678:9abc:def1:2345:6789")
		}
		var l []api.Route
		for bits := range plainMost(six) + 1 {
			a := cut(whole, bits)
			l = append(l, api.Route{Prefix: api.Prefix{Addr: a, Bits: bits}, Peer: api.Key{byte(bits), 7}})
			if got, ok := Lookup(l, whole); !ok || got != (api.Key{byte(bits), 7}) {
				t.Errorf("%d bits: %x, %t", bits, got, ok)
			}
		}
		turned := slices.Clone(l)
		slices.Reverse(turned)
		for bits := range plainMost(six) {
			a := whole
			a.IP[bits/8] ^= 128 >> (bits % 8)
			for _, list := range [][]api.Route{l, turned} {
				if got, ok := Lookup(list, a); !ok || got != (api.Key{byte(bits), 7}) {
					t.Errorf("another bit %d: %x, %t", bits, got, ok)
				}
			}
		}
	}
}

// cut returns the address with zero bits behind the first ones.
func cut(a api.Addr, bits int) api.Addr {
	for bit := bits; bit < 128; bit++ {
		a.IP[bit/8] &^= 128 >> (bit % 8)
	}
	return a
}

// P14.3: of equal prefixes the first one counts; prefixes and addresses that are not valid find nothing.
func TestLookupAnyList(t *testing.T) {
	l := []api.Route{route("10.1.0.0/8", keyC), route("10.0.0.0/8", keyB), route("0.0.0.0/0", api.Key{}), route("10.0.0.0/8", keyA), route("0.0.0.0/0", keyA), {Prefix: api.Prefix{Bits: -1}, Peer: keyC}, {Prefix: api.Prefix{Bits: 33}, Peer: keyC}}
	wantLookup(t, l, "10.1.0.0", keyB)
	wantLookup(t, l, "11.1.0.0", api.Key{})
	wantLookup(t, l, "::")
	wantLookup(t, l, "a01::")
	wantLookup(t, nil, "10.0.0.0")
	wantLookup(t, []api.Route{}, "10.0.0.0")
	wantLookup(t, l[5:], "0.0.0.0")
	for place := 4; place < 16; place++ {
		a := addrOf("10.1.0.0")
		a.IP[place] = 1
		if got, ok := Lookup(l, a); ok || got != (api.Key{}) {
			t.Errorf("Lookup of %v is %x, %t", a, got, ok)
		}
	}
}

// P14.1 to P14.4: all lists of up to three routes, with all prefixes and addresses.
func TestAllShortLists(t *testing.T) {
	valid, invalid := somePrefixes()
	all := slices.Concat(valid, invalid[:5])
	var look func(l []api.Route)
	look = func(l []api.Route) {
		checkList(t, l)
		for i, p := range all {
			checkPrefix(t, l, p, keyC)
			if len(l) < 3 {
				look(append(slices.Clone(l), api.Route{Prefix: p, Peer: api.Key{byte(i % 2)}}))
			}
		}
		for _, a := range someAddrs() {
			checkAddr(t, l, a)
		}
		for _, peer := range []api.Key{{}, keyA, keyB} {
			checkPeer(t, l, peer)
		}
	}
	look(nil)
}

// randomPrefix returns a prefix of few or of many different ones, some of which are not valid.
func randomPrefix(random *rand.Rand) api.Prefix {
	p := api.Prefix{Addr: randomAddr(random)}
	p.Bits = random.Intn(plainMost(p.Addr.Six) + 1)
	if random.Intn(30) > 0 {
		p.Addr = cut(p.Addr, p.Bits)
	}
	if random.Intn(30) == 0 {
		p.Bits = random.Intn(180) - 20
	}
	return p
}

// randomAddr returns a valid address of either kind; short beginnings are often the same ones.
func randomAddr(random *rand.Rand) api.Addr {
	a := api.Addr{Six: random.Intn(2) == 0}
	for i := range plainMost(a.Six) / 8 {
		a.IP[i] = byte(random.Intn(2) * 255 >> random.Intn(3))
	}
	return a
}

// P14.1 to P14.3: random lists of any order, of which few are valid.
func TestRandomLists(t *testing.T) {
	random := rand.New(rand.NewSource(14))
	errors, found := map[api.Errno]int{}, 0
	for range 4000 {
		var l []api.Route
		for range random.Intn(20) {
			l = append(l, api.Route{Prefix: randomPrefix(random), Peer: api.Key{byte(random.Intn(4))}})
		}
		checkList(t, l)
		for range 5 {
			p := randomPrefix(random)
			if len(l) > 0 && random.Intn(3) == 0 {
				p = l[random.Intn(len(l))].Prefix
			}
			errors[checkPrefix(t, l, p, api.Key{byte(random.Intn(4))})]++
			if checkAddr(t, l, randomAddr(random)) {
				found++
			}
			checkPeer(t, l, api.Key{byte(random.Intn(5))})
		}
	}
	if errors[api.OK] < 5000 || errors[api.ErrArg] < 500 || errors[api.ErrLimit] < 1000 || found < 5000 || found > 18000 {
		t.Error(errors, found)
	}
}

// P14.1: valid lists, and those with one part of one route changed.
func TestChangedLists(t *testing.T) {
	random := rand.New(rand.NewSource(1414))
	valid := 0
	for range 3000 {
		l := randomList(t, random, 16)
		if !Valid(l) {
			t.Fatalf("%v is not valid", l)
		}
		changed := slices.Clone(l)
		p := &changed[random.Intn(len(changed))].Prefix
		switch random.Intn(4) {
		case 0:
			p.Bits += random.Intn(9) - 4
		case 1:
			p.Addr.Six = !p.Addr.Six
		case 2:
			p.Addr.IP[random.Intn(16)] ^= 1 << random.Intn(8)
		case 3:
			*p = changed[random.Intn(len(changed))].Prefix
		}
		checkList(t, changed)
		if Valid(changed) {
			valid++
		}
	}
	if valid < 300 || valid > 2700 {
		t.Errorf("%d are valid", valid)
	}
}

// randomList returns a valid list of from one to so many routes, made by Insert.
func randomList(t *testing.T, random *rand.Rand, most int) []api.Route {
	t.Helper()
	var l []api.Route
	for size := 1 + random.Intn(most); len(l) < size; {
		if p := randomPrefix(random); plainValidPrefix(p) {
			l = insertAll(t, l, api.Route{Prefix: p, Peer: api.Key{byte(random.Intn(4))}})
		}
	}
	return l
}

// P14.4: the results for a valid list are valid, and sorted as the chapter says.
func TestResultsAreValid(t *testing.T) {
	random := rand.New(rand.NewSource(144))
	for range 500 {
		l := randomList(t, random, 16)
		if !Valid(l) || !slices.IsSortedFunc(l, func(r, s api.Route) int { return plainCompare(r.Prefix, s.Prefix) }) {
			t.Errorf("%v is not valid", l)
		}
		for range 10 {
			checkPrefix(t, l, randomPrefix(random), keyC)
			checkPrefix(t, l, l[random.Intn(len(l))].Prefix, keyC)
			checkPeer(t, l, api.Key{byte(random.Intn(5))})
		}
	}
}

// P14.4: behind Insert an address of the prefix leads to the peer, unless a longer prefix contains it.
func TestLookupBehindInsert(t *testing.T) {
	random := rand.New(rand.NewSource(1444))
	own, longer := 0, 0
	for range 5000 {
		l := randomList(t, random, 15)
		a := someAddrIn(random, l[random.Intn(len(l))].Prefix)
		bits := random.Intn(plainMost(a.Six) + 1)
		next := insertAll(t, l, api.Route{Prefix: api.Prefix{Addr: cut(a, bits), Bits: bits}, Peer: keyC})
		want, _ := plainLookup(l, a)
		if slices.ContainsFunc(l, func(r api.Route) bool { return r.Prefix.Bits > bits && plainContains(r.Prefix, a) }) {
			longer++
		} else {
			want = keyC
			own++
		}
		if got, ok := Lookup(next, a); !ok || got != want {
			t.Errorf("Lookup(%v, %v) is %x, %t", next, a, got, ok)
		}
	}
	if own < 1000 || longer < 1000 {
		t.Error(own, longer)
	}
}

// someAddrIn returns an address of a valid prefix.
func someAddrIn(random *rand.Rand, p api.Prefix) api.Addr {
	a := p.Addr
	for bit := p.Bits; bit < plainMost(a.Six); bit++ {
		a.IP[bit/8] |= byte(random.Intn(2)) << (7 - bit%8)
	}
	return a
}

// P14.4: every order of four routes, and random orders of sixteen, give the same list.
func TestInsertOrders(t *testing.T) {
	want := []api.Route{route("10.0.0.0/8", keyA), route("10.0.0.0/9", keyB), route("10.1.0.0/16", keyA), route("a00::/8", keyC)}
	count := 0
	var permute func(done, left []api.Route)
	permute = func(done, left []api.Route) {
		if len(left) == 0 {
			count++
			if got := insertAll(t, nil, done...); !slices.Equal(got, want) {
				t.Errorf("%v gives %v", done, got)
			}
		}
		for i, r := range left {
			permute(append(slices.Clone(done), r), slices.Delete(slices.Clone(left), i, i+1))
		}
	}
	permute(nil, want)
	if count != 24 {
		t.Errorf("%d orders", count)
	}
	random := rand.New(rand.NewSource(4))
	for range 1000 {
		l := randomList(t, random, 16)
		mixed := slices.Clone(l)
		random.Shuffle(len(mixed), func(i, j int) { mixed[i], mixed[j] = mixed[j], mixed[i] })
		if got := insertAll(t, nil, mixed...); !slices.Equal(got, l) {
			t.Errorf("%v gives %v, not %v", mixed, got, l)
		}
	}
}

// P14.4: a route that is inserted and removed leaves the list as it was.
func TestInsertAndRemove(t *testing.T) {
	random := rand.New(rand.NewSource(44))
	for range 1000 {
		l := randomList(t, random, 15)
		p := randomPrefix(random)
		next, err := Insert(l, p, keyC)
		if err == api.OK && !slices.Equal(Remove(next, p), plainRemove(l, p)) {
			t.Errorf("%v, %v: %v", l, p, Remove(next, p))
		}
		if peerless := RemovePeer(next, keyC); err == api.OK && !slices.Equal(peerless, plainRemove(l, p)) {
			t.Errorf("%v, %v: %v", l, p, peerless)
		}
	}
}

// wholeOf returns a list with all that its memory has room for.
func wholeOf[T any](l []T) []T {
	return l[:cap(l)]
}

// R3: nothing changes the list or the memory behind it, and no result shares memory with it.
func TestMemory(t *testing.T) {
	random := rand.New(rand.NewSource(3))
	for range 300 {
		l := slices.Grow(randomList(t, random, 15), 8)
		spare := wholeOf(l)
		for i := len(l); i < len(spare); i++ {
			spare[i] = route("99.0.0.0/8", keyB)
		}
		kept := slices.Clone(spare)
		p := l[random.Intn(len(l))].Prefix
		results := func() [][]api.Route {
			replaced, _ := Insert(l, p, keyC)
			added, _ := Insert(l, prefixOf("77.0.0.0/8"), keyC)
			return [][]api.Route{replaced, added, Remove(l, p), Remove(l, prefixOf("77.0.0.0/8")), RemovePeer(l, keyA), RemovePeer(l, keyC)}
		}
		first, second := results(), results()
		want := results()
		for _, result := range first {
			clear(wholeOf(result))
		}
		of := Of(l, keyA)
		clear(wholeOf(of))
		if !slices.Equal(spare, kept) {
			t.Fatalf("%v has become %v", kept, spare)
		}
		for i := range second {
			if !slices.Equal(second[i], want[i]) {
				t.Errorf("result %d has become %v", i, second[i])
			}
		}
		Lookup(l, randomAddr(random))
		Valid(l)
		clear(spare)
		for i := range second {
			if !slices.Equal(second[i], want[i]) {
				t.Errorf("result %d has become %v", i, second[i])
			}
		}
	}
}

// R5: a nil list is as good as an empty one.
func TestNoRoutes(t *testing.T) {
	for _, l := range [][]api.Route{nil, {}} {
		checkList(t, l)
		checkPeer(t, l, keyA)
		checkPeer(t, l, api.Key{})
		checkAddr(t, l, api.Addr{})
		checkPrefix(t, l, prefixOf("0.0.0.0/0"), keyA)
		checkPrefix(t, l, prefixOf("1.0.0.0/0"), keyA)
		if !Valid(l) {
			t.Error("a list without routes is not valid")
		}
	}
}

// R1: a list that is much too long.
func TestLongList(t *testing.T) {
	var l []api.Route
	for i := range 1 << 17 {
		l = append(l, api.Route{Prefix: api.Prefix{Addr: api.Addr{IP: [16]byte{byte(i >> 16), byte(i >> 8), byte(i)}}, Bits: 24}, Peer: api.Key{byte(i)}})
	}
	last := len(l) - 1
	if Valid(l) {
		t.Error("the list is valid")
	}
	if x, err := Insert(l, l[last].Prefix, keyC); err != api.OK || len(x) != len(l) || x[last].Peer != keyC || !slices.Equal(x[:last], l[:last]) {
		t.Error("Insert in place of the last route:", len(x), err)
	}
	if x, err := Insert(l, prefixOf("0.0.0.0/0"), keyC); err != api.ErrLimit || len(x) != 0 {
		t.Error("Insert of a new prefix:", len(x), err)
	}
	if x := Remove(l, l[last].Prefix); !slices.Equal(x, l[:last]) {
		t.Error("Remove of the last route:", len(x))
	}
	wantLookup(t, l, "1.255.255.7", api.Key{255})
	wantLookup(t, l, "2.0.0.0")
	if of, left := Of(l, keyA), RemovePeer(l, keyA); len(of) != 1<<9 || len(of)+len(left) != len(l) {
		t.Error(len(of), len(left))
	}
}
