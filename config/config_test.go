package config

import (
	"fmt"
	"math"
	"math/rand"
	"reflect"
	"slices"
	"strings"
	"testing"

	"burrow/api"
	"burrow/codec"
)

// The texts of the zero key and of keyOne.
var (
	zeroText = strings.Repeat("A", 43) + "="
	oneText  = "AQ" + strings.Repeat("A", 41) + "="
	keyOne   = api.Key{1}
)

// same reports whether two configurations are equal, where a nil slice is as good as an empty one.
func same(a, b api.Config) bool {
	return a.Private == b.Private && a.Port == b.Port && slices.EqualFunc(a.Peers, b.Peers, func(p, q api.PeerConfig) bool {
		prefixes := slices.Equal(p.Allowed, q.Allowed)
		p.Allowed, q.Allowed = nil, nil
		return prefixes && reflect.DeepEqual(p, q)
	})
}

// clone returns a copy that shares no memory.
func clone(c api.Config) api.Config {
	c.Peers = slices.Clone(c.Peers)
	for i := range c.Peers {
		c.Peers[i].Allowed = slices.Clone(c.Peers[i].Allowed)
	}
	return c
}

// plainValidate follows P13.2 word for word.
func plainValidate(c api.Config) api.Errno {
	count := 0
	for _, p := range c.Peers {
		count += len(p.Allowed)
	}
	if len(c.Peers) > 8 || count > 16 {
		return api.ErrLimit
	}
	if c.Port < 0 || c.Port > 65535 {
		return api.ErrArg
	}
	publics, prefixes := map[api.Key]int{}, map[api.Prefix]int{}
	for _, p := range c.Peers {
		publics[p.Public]++
		if !p.HasEndpoint && p.Endpoint != (api.Endpoint{}) || p.HasEndpoint && plainFormatEndpoint(p.Endpoint) == "" {
			return api.ErrArg
		}
		if p.Keepalive != 0 && (p.Keepalive < 1000 || p.Keepalive > 1073741824) {
			return api.ErrArg
		}
		for _, prefix := range p.Allowed {
			prefixes[prefix]++
			if !plainValidPrefix(prefix) {
				return api.ErrArg
			}
		}
	}
	if len(publics) < len(c.Peers) || len(prefixes) < count {
		return api.ErrDuplicate
	}
	return api.OK
}

// plainFormat follows P13.3 word for word, without the errors.
func plainFormat(c api.Config) string {
	text := fmt.Sprintf("[Interface]\nPrivateKey = %s\nListenPort = %d\n", codec.Text(c.Private), c.Port)
	for _, p := range c.Peers {
		text += fmt.Sprintf("\n[Peer]\nPublicKey = %s\n", codec.Text(p.Public))
		if p.Shared != (api.Key{}) {
			text += fmt.Sprintf("PresharedKey = %s\n", codec.Text(p.Shared))
		}
		if p.HasEndpoint {
			text += fmt.Sprintf("Endpoint = %s\n", plainFormatEndpoint(p.Endpoint))
		}
		if p.Keepalive != 0 {
			text += fmt.Sprintf("PersistentKeepalive = %d\n", p.Keepalive)
		}
		for i, prefix := range p.Allowed {
			text += map[bool]string{true: "AllowedIPs = ", false: ", "}[i == 0] + plainFormatPrefix(prefix)
		}
		if len(p.Allowed) > 0 {
			text += "\n"
		}
	}
	return text
}

// checkConfig compares Validate and Format with the plain versions, reads the text, and looks whether the argument is changed.
func checkConfig(t *testing.T, c api.Config) api.Errno {
	t.Helper()
	before := clone(c)
	want := plainValidate(c)
	if err := Validate(c); err != want {
		t.Errorf("Validate(%v) is %d, not %d", c, err, want)
	}
	wantText := ""
	if want == api.OK {
		wantText = plainFormat(c)
	}
	text, err := Format(c)
	if err != want || text != wantText {
		t.Errorf("Format(%v) is %q, %d, not %q, %d", c, text, err, wantText, want)
	}
	if want == api.OK && len(text) <= api.MaxText {
		x, line, err := Parse(text)
		if err != api.OK || line != 0 || !same(x, c) {
			t.Errorf("Parse(%q) is %v, %d, %d", text, x, line, err)
		}
	}
	if !reflect.DeepEqual(c, before) {
		t.Errorf("%v has become %v", before, c)
	}
	return want
}

// wantError looks for an error of Validate and Format.
func wantError(t *testing.T, name string, c api.Config, want api.Errno) {
	t.Helper()
	if got := checkConfig(t, c); got != want {
		t.Errorf("%s: %d, not %d", name, got, want)
	}
	if got := Validate(c); got != want {
		t.Errorf("%s: Validate is %d, not %d", name, got, want)
	}
}

// prefixNumber returns one of 256 different valid prefixes.
func prefixNumber(n int) api.Prefix {
	return api.Prefix{Addr: four(10, byte(n)), Bits: 16}
}

func prefixes(from, size int) []api.Prefix {
	var l []api.Prefix
	for n := range size {
		l = append(l, prefixNumber(from+n))
	}
	return l
}

// somePeers returns a configuration of so many peers with different keys.
func somePeers(size int) api.Config {
	var c api.Config
	for n := range size {
		c.Peers = append(c.Peers, api.PeerConfig{Public: api.Key{31: byte(n)}})
	}
	return c
}

// full returns a configuration with everything that there is, and its text.
func full() (api.Config, string) {
	c := api.Config{Private: api.Key{255}, Port: 51820, Peers: []api.PeerConfig{
		{
			Public: keyOne, Shared: keyOne, HasEndpoint: true, Endpoint: api.Endpoint{Addr: four(192, 0, 2, 7), Port: 1}, Keepalive: 25000,
			Allowed: []api.Prefix{{Addr: six(0xfd), Bits: 8}, {Addr: four(10), Bits: 8}, {}},
		},
		{},
		{Public: api.Key{2}, HasEndpoint: true, Endpoint: api.Endpoint{Addr: six(0x20, 0x01), Port: 65535}, Allowed: []api.Prefix{{Addr: four(10, 1, 2, 3), Bits: 32}}},
	}}
	text := `[Interface]
PrivateKey = /wAAAAAAAAAAAAAAAAAAAAAAAAAAAAAAAAAAAAAAAAA=
ListenPort = 51820

[Peer]
PublicKey = AQAAAAAAAAAAAAAAAAAAAAAAAAAAAAAAAAAAAAAAAAA=
PresharedKey = AQAAAAAAAAAAAAAAAAAAAAAAAAAAAAAAAAAAAAAAAAA=
Endpoint = 192.0.2.7:1
PersistentKeepalive = 25000
AllowedIPs = fd00:0:0:0:0:0:0:0/8, 10.0.0.0/8, 0.0.0.0/0

[Peer]
PublicKey = AAAAAAAAAAAAAAAAAAAAAAAAAAAAAAAAAAAAAAAAAAA=

[Peer]
PublicKey = AgAAAAAAAAAAAAAAAAAAAAAAAAAAAAAAAAAAAAAAAAA=
Endpoint = [2001:0:0:0:0:0:0:0]:65535
AllowedIPs = 10.1.2.3/32
`
	return c, text
}

// P13.3: the text of a configuration with everything, and of the zero configuration.
func TestFormat(t *testing.T) {
	c, text := full()
	if s, err := Format(c); err != api.OK || s != text {
		t.Errorf("%d %s", err, s)
	}
	if s, err := Format(api.Config{}); err != api.OK || s != "[Interface]\nPrivateKey = "+zeroText+"\nListenPort = 0\n" {
		t.Errorf("%d %s", err, s)
	}
	checkConfig(t, c)
	checkConfig(t, api.Config{})
}

// P13.3: each line that may be missing, with each of the others.
func TestFormatParts(t *testing.T) {
	for parts := range 16 {
		var p api.PeerConfig
		if parts&1 != 0 {
			p.Shared = api.Key{31: 1}
		}
		if parts&2 != 0 {
			p.HasEndpoint, p.Endpoint = true, api.Endpoint{Addr: four(), Port: 7}
		}
		if parts&4 != 0 {
			p.Keepalive = 1000
		}
		if parts&8 != 0 {
			p.Allowed = []api.Prefix{{}}
		}
		c := api.Config{Peers: []api.PeerConfig{p, {Public: keyOne}}}
		wantError(t, "parts", c, api.OK)
		s, _ := Format(c)
		for part, name := range []string{"PresharedKey = ", "Endpoint = ", "PersistentKeepalive = ", "AllowedIPs = "} {
			if strings.Contains(s, "\n"+name) != (parts>>part&1 != 0) {
				t.Errorf("%d: %q", parts, s)
			}
		}
	}
}

// P13.3: each bit of the shared key is enough for its line.
func TestSharedBits(t *testing.T) {
	for bit := range 256 {
		p := api.PeerConfig{}
		p.Shared[bit/8] = 1 << (bit % 8)
		wantError(t, "shared", api.Config{Peers: []api.PeerConfig{p}}, api.OK)
	}
}

// P13.2: how many peers and prefixes there may be.
func TestLimits(t *testing.T) {
	for size := range 12 {
		want := api.OK
		if size > 8 {
			want = api.ErrLimit
		}
		wantError(t, "peers", somePeers(size), want)
	}
	for size := range 40 {
		want := api.OK
		if size > 16 {
			want = api.ErrLimit
		}
		alone, spread := somePeers(1), somePeers(8)
		alone.Peers[0].Allowed = prefixes(0, size)
		for n := range size {
			p := &spread.Peers[n%8]
			p.Allowed = append(p.Allowed, prefixNumber(n))
		}
		wantError(t, "prefixes of a peer", alone, want)
		wantError(t, "prefixes of peers", spread, want)
	}
}

// P13.2: the port of the daemon, which may be 0.
func TestListenPorts(t *testing.T) {
	for port := -3; port < 65540; port++ {
		want := api.OK
		if port < 0 || port > 65535 {
			want = api.ErrArg
		}
		if err := Validate(api.Config{Port: port}); err != want {
			t.Errorf("port %d: %d", port, err)
		}
	}
	for _, port := range []int{math.MinInt, math.MaxInt, 1 << 32, 1 << 16, -1 << 32, 0, 9, 10, 99, 65535} {
		checkConfig(t, api.Config{Port: port})
	}
}

// P13.2: each value of a peer that is out of its range, in each place.
func TestWrongPeers(t *testing.T) {
	here := api.Endpoint{Addr: four(10), Port: 1}
	broken := api.Addr{IP: [16]byte{15: 1}}
	tests := []struct {
		name string
		peer api.PeerConfig
		want api.Errno
	}{
		{"no endpoint", api.PeerConfig{}, api.OK},
		{"an endpoint", api.PeerConfig{HasEndpoint: true, Endpoint: here}, api.OK},
		{"an endpoint that is not there", api.PeerConfig{Endpoint: here}, api.ErrArg},
		{"only a port", api.PeerConfig{Endpoint: api.Endpoint{Port: 1}}, api.ErrArg},
		{"only an address", api.PeerConfig{Endpoint: api.Endpoint{Addr: four(0, 0, 0, 1)}}, api.ErrArg},
		{"only a version", api.PeerConfig{Endpoint: api.Endpoint{Addr: six()}}, api.ErrArg},
		{"a zero endpoint", api.PeerConfig{HasEndpoint: true}, api.ErrArg},
		{"port 0", api.PeerConfig{HasEndpoint: true, Endpoint: api.Endpoint{Addr: four(10)}}, api.ErrArg},
		{"port 65535", api.PeerConfig{HasEndpoint: true, Endpoint: api.Endpoint{Addr: four(10), Port: 65535}}, api.OK},
		{"port 65536", api.PeerConfig{HasEndpoint: true, Endpoint: api.Endpoint{Addr: four(10), Port: 65536}}, api.ErrArg},
		{"port -1", api.PeerConfig{HasEndpoint: true, Endpoint: api.Endpoint{Addr: four(10), Port: -1}}, api.ErrArg},
		{"an endpoint that is not valid", api.PeerConfig{HasEndpoint: true, Endpoint: api.Endpoint{Addr: broken, Port: 1}}, api.ErrArg},
		{"the address 0 of version 6", api.PeerConfig{HasEndpoint: true, Endpoint: api.Endpoint{Addr: six(), Port: 1}}, api.OK},
		{"keepalive -1", api.PeerConfig{Keepalive: -1}, api.ErrArg},
		{"keepalive 1", api.PeerConfig{Keepalive: 1}, api.ErrArg},
		{"keepalive 999", api.PeerConfig{Keepalive: 999}, api.ErrArg},
		{"keepalive 1000", api.PeerConfig{Keepalive: 1000}, api.OK},
		{"keepalive 2^30", api.PeerConfig{Keepalive: 1 << 30}, api.OK},
		{"keepalive 2^30 + 1", api.PeerConfig{Keepalive: 1<<30 + 1}, api.ErrArg},
		{"keepalive -1000", api.PeerConfig{Keepalive: -1000}, api.ErrArg},
		{"keepalive 2^32 + 1000", api.PeerConfig{Keepalive: 1<<32 + 1000}, api.ErrArg},
		{"the greatest keepalive", api.PeerConfig{Keepalive: math.MaxInt64}, api.ErrArg},
		{"the least keepalive", api.PeerConfig{Keepalive: math.MinInt64}, api.ErrArg},
		{"the prefix of all", api.PeerConfig{Allowed: []api.Prefix{{}}}, api.OK},
		{"33 bits", api.PeerConfig{Allowed: []api.Prefix{{Bits: 33}}}, api.ErrArg},
		{"33 bits of version 6", api.PeerConfig{Allowed: []api.Prefix{{Addr: six(), Bits: 33}}}, api.OK},
		{"-1 bits", api.PeerConfig{Allowed: []api.Prefix{{Bits: -1}}}, api.ErrArg},
		{"bits behind the prefix", api.PeerConfig{Allowed: []api.Prefix{{Addr: four(10, 0, 0, 1), Bits: 8}}}, api.ErrArg},
		{"a prefix that is not valid", api.PeerConfig{Allowed: []api.Prefix{{Addr: broken, Bits: 8}}}, api.ErrArg},
		{"a second prefix", api.PeerConfig{Allowed: []api.Prefix{{}, {Bits: 33}, {Bits: 1}}}, api.ErrArg},
	}
	for _, test := range tests {
		for place := range 4 {
			c := somePeers(4)
			test.peer.Public = c.Peers[place].Public
			c.Peers[place] = test.peer
			wantError(t, test.name, c, test.want)
		}
	}
}

// P13.2: keys that come twice, at each pair of places, and keys that differ in one bit.
func TestSameKeys(t *testing.T) {
	for a := range 8 {
		for b := range a {
			c := somePeers(8)
			c.Peers[a].Public = c.Peers[b].Public
			wantError(t, "keys", c, api.ErrDuplicate)
		}
	}
	for bit := range 256 {
		c := api.Config{Private: keyOne, Peers: []api.PeerConfig{{Public: keyOne, Shared: keyOne}, {Public: keyOne, Shared: keyOne}}}
		c.Peers[1].Public[bit/8] ^= 1 << (bit % 8)
		wantError(t, "keys", c, api.OK)
	}
}

// P13.2: prefixes that come twice, at each pair of places in one or in two peers, and prefixes that are almost equal.
func TestSamePrefixes(t *testing.T) {
	for a := range 16 {
		for b := range a {
			for _, size := range []int{1, 2, 5, 8} {
				c := somePeers(size)
				l := prefixes(0, 16)
				l[a] = l[b]
				for n, p := range l {
					peer := &c.Peers[n*size/16]
					peer.Allowed = append(peer.Allowed, p)
				}
				wantError(t, "prefixes", c, api.ErrDuplicate)
			}
		}
	}
	c := somePeers(2)
	c.Peers[0].Allowed = []api.Prefix{{}, {Addr: six()}, {Bits: 1}, {Addr: six(), Bits: 1}, {Addr: four(128), Bits: 1}, {Addr: six(128), Bits: 1}}
	c.Peers[1].Allowed = []api.Prefix{{Bits: 32}, {Addr: six(), Bits: 32}, {Addr: four(10), Bits: 8}, {Addr: four(10), Bits: 9}, {Addr: six(10), Bits: 8}}
	wantError(t, "almost equal prefixes", c, api.OK)
}

// P13.2: which of two errors is returned.
func TestOrderOfErrors(t *testing.T) {
	limits := map[string]func(*api.Config){
		"nine peers":         func(c *api.Config) { c.Peers = append(c.Peers, somePeers(9).Peers[4:]...) },
		"seventeen prefixes": func(c *api.Config) { c.Peers[1].Allowed = prefixes(0, 17) },
	}
	ranges := map[string]func(*api.Config){
		"port":       func(c *api.Config) { c.Port = -1 },
		"endpoint":   func(c *api.Config) { c.Peers[3].HasEndpoint = true },
		"keepalive":  func(c *api.Config) { c.Peers[3].Keepalive = 1 },
		"bad prefix": func(c *api.Config) { c.Peers[3].Allowed = []api.Prefix{{Bits: 40}} },
	}
	duplicates := map[string]func(*api.Config){
		"key":    func(c *api.Config) { c.Peers[1].Public = c.Peers[0].Public },
		"prefix": func(c *api.Config) { c.Peers[0].Allowed = []api.Prefix{{Addr: six()}, {Addr: six()}} },
	}
	for limitName, limit := range limits {
		for rangeName, outside := range ranges {
			for sameName, duplicate := range duplicates {
				for parts := range 8 {
					c, want := somePeers(4), api.OK
					if parts&1 != 0 {
						duplicate(&c)
						want = api.ErrDuplicate
					}
					if parts&2 != 0 {
						outside(&c)
						want = api.ErrArg
					}
					if parts&4 != 0 {
						limit(&c)
						want = api.ErrLimit
					}
					wantError(t, limitName+", "+rangeName+", "+sameName, c, want)
				}
			}
		}
	}
}

// randomConfig returns a configuration that is often valid.
func randomConfig(random *rand.Rand) api.Config {
	c := api.Config{Port: random.Intn(65536)}
	random.Read(c.Private[:])
	for range random.Intn(9) {
		var p api.PeerConfig
		random.Read(p.Public[:])
		if random.Intn(2) == 0 {
			random.Read(p.Shared[:])
		}
		if random.Intn(2) == 0 {
			p.HasEndpoint, p.Endpoint = true, randomEndpoint(random)
		}
		if random.Intn(2) == 0 {
			p.Keepalive = 1000 + random.Int63n(1<<30-999)
		}
		for range random.Intn(3) {
			p.Allowed = append(p.Allowed, randomPrefix(random))
		}
		c.Peers = append(c.Peers, p)
	}
	return c
}

// spoil makes a value of a configuration wrong, or just another one.
func spoil(random *rand.Rand, c *api.Config) {
	if len(c.Peers) == 0 {
		c.Port = random.Intn(1<<18) - 1<<17
		return
	}
	p, q := &c.Peers[random.Intn(len(c.Peers))], c.Peers[random.Intn(len(c.Peers))]
	switch random.Intn(9) {
	case 0:
		c.Port = random.Intn(1<<18) - 1<<17
	case 1:
		p.HasEndpoint = !p.HasEndpoint
	case 2:
		p.Endpoint.Port = random.Intn(1<<18) - 1<<17
	case 3:
		p.Keepalive = random.Int63() >> random.Intn(63)
	case 4:
		p.Public = q.Public
	case 5:
		p.Allowed = append(p.Allowed, q.Allowed...)
	case 6:
		p.Allowed = append(p.Allowed, api.Prefix{Addr: randomAddr(random), Bits: random.Intn(140)})
	case 7:
		p.Endpoint.Addr.Six = !p.Endpoint.Addr.Six
	case 8:
		c.Peers = append(c.Peers, randomConfig(random).Peers...)
	}
}

// P13.2, P13.3, P13.5: random configurations, valid and wrong ones.
func TestRandomConfigs(t *testing.T) {
	random := rand.New(rand.NewSource(1313))
	counts := map[api.Errno]int{}
	for range 5000 {
		c := randomConfig(random)
		counts[checkConfig(t, c)]++
		for range 1 + random.Intn(2) {
			spoil(random, &c)
		}
		counts[checkConfig(t, c)]++
	}
	for _, err := range []api.Errno{api.OK, api.ErrLimit, api.ErrArg, api.ErrDuplicate} {
		if counts[err] < 100 {
			t.Errorf("error %d came %d times", err, counts[err])
		}
	}
}

// P13.5: the longest text of a configuration has fewer than MaxText bytes, so that every one can be read.
func TestLongestText(t *testing.T) {
	c := somePeers(8)
	c.Port = 65535
	long := six(255, 255, 255, 255, 255, 255, 255, 255, 255, 255, 255, 255, 255, 255, 255)
	for i := range c.Peers {
		p := &c.Peers[i]
		p.Shared, p.HasEndpoint, p.Keepalive = keyOne, true, 1<<30
		p.Endpoint = api.Endpoint{Addr: long, Port: 65535}
		for n := range 2 {
			a := long
			a.IP[0], a.IP[15] = byte(255-i), byte(255-n)
			p.Allowed = append(p.Allowed, api.Prefix{Addr: a, Bits: 128})
		}
	}
	wantError(t, "long", c, api.OK)
	if s, _ := Format(c); len(s) > api.MaxText || len(s) < 2500 {
		t.Errorf("%d bytes", len(s))
	}
}
