package config

import (
	"encoding/base64"
	"math/rand"
	"regexp"
	"slices"
	"strconv"
	"strings"
	"testing"

	"burrow/api"
)

var (
	outerBlanks = regexp.MustCompile(`^[ \t]+|[ \t]+$`)
	commas      = regexp.MustCompile(`[ \t]*,[ \t]*`)
	entryForm   = regexp.MustCompile(`(?s)^([A-Za-z]+)[ \t]*=[ \t]*(.*)$`)
	keyForm     = regexp.MustCompile(`^[A-Za-z0-9+/]{42}[AEIMQUYcgkosw048]=$`)
	numberForm  = regexp.MustCompile(`^(?:0|[1-9][0-9]{0,9})$`)
)

// plainSection is a section as it is read: the values by their names.
type plainSection map[string]string

// plainMissing reports whether something is missing in the last of the sections.
func plainMissing(l []plainSection) bool {
	has := func(name string) bool {
		_, ok := l[len(l)-1][name]
		return ok
	}
	switch len(l) {
	case 0:
		return true
	case 1:
		return !has("PrivateKey") || !has("ListenPort")
	}
	return !has("PublicKey")
}

// plainRight reports whether a value is right for a name of the interface or of a peer.
func plainRight(ofPeer bool, name, value string) bool {
	switch {
	case name == "PrivateKey" && !ofPeer, name == "PublicKey" && ofPeer, name == "PresharedKey" && ofPeer:
		return keyForm.MatchString(value)
	case name == "ListenPort" && !ofPeer, name == "PersistentKeepalive" && ofPeer:
		return numberForm.MatchString(value)
	case name == "Endpoint" && ofPeer:
		_, err := plainParseEndpoint(value)
		return err == api.OK
	case name == "AllowedIPs" && ofPeer:
		return !slices.ContainsFunc(commas.Split(value, -1), func(s string) bool {
			_, err := plainParsePrefix(s)
			return err != api.OK
		})
	}
	return false
}

// plainKey returns the key of a text that is right or missing.
func plainKey(s string) api.Key {
	var k api.Key
	b, _ := base64.StdEncoding.DecodeString(s)
	copy(k[:], b)
	return k
}

func plainNumber(s string) int {
	n, _ := strconv.Atoi(s)
	return n
}

// plainConfig returns the configuration of sections that are right.
func plainConfig(l []plainSection) api.Config {
	c := api.Config{Private: plainKey(l[0]["PrivateKey"]), Port: plainNumber(l[0]["ListenPort"])}
	for _, s := range l[1:] {
		p := api.PeerConfig{Public: plainKey(s["PublicKey"]), Shared: plainKey(s["PresharedKey"]), Keepalive: int64(plainNumber(s["PersistentKeepalive"]))}
		p.Endpoint, _ = plainParseEndpoint(s["Endpoint"])
		_, p.HasEndpoint = s["Endpoint"]
		if value, ok := s["AllowedIPs"]; ok {
			for _, text := range commas.Split(value, -1) {
				prefix, _ := plainParsePrefix(text)
				p.Allowed = append(p.Allowed, prefix)
			}
		}
		c.Peers = append(c.Peers, p)
	}
	return c
}

// plainParse follows P13.4 word for word, by regular expressions.
func plainParse(s string) (api.Config, int, api.Errno) {
	if len(s) > 4000 {
		return api.Config{}, 0, api.ErrLong
	}
	lines := strings.Split(s, "\n")
	if lines[len(lines)-1] == "" {
		lines = lines[:len(lines)-1]
	}
	var sections []plainSection
	for i, line := range lines {
		line = outerBlanks.ReplaceAllString(line, "")
		parts := entryForm.FindStringSubmatch(line)
		right := false
		switch {
		case line == "" || line[0] == '#':
			right = true
		case line == "[Interface]":
			right = len(sections) == 0
			sections = append(sections, plainSection{})
		case line == "[Peer]":
			right = !plainMissing(sections)
			sections = append(sections, plainSection{})
		case parts != nil && len(sections) > 0:
			last := sections[len(sections)-1]
			_, twice := last[parts[1]]
			right = !twice && plainRight(len(sections) > 1, parts[1], parts[2])
			last[parts[1]] = parts[2]
		}
		if !right {
			return api.Config{}, i + 1, api.ErrForm
		}
	}
	if plainMissing(sections) {
		return api.Config{}, len(lines) + 1, api.ErrForm
	}
	c := plainConfig(sections)
	if err := plainValidate(c); err != api.OK {
		return api.Config{}, 0, err
	}
	return c, 0, api.OK
}

// checkParse compares Parse with the plain version, and writes what it accepts. It returns the line and the error of the plain version.
func checkParse(t *testing.T, s string) (int, api.Errno) {
	t.Helper()
	want, wantLine, wantErr := plainParse(s)
	c, line, err := Parse(s)
	if err != wantErr || line != wantLine || !same(c, want) {
		t.Errorf("Parse(%q) is %v, %d, %d, not %v, %d, %d", s, c, line, err, want, wantLine, wantErr)
	}
	if wantErr != api.OK {
		return wantLine, wantErr
	}
	text, err := Format(c)
	if again, _, errAgain := Parse(text); err != api.OK || errAgain != api.OK || !same(again, c) {
		t.Errorf("Parse(%q) is %v, not %v, %d, %d", text, again, c, err, errAgain)
	}
	return 0, api.OK
}

// wantParse looks for an error of Parse in a line.
func wantParse(t *testing.T, s string, line int, want api.Errno) {
	t.Helper()
	_, gotLine, got := Parse(s)
	if got != want || gotLine != line {
		t.Errorf("Parse(%q) has error %d in line %d, not %d in %d", s, got, gotLine, want, line)
	}
	checkParse(t, s)
}

// start returns the section of an interface, which has three lines.
func start() string {
	return "[Interface]\nPrivateKey = " + oneText + "\nListenPort = 1\n"
}

// peer returns the two lines of a peer whose key begins with a letter.
func peer(letter string) string {
	return "[Peer]\nPublicKey = " + letter + oneText[1:] + "\n"
}

// P13.4: a text as Format writes it, and one that is written in another way.
func TestParse(t *testing.T) {
	c, text := full()
	if x, line, err := Parse(text); err != api.OK || line != 0 || !same(x, c) {
		t.Errorf("%v, %d, %d", x, line, err)
	}
	loose := "\n# the interface\n\t [Interface] \t\nListenPort=51820\t\n \t\n  PrivateKey\t =\t /wAAAAAAAAAAAAAAAAAAAAAAAAAAAAAAAAAAAAAAAAA=\n" +
		"[Peer]\n#Endpoint = 1.2.3.4:5\nAllowedIPs =  FD00:0:00:0:000:0:0000:0/8 \t,\t10.0.0.0/8,0.0.0.0/0 \n\t# [Peer]\nPersistentKeepalive =25000\nEndpoint= 192.0.2.7:1\nPublicKey=" + oneText + "\n\nPresharedKey = " + oneText + "\n" +
		"[Peer]\nPersistentKeepalive = 0\nPresharedKey = " + zeroText + "\nPublicKey = " + zeroText + "\n" +
		"[Peer]\nEndpoint = [2001:0:0:0:0:0:0:0]:65535\nAllowedIPs = 10.1.2.3/32\nPublicKey = AgAAAAAAAAAAAAAAAAAAAAAAAAAAAAAAAAAAAAAAAAA="
	if x, line, err := Parse(loose); err != api.OK || line != 0 || !same(x, c) {
		t.Errorf("%v, %d, %d", x, line, err)
	}
	checkParse(t, text)
	checkParse(t, loose)
}

// P13.4: the lines and errors of texts that are wrong as a whole.
func TestParseErrors(t *testing.T) {
	tests := []struct {
		text string
		line int
		want api.Errno
	}{
		{"", 1, api.ErrForm},
		{"\n", 2, api.ErrForm},
		{"\n\n", 3, api.ErrForm},
		{"\n\n ", 4, api.ErrForm},
		{"#", 2, api.ErrForm},
		{"#\n", 2, api.ErrForm},
		{"x", 1, api.ErrForm},
		{"[Peer]", 1, api.ErrForm},
		{"\n[Peer]\n", 2, api.ErrForm},
		{"ListenPort = 1\n" + start(), 1, api.ErrForm},
		{"PublicKey = " + oneText + "\n" + start(), 1, api.ErrForm},
		{"[Interface]", 2, api.ErrForm},
		{"[Interface]\n", 2, api.ErrForm},
		{"[Interface]\n\n", 3, api.ErrForm},
		{"[Interface]\n#", 3, api.ErrForm},
		{"[Interface]\nListenPort = 1", 3, api.ErrForm},
		{"[Interface]\nPrivateKey = " + oneText + "\n", 3, api.ErrForm},
		{"[Interface]\nPrivateKey = " + oneText + "\n\n[Peer]\n", 4, api.ErrForm},
		{"[Interface]\nListenPort = 1\n[Peer]\nPrivateKey = " + oneText, 3, api.ErrForm},
		{"[Interface]\n[Interface]\n", 2, api.ErrForm},
		{start(), 0, api.OK},
		{strings.TrimSuffix(start(), "\n"), 0, api.OK},
		{start() + "\n\n\n", 0, api.OK},
		{start() + "[Interface]\n", 4, api.ErrForm},
		{start() + peer("B") + "[Interface]\n", 6, api.ErrForm},
		{start() + "[Peer]", 5, api.ErrForm},
		{start() + "[Peer]\n\n#\n", 7, api.ErrForm},
		{start() + "[Peer]\n[Peer]\n", 5, api.ErrForm},
		{start() + "[Peer]\nPresharedKey = " + oneText + "\n\n[Peer]\nwrong\n", 7, api.ErrForm},
		{start() + peer("B") + "[Peer]\nPersistentKeepalive = 0\n", 8, api.ErrForm},
		{start() + "PublicKey = " + oneText, 4, api.ErrForm},
		{start() + "PresharedKey = " + oneText, 4, api.ErrForm},
		{start() + "Endpoint = 1.2.3.4:5\n", 4, api.ErrForm},
		{start() + "PersistentKeepalive = 0\n", 4, api.ErrForm},
		{start() + "AllowedIPs = 10.0.0.0/8\n", 4, api.ErrForm},
		{start() + peer("B") + "ListenPort = 1\n", 6, api.ErrForm},
		{start() + peer("B") + "PrivateKey = " + oneText + "\n", 6, api.ErrForm},
		{start() + peer("B") + peer("C"), 0, api.OK},
		{start() + peer("B") + peer("B"), 0, api.ErrDuplicate},
		{start() + peer("B") + peer("B") + "x\n", 8, api.ErrForm},
		{start() + peer("B") + peer("B") + "[Peer]\n", 9, api.ErrForm},
		{start() + strings.Repeat(peer("B"), 9), 0, api.ErrLimit},
		{start() + strings.Repeat(peer("B"), 9) + "[Interface]", 22, api.ErrForm},
		{strings.Replace(start(), "= 1", "= 65535", 1), 0, api.OK},
		{strings.Replace(start(), "= 1", "= 65536", 1), 0, api.ErrArg},
		{strings.Replace(start(), "= 1", "= 9999999999", 1), 0, api.ErrArg},
		{strings.Replace(start(), "= 1", "= 65536", 1) + strings.Repeat(peer("B"), 2), 0, api.ErrArg},
		{start() + peer("B") + "PersistentKeepalive = 999\n", 0, api.ErrArg},
		{start() + peer("B") + "PersistentKeepalive = 1073741825\n", 0, api.ErrArg},
		{start() + peer("B") + "AllowedIPs = 10.0.0.0/8, 10.0.0.0/8\n", 0, api.ErrDuplicate},
		{start() + peer("B") + "AllowedIPs = 10.0.0.0/8\n" + peer("C") + "AllowedIPs = 10.0.0.0/8\n", 0, api.ErrDuplicate},
		{start() + peer("B") + "AllowedIPs = " + strings.Repeat("10.0.0.0/8,", 16) + "10.0.0.0/8\n", 0, api.ErrLimit},
	}
	for _, test := range tests {
		wantParse(t, test.text, test.line, test.want)
	}
}

// withEntry returns a text with a line for this name in which everything else is right, and the number of that line, which is the last one.
func withEntry(name, entry string) (string, int) {
	switch name {
	case "PrivateKey":
		return "[Interface]\nListenPort = 1\n" + entry + "\n", 3
	case "ListenPort":
		return "[Interface]\nPrivateKey = " + oneText + "\n" + entry + "\n", 3
	case "PublicKey":
		return start() + "[Peer]\n" + entry + "\n", 5
	}
	return start() + peer("B") + entry + "\n", 6
}

// rightValues returns values for each name.
func rightValues() map[string][]string {
	return map[string][]string{
		"PrivateKey":          {oneText, zeroText},
		"ListenPort":          {"0", "1", "65535"},
		"PublicKey":           {oneText, zeroText},
		"PresharedKey":        {oneText, zeroText},
		"Endpoint":            {"1.2.3.4:5", "[0:0:0:0:0:0:0:0]:65535", "[ABCD:00:0:0:0:0:0:0]:1"},
		"PersistentKeepalive": {"0", "1000", "1073741824"},
		"AllowedIPs":          {"0.0.0.0/0", "10.0.0.0/8,0:0:0:0:0:0:0:0/0", "10.0.0.0/8 \t , \t 0.0.0.0/0,\t0.0.0.0/1"},
	}
}

// P13.4: values of each name, with all kinds of spaces and tabs.
func TestParseValues(t *testing.T) {
	for name, values := range rightValues() {
		for _, value := range values {
			for _, between := range []string{"=", " = ", "\t=", "=\t \t", " \t = "} {
				for _, outside := range []string{"", " ", "\t", " \t "} {
					s, _ := withEntry(name, outside+name+between+value+outside)
					wantParse(t, s, 0, api.OK)
				}
			}
		}
	}
}

// P13.4: values that are wrong, or are right for other names only.
func TestWrongValues(t *testing.T) {
	values := []string{
		"", "=", "#", "-", ",", "x", "\r", "\v1", "1\r", "1 #", "1 1", "1,", "01", "00", "-1", "+1", "-0", "1.0", "0x1", "1e3", "1_000", "１", "12345678901", "00000000001", "99999999999999999999", "\xa01",
		oneText[1:], oneText + "=", "=" + oneText, "= " + oneText, oneText[:43], oneText[:42] + "B=", oneText + " #", `"` + oneText + `"`, oneText + ", " + oneText,
		"1.2.3.4", "1.2.3.4:0", "1.2.3.4:65536", "1.2.3.4:05", "1.2.3.4 :5", "[1.2.3.4]:5", "[::]:5", "host:5", "1.2.3.4:5, 1.2.3.4:6",
		"10.0.0.0", "10.0.0.1/8", "10.0.0.0/33", "10.0.0.0/08", "10.0.0.0/8,", ",10.0.0.0/8", "10.0.0.0/8,,11.0.0.0/8", "10.0.0.0/8 11.0.0.0/8", "10.0.0.0/8, ,11.0.0.0/8", "10.0.0.0/8;11.0.0.0/8", "10.0.0.0/8,\r11.0.0.0/8", "10.0.0.0 /8", "::/0",
	}
	for _, l := range rightValues() {
		values = append(values, l...)
	}
	for name := range rightValues() {
		wrong := 0
		for _, value := range values {
			s, line := withEntry(name, name+" = "+value)
			if plainRight(name != "PrivateKey" && name != "ListenPort", name, value) {
				checkParse(t, s)
				continue
			}
			wantParse(t, s, line, api.ErrForm)
			wrong++
		}
		if wrong < len(values)-12 {
			t.Errorf("%s: %d wrong values of %d", name, wrong, len(values))
		}
	}
}

// P13.4: names that are not of the chapter, and lines that have none of the forms.
func TestParseLines(t *testing.T) {
	for _, line := range []string{
		"listenport = 1", "LISTENPORT = 1", "Listen Port = 1", "ListenPor = 1", "ListenPorts = 1", "ListenPort: 1", "ListenPort 1", "ListenPort", "= 1", "=", "ListenPort == 1", "\"ListenPort\" = 1", "ListenPort\x00 = 1", "ListenPort\r= 1", "ListenPort\u00a0= 1", "\vListenPort = 1",
		"MTU = 1420", "DNS = 1.1.1.1", "Address = 10.0.0.1/24", "publickey = " + oneText, "Publickey = " + oneText, "AllowedIps = 10.0.0.0/8", "AllowedIP = 10.0.0.0/8", "Keepalive = 1000", "PersistentKeepAlive = 1000", "PreSharedKey = " + oneText,
		"[interface]", "[INTERFACE]", "[Interface", "Interface]", "Interface", "[ Interface]", "[Interface ]", "[Interface] #", "[Interface]]", "[[Interface]]", "[Interface]\r", "[Interface][Peer]", "[Interface] = 1",
		"[peer]", "[Peers]", "[Peer", "Peer]", "[Peer ]", "[Peer] # x", "[Peer]\r", "[]", "[Peer 1]", "[Peer]=", "\ufeff[Peer]", "[Peer]\x00", "\f[Peer]", "\u00a0[Peer]", ";", "//", "x # y", "\r", "\x00", "\v", "\f", "\u00a0", "\u2028",
	} {
		wantParse(t, line+"\n"+start()+peer("B"), 1, api.ErrForm)
		wantParse(t, start()+line+"\n"+peer("B"), 4, api.ErrForm)
		wantParse(t, start()+peer("B")+" "+line+"\t\n"+peer("C"), 6, api.ErrForm)
		wantParse(t, start()+peer("B")+line, 6, api.ErrForm)
	}
	for _, line := range []string{"", " ", "\t", " \t \t", "#", "# x", "#[Peer]", " # ListenPort = 1", "\t#\x00\r\xff", "##"} {
		wantParse(t, line+"\n"+start()+line+"\n"+peer("B")+line+"\n"+peer("C")+line, 0, api.OK)
	}
}

// P13.4: the names in each order.
func TestOrderOfNames(t *testing.T) {
	c, text := full()
	lines := strings.SplitAfter(text, "\n")
	permute := func(l []string, look func(string)) {
		var place func(done string, left []string)
		place = func(done string, left []string) {
			if len(left) == 0 {
				look(done)
			}
			for i, line := range left {
				place(done+line, slices.Delete(slices.Clone(left), i, i+1))
			}
		}
		place("", l)
	}
	count := 0
	look := func(s string) {
		count++
		if x, line, err := Parse(s); err != api.OK || line != 0 || !same(x, c) {
			t.Errorf("Parse(%q) is %v, %d, %d", s, x, line, err)
		}
	}
	permute(lines[1:3], func(names string) {
		look(lines[0] + names + strings.Join(lines[3:], ""))
	})
	permute(lines[5:10], func(names string) {
		look(strings.Join(lines[:5], "") + names + strings.Join(lines[10:], ""))
	})
	if count != 2+120 {
		t.Errorf("%d orders", count)
	}
}

// P13.4: each line twice at each place, each line elsewhere, and each line left out.
func TestMovedLines(t *testing.T) {
	_, text := full()
	lines := strings.SplitAfter(strings.TrimSuffix(text, "\n"), "\n")
	lines[len(lines)-1] += "\n"
	for from, line := range lines {
		without := slices.Delete(slices.Clone(lines), from, from+1)
		checkParse(t, strings.Join(without, ""))
		for to := range len(lines) + 1 {
			checkParse(t, strings.Join(slices.Insert(slices.Clone(lines), to, line), ""))
			if to < len(lines) {
				checkParse(t, strings.Join(slices.Insert(slices.Clone(without), to, line), ""))
			}
		}
	}
}

// P13.4: a name may come once only in its section, whatever its values are.
func TestTwice(t *testing.T) {
	for name, values := range rightValues() {
		for _, first := range values {
			for _, second := range values {
				s, line := withEntry(name, name+" = "+first)
				wantParse(t, s+name+" = "+second+"\n", line+1, api.ErrForm)
			}
		}
	}
	s, _ := withEntry("PresharedKey", "PresharedKey = "+oneText)
	again := strings.ReplaceAll(strings.TrimPrefix(s, start()), "B"+oneText[1:], "C"+oneText[1:])
	wantParse(t, s+again, 0, api.OK)
}

// P13.4: how long a text may be, whatever is in it.
func TestParseLong(t *testing.T) {
	fill := api.MaxText - len(start())
	wantParse(t, start()+strings.Repeat("#", fill), 0, api.OK)
	wantParse(t, start()+strings.Repeat("\n", fill), 0, api.OK)
	wantParse(t, strings.Repeat(" ", fill)+start(), 0, api.OK)
	wantParse(t, start()+strings.Repeat("#", fill+1), 0, api.ErrLong)
	wantParse(t, strings.Repeat("x", api.MaxText), 1, api.ErrForm)
	wantParse(t, strings.Repeat("x", api.MaxText+1), 0, api.ErrLong)
	wantParse(t, strings.Repeat("\n", api.MaxText), api.MaxText+1, api.ErrForm)
	wantParse(t, strings.Repeat("\n", api.MaxText+1), 0, api.ErrLong)
	wantParse(t, strings.Repeat("\n", 1<<20), 0, api.ErrLong)
	wantParse(t, start()+peer("B")+"AllowedIPs = "+strings.Repeat(",", 3000), 6, api.ErrForm)
}

// P13.4: every changed, missing or added byte of a text, and each of its beginnings and ends.
func TestChangedTexts(t *testing.T) {
	counts := map[api.Errno]int{}
	for _, s := range []string{
		"[Interface]\nPrivateKey = " + oneText + "\nListenPort = 10\n\n[Peer]\nPublicKey = " + oneText + "\nAllowedIPs = 10.0.0.0/8, fd00:0:0:0:0:0:0:0/8\n",
		"#\n[Interface]\nListenPort=10\nPrivateKey=" + oneText + "\n[Peer]\nEndpoint=1.2.3.4:5\nPublicKey=" + oneText + "\nPersistentKeepalive=1000",
		start() + "[Peer]\nEndpoint = [fd00:0:0:0:0:0:0:0]:5\nPresharedKey = " + oneText + "\nPublicKey = " + zeroText + "\n[Peer]\nPublicKey = " + oneText,
	} {
		changed(s, []byte("\x00\t\n\v\r #+,-./0128:;=ABPafgkz[]_\x80\xff"), func(text string) {
			_, err := checkParse(t, text)
			counts[err]++
		})
	}
	if counts[api.OK] < 1000 || counts[api.ErrForm] < 1000 || counts[api.ErrArg] < 5 || counts[api.ErrDuplicate] < 1 {
		t.Error(counts)
	}
}

// randomEntry returns one of the lines.
func randomEntry(random *rand.Rand, lines ...string) string {
	return lines[random.Intn(len(lines))]
}

// randomSection returns the lines of a section of a peer in any order, which are right on their own.
func randomSection(random *rand.Rand) []string {
	lines := []string{
		randomEntry(random, "PublicKey = "+oneText, "PublicKey="+zeroText, "PublicKey = B"+oneText[1:], "PublicKey = C"+oneText[1:], "PublicKey = D"+oneText[1:]),
		randomEntry(random, "", "PresharedKey = "+oneText, "PresharedKey = "+zeroText),
		randomEntry(random, "", "Endpoint = 1.2.3.4:5", "Endpoint = [0:0:0:0:0:0:0:1]:5"),
		randomEntry(random, "#", "PersistentKeepalive = 0", "PersistentKeepalive = 1000", "PersistentKeepalive = 2000", "PersistentKeepalive = 999"),
		randomEntry(random, "#", "", "", "AllowedIPs = 10.0.0.0/8", "AllowedIPs = 11.0.0.0/8,0.0.0.0/0 , 12.0.0.0/8", "AllowedIPs = 13.0.0.0/8"),
	}
	random.Shuffle(len(lines), func(a, b int) { lines[a], lines[b] = lines[b], lines[a] })
	return append([]string{"[Peer]"}, lines...)
}

// P13.4: random sections, in some of which lines are missing, added or put elsewhere.
func TestRandomLines(t *testing.T) {
	random := rand.New(rand.NewSource(131313))
	counts := map[api.Errno]int{}
	for range 20000 {
		lines := []string{"[Interface]", "PrivateKey = " + oneText, "ListenPort = 7"}
		for range random.Intn(5) {
			lines = append(lines, randomSection(random)...)
		}
		for range random.Intn(3) {
			from, to := random.Intn(len(lines)), random.Intn(len(lines))
			line := randomEntry(random, lines[from], lines[from], "x", "=", "[Peer]", "[Interface]", "ListenPort = 01", "# x", "AllowedIPs = 10.0.0.1/8", "MTU = 1")
			if random.Intn(2) == 0 {
				lines = slices.Delete(lines, from, from+1)
			}
			if random.Intn(2) == 0 {
				lines = slices.Insert(lines, to, line)
			}
		}
		_, err := checkParse(t, strings.Join(lines, "\n")+randomEntry(random, "", "\n"))
		counts[err]++
	}
	for _, err := range []api.Errno{api.OK, api.ErrForm, api.ErrArg, api.ErrDuplicate} {
		if counts[err] < 500 {
			t.Errorf("error %d came %d times", err, counts[err])
		}
	}
}

// R3: what a caller does with a result changes no other one, and the prefixes of two peers do not share memory.
func TestParseMemory(t *testing.T) {
	c, text := full()
	first, _, _ := Parse(text)
	second, _, _ := Parse(text)
	for i := range first.Peers {
		p := &first.Peers[i]
		p.Public = api.Key{99}
		for n := range p.Allowed {
			p.Allowed[n] = api.Prefix{Bits: 7}
		}
		for range 4 {
			p.Allowed = append(p.Allowed, api.Prefix{Bits: 6})
		}
	}
	if !same(second, c) {
		t.Error(second)
	}
	for i, p := range first.Peers {
		want := len(c.Peers[i].Allowed)
		for n, prefix := range p.Allowed {
			if bits := prefix.Bits; n < want && bits != 7 || n >= want && bits != 6 {
				t.Error(i, n, prefix)
			}
		}
	}
}
