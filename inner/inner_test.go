package inner

import (
	"bytes"
	"encoding/binary"
	"math/rand"
	"net/netip"
	"testing"

	"burrow/api"
)

// The limits, written out so that the tests do not depend on the constants of package api.
const (
	maxPlain  = 2000
	maxPadded = 2016
)

// ipOf returns the address of a text.
func ipOf(text string) api.Addr {
	ip := netip.MustParseAddr(text)
	a := api.Addr{Six: ip.Is6()}
	copy(a.IP[:], ip.AsSlice())
	return a
}

// fourPacket returns a packet of version 4 with so many bytes, of which those that do not count are random. It cuts off what has no room.
func fourPacket(random *rand.Rand, size, words, length int) []byte {
	b := make([]byte, max(size, 20))
	random.Read(b)
	b[0] = byte(4<<4 | words)
	binary.BigEndian.PutUint16(b[2:], uint16(length))
	return b[:size]
}

// sixPacket does the same for version 6; payload is what its header says.
func sixPacket(random *rand.Rand, size, payload int) []byte {
	b := make([]byte, max(size, 40))
	random.Read(b)
	b[0] = 6<<4 | b[0]&15
	binary.BigEndian.PutUint16(b[4:], uint16(payload))
	return b[:size]
}

// plainCheck follows P10.1 word for word.
func plainCheck(packet []byte) (api.Info, api.Errno) {
	if len(packet) == 0 {
		return api.Info{}, api.ErrShort
	}
	if len(packet) > maxPadded {
		return api.Info{}, api.ErrLong
	}
	version := packet[0] >> 4
	if version != 4 && version != 6 {
		return api.Info{}, api.ErrType
	}
	if version == 4 && len(packet) < 20 || version == 6 && len(packet) < 40 {
		return api.Info{}, api.ErrShort
	}
	var info api.Info
	if version == 4 {
		info.Length = int(packet[2])*256 + int(packet[3])
		copy(info.Source.IP[:], packet[12:16])
		copy(info.Dest.IP[:], packet[16:20])
		words := int(packet[0] % 16)
		if words < 5 || 4*words > info.Length {
			return api.Info{}, api.ErrForm
		}
	} else {
		info.Length = 40 + int(packet[4])*256 + int(packet[5])
		info.Source.Six, info.Dest.Six = true, true
		copy(info.Source.IP[:], packet[8:24])
		copy(info.Dest.IP[:], packet[24:40])
	}
	if info.Length > len(packet) {
		return api.Info{}, api.ErrShort
	}
	if info.Length > maxPlain {
		return api.Info{}, api.ErrLong
	}
	return info, api.OK
}

// checkPacket compares Check and Trim with plainCheck, and looks whether they change the packet.
func checkPacket(t *testing.T, packet []byte) {
	t.Helper()
	before := bytes.Clone(packet)
	want, wantErr := plainCheck(packet)
	if got, err := Check(packet); got != want || err != wantErr {
		t.Errorf("Check of %d bytes %x is %v with error %d, not %v with error %d", len(packet), start(packet), got, err, want, wantErr)
	}
	if got, err := Trim(packet); !bytes.Equal(got, packet[:want.Length]) || err != wantErr {
		t.Errorf("Trim of %d bytes %x has %d bytes and error %d, not %d and error %d", len(packet), start(packet), len(got), err, want.Length, wantErr)
	}
	if !bytes.Equal(packet, before) {
		t.Errorf("a packet of %d bytes was changed", len(packet))
	}
}

func start(packet []byte) []byte {
	return packet[:min(len(packet), 40)]
}

// checkErrno reports a packet that Check or Trim refuse with another error, or with another result that is not zero.
func checkErrno(t *testing.T, name string, packet []byte, want api.Errno) {
	t.Helper()
	info, err := Check(packet)
	if err != want || err != api.OK && info != (api.Info{}) {
		t.Errorf("%s: Check returns %v and error %d, not error %d", name, info, err, want)
	}
	trimmed, err := Trim(packet)
	if err != want || err != api.OK && len(trimmed) != 0 {
		t.Errorf("%s: Trim returns %d bytes and error %d, not error %d", name, len(trimmed), err, want)
	}
}

// P10.1 and P10.2: the example of the chapter.
func TestExample(t *testing.T) {
	packet := []byte{0x45, 0, 0, 0x14, 0, 0, 0, 0, 0, 0, 0, 0, 0x0a, 0, 0, 1, 0x0a, 0, 0, 2}
	want := api.Info{Source: ipOf("10.0.0.1"), Dest: ipOf("10.0.0.2"), Length: 20}
	if info, err := Check(packet); info != want || err != api.OK {
		t.Errorf("Check returns %v and error %d", info, err)
	}
	padded := Pad(packet)
	if !bytes.Equal(padded, append(bytes.Clone(packet), make([]byte, 12)...)) {
		t.Errorf("Pad returns %x", padded)
	}
	if trimmed, err := Trim(padded); !bytes.Equal(trimmed, packet) || err != api.OK {
		t.Errorf("Trim returns %x and error %d", trimmed, err)
	}
}

// P10.1: where the fields of both versions are.
func TestFields(t *testing.T) {
	four := make([]byte, 301)
	six := make([]byte, 301)
	for i := range four {
		four[i], six[i] = byte(i), byte(i)
	}
	four[0], four[2], four[3] = 0x45, 1, 2
	six[0], six[4], six[5] = 0x60, 1, 2
	want := api.Info{Source: ipOf("12.13.14.15"), Dest: ipOf("16.17.18.19"), Length: 258}
	if info, err := Check(four); info != want || err != api.OK {
		t.Errorf("version 4: %v and error %d", info, err)
	}
	want = api.Info{Source: ipOf("809:a0b:c0d:e0f:1011:1213:1415:1617"), Dest: ipOf("1819:1a1b:1c1d:1e1f:2021:2223:2425:2627"), Length: 298}
	if info, err := Check(six); info != want || err != api.OK {
		t.Errorf("version 6: %v and error %d", info, err)
	}
}

// P10.1: each error, at the ends of its range.
func TestErrors(t *testing.T) {
	random := rand.New(rand.NewSource(1))
	four := func(size, words, length int) []byte { return fourPacket(random, size, words, length) }
	six := func(size, payload int) []byte { return sixPacket(random, size, payload) }
	tests := []struct {
		name   string
		packet []byte
		want   api.Errno
	}{
		{"nil", nil, api.ErrShort},
		{"no bytes", []byte{}, api.ErrShort},
		{"as many bytes as there may be", four(2016, 5, 2000), api.OK},
		{"one byte too many", four(2017, 5, 2000), api.ErrLong},
		{"far too many bytes", six(1<<20, 100), api.ErrLong},
		{"version 4 in the lower bits", []byte{0x54}, api.ErrType},
		{"version 0", make([]byte, 60), api.ErrType},
		{"version 4, 1 byte", four(1, 5, 1), api.ErrShort},
		{"version 4, 19 bytes", four(19, 5, 19), api.ErrShort},
		{"version 4, 20 bytes", four(20, 5, 20), api.OK},
		{"version 6, 1 byte", six(1, 0), api.ErrShort},
		{"version 6, 20 bytes", six(20, 0), api.ErrShort},
		{"version 6, 39 bytes", six(39, 0), api.ErrShort},
		{"version 6, 40 bytes", six(40, 0), api.OK},
		{"4 words", four(60, 4, 60), api.ErrForm},
		{"no words", four(60, 0, 60), api.ErrForm},
		{"15 words", four(60, 15, 60), api.OK},
		{"15 words in 59 bytes", four(60, 15, 59), api.ErrForm},
		{"5 words in 19 bytes", four(60, 5, 19), api.ErrForm},
		{"length 0", four(60, 5, 0), api.ErrForm},
		{"a header that is longer than the bytes", four(20, 6, 24), api.ErrShort},
		{"version 4, a byte is missing", four(100, 5, 101), api.ErrShort},
		{"version 4, a byte is left over", four(100, 5, 99), api.OK},
		{"version 6, a byte is missing", six(100, 61), api.ErrShort},
		{"version 6, a byte is left over", six(100, 59), api.OK},
		{"version 4, a length of 2001", four(2001, 5, 2001), api.ErrLong},
		{"version 4, a length of 2016", four(2016, 5, 2016), api.ErrLong},
		{"version 6, a length of 2000", six(2016, 1960), api.OK},
		{"version 6, a length of 2001", six(2016, 1961), api.ErrLong},
		{"version 6, a length of 2016", six(2016, 1976), api.ErrLong},
		{"version 6, the greatest length", six(2016, 65535), api.ErrShort},
	}
	for _, test := range tests {
		checkErrno(t, test.name, test.packet, test.want)
		checkPacket(t, test.packet)
	}
}

// P10.1: of several errors the first one counts.
func TestErrorOrder(t *testing.T) {
	random := rand.New(rand.NewSource(2))
	four := func(size, words, length int) []byte { return fourPacket(random, size, words, length) }
	tests := []struct {
		name   string
		packet []byte
		want   api.Errno
	}{
		{"too many bytes, wrong version", make([]byte, 2017), api.ErrLong},
		{"too many bytes, wrong form", four(2017, 4, 3000), api.ErrLong},
		{"too many bytes, missing ones", four(2017, 5, 3000), api.ErrLong},
		{"wrong version, no whole header", []byte{0x75}, api.ErrType},
		{"no whole header, wrong form", four(19, 4, 60), api.ErrShort},
		{"wrong form, missing bytes", four(20, 4, 30), api.ErrForm},
		{"wrong form, length too great", four(2016, 4, 2010), api.ErrForm},
		{"missing bytes, length too great", four(2000, 5, 2001), api.ErrShort},
		{"missing bytes, length too great", sixPacket(random, 2016, 1977), api.ErrShort},
	}
	for _, test := range tests {
		checkErrno(t, test.name, test.packet, test.want)
		checkPacket(t, test.packet)
	}
}

// P10.1: each value of the first byte, for all numbers of bytes around the lengths of headers.
func TestFirstByte(t *testing.T) {
	random := rand.New(rand.NewSource(3))
	for value := range 256 {
		for size := 1; size < 64; size++ {
			packet := fourPacket(random, size, 5, size)
			packet[0] = byte(value)
			checkPacket(t, packet)
			packet = sixPacket(random, size, max(0, size-40))
			packet[0] = byte(value)
			checkPacket(t, packet)
		}
	}
}

// P10.1: the number of words against the length, whether the bytes are there or not.
func TestHeaderWords(t *testing.T) {
	random := rand.New(rand.NewSource(4))
	for words := range 16 {
		for length := range 70 {
			for _, size := range []int{20, 40, 60, length, length + 1} {
				checkPacket(t, fourPacket(random, size, words, length))
			}
		}
	}
}

// P10.1: each length that a header can have, for some numbers of bytes.
func TestLengths(t *testing.T) {
	random := rand.New(rand.NewSource(5))
	for _, size := range []int{40, 255, 256, 257, 1999, 2000, 2001, 2015, 2016, 2017} {
		four, six := fourPacket(random, size, 5, 0), sixPacket(random, size, 0)
		for length := range 1 << 16 {
			binary.BigEndian.PutUint16(four[2:], uint16(length))
			binary.BigEndian.PutUint16(six[4:], uint16(length))
			if info, err := Check(four); !same(four, info, err) {
				t.Errorf("version 4, length %d of %d bytes: %v and error %d", length, size, info, err)
			}
			if info, err := Check(six); !same(six, info, err) {
				t.Errorf("version 6, payload %d of %d bytes: %v and error %d", length, size, info, err)
			}
		}
	}
}

// same reports whether these are the results of plainCheck.
func same(packet []byte, info api.Info, err api.Errno) bool {
	want, wantErr := plainCheck(packet)
	return info == want && err == wantErr
}

// P10.1 and P10.2: each number of bytes with the length that fits, and with lengths beside it.
func TestSizes(t *testing.T) {
	random := rand.New(rand.NewSource(6))
	for size := range 2100 {
		for _, more := range []int{-16, -1, 0, 1} {
			checkPacket(t, fourPacket(random, size, 5, max(0, size+more)))
			checkPacket(t, sixPacket(random, size, max(0, size-40+more)))
		}
	}
}

// P10.1 and P10.2: any bytes.
func TestAnyBytes(t *testing.T) {
	random := rand.New(rand.NewSource(7))
	for range 50000 {
		packet := make([]byte, random.Intn(120))
		random.Read(packet)
		checkPacket(t, packet)
		if len(packet) > 5 {
			packet[0] = []byte{0x45, 0x46, 0x4f, 0x60, 0x6f}[random.Intn(5)]
			packet[2], packet[4] = byte(random.Intn(50)/49), byte(random.Intn(50)/49)
			checkPacket(t, packet)
		}
	}
}

// P10.2 and P10.4: Pad adds fewer than 16 bytes, all of them zero, for every number of bytes and any bytes; it has no limit.
func TestPad(t *testing.T) {
	random := rand.New(rand.NewSource(8))
	for size := range 2200 {
		packet := make([]byte, size)
		random.Read(packet)
		checkPad(t, packet)
		checkPad(t, bytes.Repeat([]byte{255}, size))
	}
	for _, size := range []int{1<<16 - 1, 1 << 16, 1<<16 + 1, 1<<20 + 7} {
		checkPad(t, bytes.Repeat([]byte{7}, size))
	}
	for size, want := range map[int]int{0: 0, 1: 16, 15: 16, 16: 16, 17: 32, 1999: 2000, 2000: 2000, 2001: 2016} {
		if padded := Pad(make([]byte, size)); len(padded) != want {
			t.Errorf("Pad of %d bytes has %d", size, len(padded))
		}
	}
	if padded := Pad(nil); len(padded) != 0 {
		t.Errorf("Pad of nothing is %x", padded)
	}
}

func checkPad(t *testing.T, packet []byte) {
	t.Helper()
	before := bytes.Clone(packet)
	padded := Pad(packet)
	added := len(padded) - len(packet)
	if added < 0 || added > 15 || len(padded)%16 != 0 {
		t.Errorf("Pad of %d bytes has %d", len(packet), len(padded))
		return
	}
	if !bytes.Equal(padded[:len(packet)], packet) || !bytes.Equal(padded[len(packet):], make([]byte, added)) {
		t.Errorf("Pad of %x is %x", packet, padded)
	}
	if !bytes.Equal(packet, before) {
		t.Errorf("Pad changes %d bytes", len(packet))
	}
}

// P10.4: Trim takes away what Pad added, for every length of a packet.
func TestTrimOfPad(t *testing.T) {
	random := rand.New(rand.NewSource(9))
	for length := 20; length <= maxPlain; length++ {
		checkTrimOfPad(t, fourPacket(random, length, 5, length))
		if length >= 60 {
			checkTrimOfPad(t, fourPacket(random, length, 15, length))
		}
		if length >= 40 {
			checkTrimOfPad(t, sixPacket(random, length, length-40))
		}
	}
}

func checkTrimOfPad(t *testing.T, packet []byte) {
	t.Helper()
	if info, err := Check(packet); info.Length != len(packet) || err != api.OK {
		t.Errorf("Check of %d bytes: length %d and error %d", len(packet), info.Length, err)
	}
	if trimmed, err := Trim(Pad(packet)); !bytes.Equal(trimmed, packet) || err != api.OK {
		t.Errorf("Trim of the padded packet of %d bytes has %d and error %d", len(packet), len(trimmed), err)
	}
}

// P10.2: Trim takes away all bytes behind the length, also if they are not zero or more than Pad adds.
func TestTrimOfLongerPacket(t *testing.T) {
	random := rand.New(rand.NewSource(10))
	for _, behind := range []int{0, 1, 15, 16, 17, 1000, 1996} {
		packet := fourPacket(random, 20+behind, 5, 20)
		trimmed, err := Trim(packet)
		if !bytes.Equal(trimmed, packet[:20]) || err != api.OK {
			t.Errorf("%d bytes behind the length: %d and error %d", behind, len(trimmed), err)
		}
	}
}

// R3: the results of Pad and Trim are new memory, also if the argument has room behind its bytes, or there is nothing to add or to take away.
func TestNewMemory(t *testing.T) {
	random := rand.New(rand.NewSource(11))
	for _, size := range []int{20, 31, 32, 33} {
		memory := bytes.Repeat([]byte{9}, 100)
		packet := memory[:copy(memory, fourPacket(random, size, 5, size))]
		before := bytes.Clone(memory)
		padded := Pad(packet)
		trimmed, err := Trim(packet)
		if err != api.OK {
			t.Errorf("Trim of %d bytes: error %d", size, err)
		}
		checkPad(t, packet)
		for _, result := range [][]byte{padded, trimmed} {
			room := result[:cap(result)]
			for i := range room {
				room[i] ^= 255
			}
		}
		if !bytes.Equal(memory, before) {
			t.Errorf("a result of a packet of %d bytes shares its memory", size)
		}
	}
}

// R4: a second call returns the same, also if the first result was changed.
func TestRepeated(t *testing.T) {
	packet := sixPacket(rand.New(rand.NewSource(12)), 53, 13)
	first, _ := Trim(Pad(packet))
	clear(first)
	checkTrimOfPad(t, packet)
}

func BenchmarkCheck(b *testing.B) {
	packet := fourPacket(rand.New(rand.NewSource(13)), 1500, 5, 1500)
	for b.Loop() {
		Check(packet)
	}
}
