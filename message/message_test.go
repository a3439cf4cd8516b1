package message

import (
	"bytes"
	"encoding/binary"
	"math"
	"math/rand"
	"testing"

	"burrow/api"
)

// The limit, written out so that the tests do not depend on the constant of package api.
const maxDatagram = 2100

// count returns so many bytes, each one more than the one ahead of it.
func count(from byte, size int) []byte {
	b := make([]byte, size)
	for i := range b {
		b[i] = from + byte(i)
	}
	return b
}

// messageOf returns random bytes with the header of a kind. It cuts off what has no room.
func messageOf(random *rand.Rand, kind byte, size int) []byte {
	b := make([]byte, max(size, 4))
	random.Read(b)
	copy(b, []byte{kind, 0, 0, 0})
	return b[:size]
}

// plainKind follows P11.1 and the table of the formats word for word.
func plainKind(b []byte) int {
	if len(b) < 4 || b[1] != 0 || b[2] != 0 || b[3] != 0 {
		return 0
	}
	if b[0] == 1 && len(b) == 148 {
		return 1
	}
	if b[0] == 2 && len(b) == 92 {
		return 2
	}
	if b[0] == 3 && len(b) == 64 {
		return 3
	}
	if b[0] == 4 && len(b) >= 32 && len(b) <= maxDatagram {
		return 4
	}
	return 0
}

// plainWrite returns the header of a kind and the fields of a struct behind it, as the library encodes them. The fields of package api are in the order of the table.
func plainWrite(t *testing.T, kind byte, fields any) []byte {
	t.Helper()
	b := []byte{kind, 0, 0, 0}
	b, err := binary.Append(b, binary.LittleEndian, fields)
	if err != nil {
		t.Fatal(err)
	}
	return b
}

// plainRead sets the fields of a struct to what the library decodes from the bytes behind a header.
func plainRead(t *testing.T, b []byte, fields any) {
	t.Helper()
	if _, err := binary.Decode(b[4:], binary.LittleEndian, fields); err != nil {
		t.Fatal(err)
	}
}

// plainTransport does what plainWrite does for a transport message.
func plainTransport(m api.Transport) []byte {
	b := []byte{4, 0, 0, 0}
	b = binary.LittleEndian.AppendUint32(b, m.Receiver)
	b = binary.LittleEndian.AppendUint64(b, m.Counter)
	return append(b, m.Body...)
}

// errno returns the error of a Decode of the kind want for bytes whose kind is kind.
func errno(kind, want int) api.Errno {
	if kind == want {
		return api.OK
	}
	return api.ErrType
}

// checkKind compares Kind with plainKind.
func checkKind(t *testing.T, b []byte) {
	t.Helper()
	if got, want := Kind(b), plainKind(b); got != want {
		t.Errorf("Kind of %d bytes %x is %d, not %d", len(b), start(b), got, want)
	}
}

func start(b []byte) []byte {
	return b[:min(len(b), 16)]
}

// check compares Kind and all Decodes with the plain versions, encodes what was decoded, and looks whether b is changed.
func check(t *testing.T, b []byte) {
	t.Helper()
	before := bytes.Clone(b)
	checkKind(t, b)
	kind := plainKind(b)
	checkInitiation(t, b, kind)
	checkResponse(t, b, kind)
	checkCookie(t, b, kind)
	checkTransport(t, b, kind)
	if !bytes.Equal(b, before) {
		t.Errorf("a message of %d bytes was changed", len(b))
	}
}

func checkInitiation(t *testing.T, b []byte, kind int) {
	t.Helper()
	var want api.Initiation
	if kind == 1 {
		plainRead(t, b, &want)
	}
	m, err := DecodeInitiation(b)
	if m != want || err != errno(kind, 1) {
		t.Errorf("DecodeInitiation of %d bytes %x: %v and error %d", len(b), start(b), m, err)
	}
	if back := EncodeInitiation(m); err == api.OK && !bytes.Equal(back, b) {
		t.Errorf("EncodeInitiation returns %x for %x", back, b)
	}
}

func checkResponse(t *testing.T, b []byte, kind int) {
	t.Helper()
	var want api.Response
	if kind == 2 {
		plainRead(t, b, &want)
	}
	m, err := DecodeResponse(b)
	if m != want || err != errno(kind, 2) {
		t.Errorf("DecodeResponse of %d bytes %x: %v and error %d", len(b), start(b), m, err)
	}
	if back := EncodeResponse(m); err == api.OK && !bytes.Equal(back, b) {
		t.Errorf("EncodeResponse returns %x for %x", back, b)
	}
}

func checkCookie(t *testing.T, b []byte, kind int) {
	t.Helper()
	var want api.CookieReply
	if kind == 3 {
		plainRead(t, b, &want)
	}
	m, err := DecodeCookie(b)
	if m != want || err != errno(kind, 3) {
		t.Errorf("DecodeCookie of %d bytes %x: %v and error %d", len(b), start(b), m, err)
	}
	if back := EncodeCookie(m); err == api.OK && !bytes.Equal(back, b) {
		t.Errorf("EncodeCookie returns %x for %x", back, b)
	}
}

func checkTransport(t *testing.T, b []byte, kind int) {
	t.Helper()
	var want api.Transport
	if kind == 4 {
		want.Receiver = binary.LittleEndian.Uint32(b[4:])
		want.Counter = binary.LittleEndian.Uint64(b[8:])
		want.Body = b[16:]
	}
	m, err := DecodeTransport(b)
	if !sameTransport(m, want) || err != errno(kind, 4) {
		t.Errorf("DecodeTransport of %d bytes %x: receiver %d, counter %d, %d bytes and error %d", len(b), start(b), m.Receiver, m.Counter, len(m.Body), err)
	}
	if err != api.OK {
		return
	}
	if back, err := EncodeTransport(m); !bytes.Equal(back, b) || err != api.OK {
		t.Errorf("EncodeTransport returns %d bytes %x and error %d for %d bytes %x", len(back), start(back), err, len(b), start(b))
	}
}

func sameTransport(a, b api.Transport) bool {
	return a.Receiver == b.Receiver && a.Counter == b.Counter && bytes.Equal(a.Body, b.Body)
}

// checkErrno compares the error of EncodeTransport for a body, and the bytes beside it.
func checkErrno(t *testing.T, size int, want api.Errno) {
	t.Helper()
	m := api.Transport{Receiver: 1, Counter: 2, Body: count(3, size)}
	b, err := EncodeTransport(m)
	if err != want {
		t.Errorf("EncodeTransport of %d bytes: error %d, not %d", size, err, want)
	}
	if err != api.OK && len(b) != 0 {
		t.Errorf("EncodeTransport of %d bytes returns %d bytes and error %d", size, len(b), err)
	}
	if err == api.OK && !bytes.Equal(b, plainTransport(m)) {
		t.Errorf("EncodeTransport of %d bytes returns %d bytes %x", size, len(b), start(b))
	}
	if !bytes.Equal(m.Body, count(3, size)) {
		t.Errorf("EncodeTransport changes %d bytes", size)
	}
}

// P11.1 to P11.3: the example of the chapter.
func TestExample(t *testing.T) {
	m := api.Transport{Receiver: 1, Counter: 2, Body: make([]byte, 16)}
	want := append([]byte{4, 0, 0, 0, 1, 0, 0, 0, 2, 0, 0, 0, 0, 0, 0, 0}, make([]byte, 16)...)
	b, err := EncodeTransport(m)
	if !bytes.Equal(b, want) || err != api.OK {
		t.Errorf("EncodeTransport returns %x and error %d", b, err)
	}
	if kind := Kind(want); kind != api.KindTransport {
		t.Errorf("Kind is %d", kind)
	}
	if back, err := DecodeTransport(want); !sameTransport(back, m) || err != api.OK {
		t.Errorf("DecodeTransport returns %v and error %d", back, err)
	}
}

// P11.2 and P11.3: where the fields of an initiation are.
func TestInitiationFields(t *testing.T) {
	m := api.Initiation{
		Sender:    0x07060504,
		Ephemeral: api.Key(count(8, 32)),
		Static:    [48]byte(count(40, 48)),
		Time:      [28]byte(count(88, 28)),
		Mac1:      api.Tag(count(116, 16)),
		Mac2:      api.Tag(count(132, 16)),
	}
	want := append([]byte{1, 0, 0, 0}, count(4, 144)...)
	if b := EncodeInitiation(m); !bytes.Equal(b, want) {
		t.Errorf("EncodeInitiation returns %x", b)
	}
	if back, err := DecodeInitiation(want); back != m || err != api.OK {
		t.Errorf("DecodeInitiation returns %v and error %d", back, err)
	}
}

// P11.2 and P11.3: where the fields of a response are.
func TestResponseFields(t *testing.T) {
	m := api.Response{
		Sender:    0x07060504,
		Receiver:  0x0b0a0908,
		Ephemeral: api.Key(count(12, 32)),
		Empty:     api.Tag(count(44, 16)),
		Mac1:      api.Tag(count(60, 16)),
		Mac2:      api.Tag(count(76, 16)),
	}
	want := append([]byte{2, 0, 0, 0}, count(4, 88)...)
	if b := EncodeResponse(m); !bytes.Equal(b, want) {
		t.Errorf("EncodeResponse returns %x", b)
	}
	if back, err := DecodeResponse(want); back != m || err != api.OK {
		t.Errorf("DecodeResponse returns %v and error %d", back, err)
	}
}

// P11.2 and P11.3: where the fields of a cookie reply are.
func TestCookieFields(t *testing.T) {
	m := api.CookieReply{Receiver: 0x07060504, Nonce: api.Long(count(8, 24)), Cookie: [32]byte(count(32, 32))}
	want := append([]byte{3, 0, 0, 0}, count(4, 60)...)
	if b := EncodeCookie(m); !bytes.Equal(b, want) {
		t.Errorf("EncodeCookie returns %x", b)
	}
	if back, err := DecodeCookie(want); back != m || err != api.OK {
		t.Errorf("DecodeCookie returns %v and error %d", back, err)
	}
}

// P11.2 and P11.3: where the fields of a transport message are.
func TestTransportFields(t *testing.T) {
	m := api.Transport{Receiver: 0x07060504, Counter: 0x0f0e0d0c0b0a0908, Body: count(16, 240)}
	want := append([]byte{4, 0, 0, 0}, count(4, 252)...)
	if b, err := EncodeTransport(m); !bytes.Equal(b, want) || err != api.OK {
		t.Errorf("EncodeTransport returns %x and error %d", b, err)
	}
	if back, err := DecodeTransport(want); !sameTransport(back, m) || err != api.OK {
		t.Errorf("DecodeTransport returns %v and error %d", back, err)
	}
}

// P11.1: the ends of the numbers of bytes of each kind.
func TestKind(t *testing.T) {
	tests := []struct {
		first byte
		size  int
		want  int
	}{
		{1, 147, 0}, {1, 148, api.KindInitiation}, {1, 149, 0},
		{2, 91, 0}, {2, 92, api.KindResponse}, {2, 93, 0},
		{3, 63, 0}, {3, 64, api.KindCookie}, {3, 65, 0},
		{4, 31, 0}, {4, 32, api.KindTransport}, {4, 33, api.KindTransport},
		{4, 64, api.KindTransport}, {4, 92, api.KindTransport}, {4, 148, api.KindTransport},
		{4, 2099, api.KindTransport}, {4, 2100, api.KindTransport}, {4, 2101, 0}, {4, 1 << 20, 0},
		{0, 0, 0}, {0, 32, 0}, {0, 148, 0}, {5, 32, 0}, {5, 148, 0}, {255, 148, 0},
		{1, 1, 0}, {1, 2, 0}, {1, 3, 0}, {1, 4, 0}, {4, 3, 0}, {4, 4, 0},
	}
	for _, test := range tests {
		b := make([]byte, max(test.size, 1))
		b[0] = test.first
		if got := Kind(b[:test.size]); got != test.want {
			t.Errorf("Kind of %d and %d bytes is %d, not %d", test.first, test.size, got, test.want)
		}
	}
	if got := Kind(nil); got != 0 {
		t.Errorf("Kind of nil is %d", got)
	}
}

// P11.1: each first byte with each number of bytes.
func TestKindOfSizes(t *testing.T) {
	random := rand.New(rand.NewSource(1))
	for size := range 2300 {
		b := messageOf(random, 0, max(size, 1))
		for first := range 256 {
			b[0] = byte(first)
			checkKind(t, b[:size])
		}
	}
}

// P11.1 and P11.3: each value of each byte of a header.
func TestHeader(t *testing.T) {
	random := rand.New(rand.NewSource(2))
	for first := range byte(6) {
		for _, size := range []int{32, 64, 92, 148, 2100} {
			b := messageOf(random, first, size)
			for place := range 4 {
				for value := range 256 {
					changed := bytes.Clone(b)
					changed[place] = byte(value)
					check(t, changed)
				}
			}
		}
	}
}

// P11.1: headers in which several bytes are not zero, and in which the kind is in another byte.
func TestWrongHeaders(t *testing.T) {
	for _, header := range [][]byte{{0, 1, 0, 0}, {0, 0, 0, 1}, {1, 1, 1, 1}, {1, 255, 1, 0}, {1, 128, 128, 0}, {1, 0, 255, 255}, {255, 255, 255, 255}, {0, 0, 0, 4}, {4, 255, 255, 255}, {4, 0, 0, 128}} {
		for size := 4; size < 200; size++ {
			b := append(bytes.Clone(header), make([]byte, size-4)...)
			if kind := Kind(b); kind != 0 {
				t.Errorf("Kind of %d bytes with the header %v is %d", size, header, kind)
			}
			check(t, b)
		}
	}
}

// P11.3: each number of bytes with the header of each kind. Each error stands beside a message of zeros.
func TestDecodeSizes(t *testing.T) {
	random := rand.New(rand.NewSource(3))
	for size := range 2300 {
		for first := range byte(6) {
			check(t, messageOf(random, first, size))
		}
	}
	check(t, nil)
	check(t, messageOf(random, 4, 1<<20))
}

// P11.3 and P11.4: each bit of a message.
func TestEachBit(t *testing.T) {
	random := rand.New(rand.NewSource(4))
	for kind, size := range map[byte]int{1: 148, 2: 92, 3: 64, 4: 70} {
		b := messageOf(random, kind, size)
		for bit := range 8 * size {
			b[bit/8] ^= 1 << (bit % 8)
			check(t, b)
			b[bit/8] ^= 1 << (bit % 8)
		}
	}
}

// P11.4: no bytes are a message of two kinds: exactly the Decode of the kind accepts them.
func TestOneKind(t *testing.T) {
	random := rand.New(rand.NewSource(5))
	for range 20000 {
		b := messageOf(random, byte(random.Intn(6)), []int{32, 63, 64, 65, 91, 92, 93, 147, 148, 149, 2100}[random.Intn(11)])
		_, one := DecodeInitiation(b)
		_, two := DecodeResponse(b)
		_, three := DecodeCookie(b)
		_, four := DecodeTransport(b)
		accepted := 0
		for i, err := range []api.Errno{one, two, three, four} {
			if err == api.OK {
				accepted++
			}
			if (err == api.OK) != (Kind(b) == i+1) {
				t.Errorf("%d bytes of kind %d: error %d of kind %d", len(b), Kind(b), err, i+1)
			}
		}
		if accepted > 1 || (accepted == 0) != (Kind(b) == 0) {
			t.Errorf("%d bytes of kind %d: %d kinds", len(b), Kind(b), accepted)
		}
	}
}

// P11.2: EncodeTransport with each number of bytes, and the ends of its range by themselves.
func TestTransportErrors(t *testing.T) {
	for size, want := range map[int]api.Errno{0: api.ErrShort, 1: api.ErrShort, 15: api.ErrShort, 16: api.OK, 17: api.OK, 2083: api.OK, 2084: api.OK, 2085: api.ErrLong, 2100: api.ErrLong, 2101: api.ErrLong, 1 << 20: api.ErrLong} {
		checkErrno(t, size, want)
	}
	for size := range 2300 {
		want := api.OK
		if size < 16 {
			want = api.ErrShort
		} else if 4+4+8+size > maxDatagram {
			want = api.ErrLong
		}
		checkErrno(t, size, want)
	}
	if b, err := EncodeTransport(api.Transport{}); len(b) != 0 || err != api.ErrShort {
		t.Errorf("a message of zeros: %x and error %d", b, err)
	}
}

// P11.2 and P11.4: the least and the greatest numbers, and those with one bit.
func TestNumbers(t *testing.T) {
	numbers := []uint64{0, 1, 255, 256, math.MaxUint32, 1 << 32, math.MaxInt64, math.MaxUint64, api.MaxCounter}
	for bit := range 64 {
		numbers = append(numbers, 1<<bit)
	}
	for _, n := range numbers {
		half := uint32(n>>32 | n)
		checkMessages(t, api.Initiation{Sender: half}, api.Response{Sender: half}, api.CookieReply{Receiver: half}, api.Transport{Receiver: half, Body: make([]byte, 16)})
		checkMessages(t, api.Initiation{}, api.Response{Receiver: half}, api.CookieReply{}, api.Transport{Counter: n, Body: make([]byte, 16)})
	}
}

// P11.2 and P11.4: random messages.
func TestRandomMessages(t *testing.T) {
	random := rand.New(rand.NewSource(6))
	for range 5000 {
		var one api.Initiation
		var two api.Response
		var three api.CookieReply
		plainRead(t, messageOf(random, 1, 148), &one)
		plainRead(t, messageOf(random, 2, 92), &two)
		plainRead(t, messageOf(random, 3, 64), &three)
		four := api.Transport{Receiver: random.Uint32(), Counter: random.Uint64(), Body: make([]byte, 16+random.Intn(2069))}
		random.Read(four.Body)
		checkMessages(t, one, two, three, four)
	}
}

// checkMessages compares what Encode returns with the plain versions, and Decode of it with the messages.
func checkMessages(t *testing.T, one api.Initiation, two api.Response, three api.CookieReply, four api.Transport) {
	t.Helper()
	b := EncodeInitiation(one)
	if m, err := DecodeInitiation(b); !bytes.Equal(b, plainWrite(t, 1, one)) || m != one || err != api.OK {
		t.Errorf("an initiation is %x and then %v with error %d", b, m, err)
	}
	b = EncodeResponse(two)
	if m, err := DecodeResponse(b); !bytes.Equal(b, plainWrite(t, 2, two)) || m != two || err != api.OK {
		t.Errorf("a response is %x and then %v with error %d", b, m, err)
	}
	b = EncodeCookie(three)
	if m, err := DecodeCookie(b); !bytes.Equal(b, plainWrite(t, 3, three)) || m != three || err != api.OK {
		t.Errorf("a cookie reply is %x and then %v with error %d", b, m, err)
	}
	b, err := EncodeTransport(four)
	if !bytes.Equal(b, plainTransport(four)) || err != api.OK {
		t.Errorf("a transport message of %d bytes is %x with error %d", len(four.Body), start(b), err)
	}
	if m, err := DecodeTransport(b); !sameTransport(m, four) || err != api.OK {
		t.Errorf("a transport message of %d bytes: receiver %d, counter %d, %d bytes and error %d", len(four.Body), m.Receiver, m.Counter, len(m.Body), err)
	}
}

// invert changes each byte of a result, and the room behind it.
func invert(result []byte) {
	room := result[:cap(result)]
	for i := range room {
		room[i] ^= 255
	}
}

// R3: the body of a message and its bytes share no memory, in both directions, also if the argument has room behind it.
func TestNewMemory(t *testing.T) {
	random := rand.New(rand.NewSource(7))
	for _, size := range []int{32, 33, 100, 2100} {
		memory := messageOf(random, 4, size+50)
		before := bytes.Clone(memory)
		m, err := DecodeTransport(memory[:size])
		if err != api.OK {
			t.Fatalf("%d bytes: error %d", size, err)
		}
		invert(m.Body)
		if !bytes.Equal(memory, before) {
			t.Errorf("the body of %d bytes shares their memory", size)
		}
		body := memory[16:size]
		b, err := EncodeTransport(api.Transport{Body: body})
		if err != api.OK {
			t.Fatalf("a body of %d bytes: error %d", len(body), err)
		}
		invert(b)
		if !bytes.Equal(memory, before) {
			t.Errorf("the message of %d bytes shares the memory of its body", size)
		}
	}
}

// R4: a second call returns the same, also if the first result was changed.
func TestRepeated(t *testing.T) {
	for range 3 {
		checkMessages(t, api.Initiation{}, api.Response{}, api.CookieReply{}, api.Transport{Body: make([]byte, 16)})
		invert(EncodeInitiation(api.Initiation{}))
		invert(EncodeResponse(api.Response{}))
		invert(EncodeCookie(api.CookieReply{}))
		b, _ := EncodeTransport(api.Transport{Body: make([]byte, 16)})
		invert(b)
	}
}
