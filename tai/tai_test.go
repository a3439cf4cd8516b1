package tai

import (
	"encoding/binary"
	"encoding/hex"
	"math"
	"math/big"
	"math/rand"
	"testing"

	"burrow/api"
)

// zeroSecond is the second of the stamp of the time 0, written out so that it does not depend on the constants of the package.
const zeroSecond = 0x400000000000000a

// stampOf returns the stamp with these two numbers, whatever they are.
func stampOf(second uint64, nano uint32) api.Stamp {
	var s api.Stamp
	binary.BigEndian.PutUint64(s[:8], second)
	binary.BigEndian.PutUint32(s[8:], nano)
	return s
}

// plainOf follows P9.1 word for word, with exact numbers.
func plainOf(tick int64) api.Stamp {
	if tick < 0 || tick > 1<<40 {
		return api.Stamp{}
	}
	seconds, rest := new(big.Int).DivMod(big.NewInt(tick), big.NewInt(1000), new(big.Int))
	seconds.Add(seconds, big.NewInt(10))
	seconds.Add(seconds, new(big.Int).Lsh(big.NewInt(1), 62))
	rest.Mul(rest, big.NewInt(1000000))
	var s api.Stamp
	seconds.FillBytes(s[:8])
	rest.FillBytes(s[8:])
	return s
}

// plainTick computes the time of a stamp with exact numbers, and looks at everything by which a stamp can be wrong on its own.
func plainTick(s api.Stamp) (int64, api.Errno) {
	second := new(big.Int).SetBytes(s[:8])
	nano := int64(binary.BigEndian.Uint32(s[8:]))
	second.Sub(second, new(big.Int).SetUint64(zeroSecond))
	tick := second.Mul(second, big.NewInt(1000))
	tick.Add(tick, big.NewInt(nano/1000000))
	if nano >= 1000000000 || nano%1000000 != 0 || tick.Sign() < 0 || tick.Cmp(big.NewInt(1<<40)) > 0 {
		return 0, api.ErrForm
	}
	return tick.Int64(), api.OK
}

// plainAfter follows P9.3 word for word.
func plainAfter(a, b api.Stamp) bool {
	for i := range a {
		if a[i] != b[i] {
			return a[i] > b[i]
		}
	}
	return false
}

// times returns times from 0 to MaxTick: the first and the last ones, those around the ends of seconds and of the bytes of both numbers, and random ones.
func times(random *rand.Rand, count int) []int64 {
	middles := []int64{0, api.MaxTick, 16, 17, 67, 999, 1000, 86400000, 1700000000000 % api.MaxTick}
	for bit := range 41 {
		middles = append(middles, 1<<bit, (1<<bit-10)*1000)
	}
	var all []int64
	for _, middle := range middles {
		for tick := middle - 3; tick <= middle+3; tick++ {
			if 0 <= tick && tick <= api.MaxTick {
				all = append(all, tick)
			}
		}
	}
	for range count {
		all = append(all, random.Int63n(api.MaxTick+1), random.Int63n(100000))
	}
	return all
}

// checkTime compares the stamp of a time with plainOf, and reads it.
func checkTime(t *testing.T, tick int64) {
	t.Helper()
	s, want := Of(tick), plainOf(tick)
	if s != want {
		t.Errorf("Of(%d) is %x, not %x", tick, s, want)
	}
	if got, err := Tick(want); got != tick || err != api.OK {
		t.Errorf("Tick(%x) is %d with error %d, not %d", want, got, err, tick)
	}
}

// checkStamp compares Tick with plainTick for any bytes.
func checkStamp(t *testing.T, s api.Stamp) {
	t.Helper()
	got, err := Tick(s)
	if want, wantErr := plainTick(s); got != want || err != wantErr {
		t.Errorf("Tick(%x) is %d with error %d, not %d with error %d", s, got, err, want, wantErr)
	}
}

// checkRefused reports a stamp that is accepted, or refused with another error or with a time.
func checkRefused(t *testing.T, name string, s api.Stamp) {
	t.Helper()
	if got, err := Tick(s); got != 0 || err != api.ErrForm {
		t.Errorf("%s: Tick(%x) is %d with error %d, not error %d", name, s, got, err, api.ErrForm)
	}
}

// P9.1 and P9.2: the example of the chapter, and stamps that Python computed.
func TestExamples(t *testing.T) {
	tests := []struct {
		tick int64
		want string
	}{
		{0, "400000000000000a" + "00000000"},
		{1, "400000000000000a" + "000f4240"},
		{16, "400000000000000a" + "00f42400"},
		{17, "400000000000000a" + "01036640"},
		{999, "400000000000000a" + "3b8b87c0"},
		{1000, "400000000000000b" + "00000000"},
		{1001, "400000000000000b" + "000f4240"},
		{1500, "400000000000000b" + "1dcd6500"},
		{245999, "40000000000000ff" + "3b8b87c0"},
		{246000, "4000000000000100" + "00000000"},
		{65526000, "4000000000010000" + "00000000"},
		{1 << 40, "4000000041893755" + "2e40d200"},
	}
	for _, test := range tests {
		s := Of(test.tick)
		if got := hex.EncodeToString(s[:]); got != test.want {
			t.Errorf("Of(%d) is %s, not %s", test.tick, got, test.want)
		}
		checkTime(t, test.tick)
	}
}

// P9.1: a time that is not from 0 to MaxTick has the zero stamp, also where its lowest bits are a time, or its stamp would have room in the bytes.
func TestOfRange(t *testing.T) {
	for _, tick := range []int64{0, 1, api.MaxTick - 1, api.MaxTick} {
		if Of(tick) == (api.Stamp{}) {
			t.Errorf("Of(%d) is the zero stamp", tick)
		}
	}
	for _, tick := range []int64{math.MinInt64, math.MinInt64 + 1500, -api.MaxTick, -1 << 32, -10000, -1500, -1001, -1000, -999, -1,
		api.MaxTick + 1, api.MaxTick + 999, api.MaxTick + 1000, 1<<41 + 1500, 1<<42 - 1, 1 << 62, math.MaxInt64} {
		if s := Of(tick); s != (api.Stamp{}) {
			t.Errorf("Of(%d) is %x", tick, s)
		}
	}
}

// P9.1, P9.2 and P9.4: the stamps of many times are those of the promise, and Tick reads each of them.
func TestTimes(t *testing.T) {
	for tick := range int64(20000) {
		checkTime(t, tick)
		checkTime(t, api.MaxTick-tick)
	}
	for _, tick := range times(rand.New(rand.NewSource(1)), 20000) {
		checkTime(t, tick)
	}
}

// P9.2: the zero stamp is refused, although Of returns it for times that are out of range.
func TestZeroStamp(t *testing.T) {
	checkRefused(t, "the zero stamp", api.Stamp{})
	checkRefused(t, "the zero stamp", Of(-1))
	checkRefused(t, "the zero stamp", Of(api.MaxTick+1))
}

// P9.2: the seconds must be those of a time from 0 to MaxTick, also where the milliseconds modulo 2^64, 2^63 or 2^32 are such a time.
func TestTickSeconds(t *testing.T) {
	last := Of(api.MaxTick)
	lastSecond, lastNano := binary.BigEndian.Uint64(last[:8]), binary.BigEndian.Uint32(last[8:])
	for _, nano := range []uint32{0, 1000000, 500000000, 999000000} {
		for _, second := range []uint64{0, 1, 10, 1 << 40, 1 << 61, 1 << 62, zeroSecond - 10, zeroSecond - 2, zeroSecond - 1,
			lastSecond + 1, lastSecond + 2, zeroSecond + 1<<32, 1 << 63, 1<<63 + 10, math.MaxUint64 - 1, math.MaxUint64} {
			checkRefused(t, "the seconds", stampOf(second, nano))
		}
		for part := uint64(1); part < 8; part++ { // 2^61 seconds are 125 * 2^64 milliseconds
			checkRefused(t, "the seconds wrap around", stampOf(zeroSecond+part<<61, nano))
			checkRefused(t, "the seconds wrap around", stampOf(zeroSecond+part<<61+7, nano))
			checkRefused(t, "the seconds wrap around", stampOf(zeroSecond+part<<60, nano))
		}
	}
	for past := uint32(1000000); lastNano+past < 1000000000; past += 1000000 {
		checkRefused(t, "past MaxTick", stampOf(lastSecond, lastNano+past))
	}
	checkRefused(t, "past MaxTick", stampOf(lastSecond+1, 0))
	checkRefused(t, "before 0", stampOf(zeroSecond-1, 999000000))
}

// P9.2: the nanoseconds must be whole milliseconds and less than a second.
func TestTickNanoseconds(t *testing.T) {
	random := rand.New(rand.NewSource(2))
	for range 2000 {
		s := Of(random.Int63n(api.MaxTick - 5000))
		second, nano := binary.BigEndian.Uint64(s[:8]), binary.BigEndian.Uint32(s[8:])
		for _, more := range []uint32{1, 2, 1 << 8, 1 << 16, 500000, 999999, uint32(1 + random.Intn(999999))} {
			checkRefused(t, "part of a millisecond", stampOf(second, nano+more))
		}
		for _, seconds := range []uint32{1, 2, 3} {
			checkRefused(t, "whole seconds", stampOf(second, nano+seconds*1000000000))
			checkRefused(t, "whole seconds", stampOf(second-1, nano+seconds*1000000000))
		}
	}
	for thousandth := uint32(1000); thousandth <= math.MaxUint32/1000000; thousandth++ {
		checkRefused(t, "more than a second", stampOf(zeroSecond, thousandth*1000000))
		checkRefused(t, "more than a second", stampOf(zeroSecond-1, thousandth*1000000))
	}
	for _, nano := range []uint32{1, 999999, 999999999, 1000000000, 1000000001, math.MaxInt32, math.MaxInt32 + 1, math.MaxUint32} {
		checkRefused(t, "nanoseconds", stampOf(zeroSecond+1, nano))
	}
}

// P9.2: each value of each byte of a stamp counts.
func TestTickEachByte(t *testing.T) {
	random := rand.New(rand.NewSource(3))
	for _, tick := range times(random, 20) {
		for place := range len(api.Stamp{}) {
			for value := range 256 {
				s := plainOf(tick)
				s[place] = byte(value)
				checkStamp(t, s)
			}
		}
	}
}

// P9.2: any bytes, of which only few are stamps of a time.
func TestTickOfAnyBytes(t *testing.T) {
	random := rand.New(rand.NewSource(4))
	for range 50000 {
		var s api.Stamp
		random.Read(s[:])
		checkStamp(t, s)
		copy(s[:4], []byte{0x40, 0, 0, 0})
		checkStamp(t, s)
		binary.BigEndian.PutUint32(s[8:], uint32(random.Intn(1200))*1000000)
		checkStamp(t, s)
	}
}

// P9.3: the first byte that differs decides, whatever the others are; bytes are compared without a sign.
func TestAfterEachByte(t *testing.T) {
	values := []byte{0, 1, 2, 126, 127, 128, 129, 254, 255}
	for place := range len(api.Stamp{}) {
		for _, x := range values {
			for _, y := range values {
				a, b := api.Stamp{}, api.Stamp{}
				for later := place + 1; later < len(a); later++ {
					a[later], b[later] = 255-x, 255-y
				}
				a[place], b[place] = x, y
				if got := After(a, b); got != (x > y) {
					t.Errorf("After(%x, %x) is %t", a, b, got)
				}
			}
		}
	}
}

// P9.3: any bytes, with a common beginning of every length; no stamp is later than itself.
func TestAfterAnyBytes(t *testing.T) {
	random := rand.New(rand.NewSource(5))
	for range 20000 {
		var a, b api.Stamp
		random.Read(a[:])
		random.Read(b[:])
		copy(b[:], a[:random.Intn(len(a)+1)])
		if After(a, b) != plainAfter(a, b) || After(b, a) != plainAfter(b, a) {
			t.Errorf("After(%x, %x) is %t, and the other way round %t", a, b, After(a, b), After(b, a))
		}
		if After(a, a) || After(b, b) {
			t.Errorf("%x or %x is later than itself", a, b)
		}
	}
}

// P9.3: the zero stamp, with which a peer begins, is earlier than the stamp of every time.
func TestAfterZeroStamp(t *testing.T) {
	for _, tick := range times(rand.New(rand.NewSource(6)), 100) {
		if s := Of(tick); !After(s, api.Stamp{}) || After(api.Stamp{}, s) {
			t.Errorf("the stamp of %d is not later than the zero stamp", tick)
		}
	}
	if After(api.Stamp{}, api.Stamp{}) {
		t.Error("the zero stamp is later than itself")
	}
}

// P9.4: stamps have the order of their times.
func TestOrder(t *testing.T) {
	all := times(rand.New(rand.NewSource(7)), 300)
	for _, a := range all {
		for _, b := range all {
			if got := After(Of(a), Of(b)); got != (a > b) {
				t.Errorf("After(Of(%d), Of(%d)) is %t", a, b, got)
			}
		}
	}
}

// R4: a second call returns the same, also if the first result was changed.
func TestRepeated(t *testing.T) {
	first := Of(1500)
	kept := first
	clear(first[:])
	if Of(1500) != kept {
		t.Error("Of returns something else")
	}
	if tick, err := Tick(kept); tick != 1500 || err != api.OK {
		t.Errorf("Tick returns %d and error %d", tick, err)
	}
}

func BenchmarkTick(b *testing.B) {
	s := Of(1500)
	for b.Loop() {
		Tick(s)
	}
}
