package limiter

import (
	"bytes"
	"math"
	"math/big"
	"math/rand"
	"slices"
	"testing"

	"burrow/api"
)

// someTimes are times at the ends of all numbers and of those that fit into fewer bits, and small ones.
var someTimes = []int64{
	math.MinInt64, math.MinInt64 + 1, math.MinInt64 + 249, math.MinInt64 + 250, math.MinInt64 + 251, math.MinInt64 + 999, math.MinInt64 + 1000, math.MinInt64 + 1001,
	-1 << 62, -1 << 32, -1 << 31, -1001, -1000, -999, -251, -250, -249, -50, -49, -2, -1,
	0, 1, 2, 49, 50, 51, 249, 250, 251, 999, 1000, 1001, 1 << 31, 1 << 32, 1<<32 + 1, api.MaxTick - 1000, api.MaxTick - 999, api.MaxTick - 1, api.MaxTick, api.MaxTick + 1, 1 << 62,
	math.MaxInt64 - 1001, math.MaxInt64 - 1000, math.MaxInt64 - 999, math.MaxInt64 - 250, math.MaxInt64 - 249, math.MaxInt64 - 1, math.MaxInt64,
}

// someLoads are numbers that a load may be, also less than 1.
var someLoads = []int{math.MinInt, math.MinInt + 1, -1 << 32, -1 << 31, -65, -2, -1, 0, 1, 2, 3, 63, 64, 65, 1 << 31, 1 << 32, math.MaxInt - 1, math.MaxInt}

// gone returns the exact number of milliseconds from t to now.
func gone(t, now int64) *big.Int {
	return new(big.Int).Sub(big.NewInt(now), big.NewInt(t))
}

// plainRecent follows the term word for word.
func plainRecent(t, now int64) bool {
	return t <= now && gone(t, now).Cmp(big.NewInt(1000)) < 0
}

// plainNote follows P19.1 word for word.
func plainNote(recent []int64, now int64) []int64 {
	var noted []int64
	for _, t := range recent {
		if plainRecent(t, now) {
			noted = append(noted, t)
		}
	}
	noted = append(noted, now)
	for len(noted) > api.MaxRecent {
		noted = noted[1:]
	}
	return noted
}

// plainLoaded follows P19.1 word for word.
func plainLoaded(recent []int64, now int64, load int) bool {
	var all []int64
	for _, t := range recent {
		if plainRecent(t, now) {
			all = append(all, t)
		}
	}
	return len(all) > load
}

// plainLess is the order of P10.3.
func plainLess(a, b api.Addr) bool {
	if a.Six != b.Six {
		return b.Six
	}
	return bytes.Compare(a.IP[:], b.IP[:]) < 0
}

// plainGrown returns the tokens of a bucket at the time now, by P19.2.
func plainGrown(b api.Bucket, now int64) int64 {
	tokens := big.NewInt(b.Tokens)
	if b.At < now {
		tokens.Add(tokens, new(big.Int).Mul(gone(b.At, now), big.NewInt(20)))
	}
	if tokens.Cmp(big.NewInt(5000)) > 0 {
		return 5000
	}
	return tokens.Int64()
}

// plainRemove returns l without the first one of the buckets with the least At.
func plainRemove(l []api.Bucket) []api.Bucket {
	for i, b := range l {
		least := true
		for j, other := range l {
			least = least && (other.At > b.At || other.At == b.At && j >= i)
		}
		if least {
			return slices.Concat(l[:i], l[i+1:])
		}
	}
	return nil
}

// plainInsert follows the second sentence of P19.2 word for word.
func plainInsert(l []api.Bucket, a api.Addr, now int64) []api.Bucket {
	if len(l) >= api.MaxBuckets {
		l = plainRemove(l)
	}
	var all []api.Bucket
	done := false
	for _, b := range l {
		if !done && plainLess(a, b.Addr) {
			all, done = append(all, api.Bucket{Addr: a, Tokens: 5000, At: now}), true
		}
		all = append(all, b)
	}
	if !done {
		all = append(all, api.Bucket{Addr: a, Tokens: 5000, At: now})
	}
	return all
}

// has reports whether a bucket of the address is in l.
func has(l []api.Bucket, a api.Addr) bool {
	return slices.ContainsFunc(l, func(b api.Bucket) bool { return b.Addr == a })
}

// plainAllow follows P19.2 word for word.
func plainAllow(l []api.Bucket, a api.Addr, now int64) ([]api.Bucket, bool) {
	all := slices.Clone(l)
	if !has(l, a) {
		all = plainInsert(l, a, now)
	}
	for i, b := range all {
		if b.Addr != a {
			continue
		}
		b.Tokens, b.At = plainGrown(b, now), now
		ok := b.Tokens >= 1000
		if ok {
			b.Tokens -= 1000
		}
		all[i] = b
		return all, ok
	}
	return all, false
}

// checkNote compares Note with the plain version; it returns the list.
func checkNote(t *testing.T, recent []int64, now int64) []int64 {
	t.Helper()
	kept := slices.Clone(recent)
	got, want := Note(recent, now), plainNote(recent, now)
	if !slices.Equal(got, want) {
		t.Errorf("Note(%v, %d) is %v, not %v", recent, now, got, want)
	}
	if !slices.Equal(recent, kept) {
		t.Errorf("Note has made %v of %v", recent, kept)
	}
	return got
}

// checkLoaded compares Loaded with the plain version.
func checkLoaded(t *testing.T, recent []int64, now int64, load int) {
	t.Helper()
	kept := slices.Clone(recent)
	if got, want := Loaded(recent, now, load), plainLoaded(recent, now, load); got != want {
		t.Errorf("Loaded(%v, %d, %d) is %t", recent, now, load, got)
	}
	if !slices.Equal(recent, kept) {
		t.Errorf("Loaded has made %v of %v", recent, kept)
	}
}

// checkAllow compares Allow with the plain version; it returns what Allow returns.
func checkAllow(t *testing.T, l []api.Bucket, a api.Addr, now int64) ([]api.Bucket, bool) {
	t.Helper()
	kept := slices.Clone(l)
	got, ok := Allow(l, a, now)
	want, wantOk := plainAllow(l, a, now)
	if !slices.Equal(got, want) || ok != wantOk {
		t.Errorf("Allow(%v, %v, %d) is %v, %t, not %v, %t", l, a, now, got, ok, want, wantOk)
	}
	if !slices.Equal(l, kept) {
		t.Errorf("Allow has made %v of %v", l, kept)
	}
	return got, ok
}

// addr returns an address of IPv4.
func addr(b byte) api.Addr {
	return api.Addr{IP: [16]byte{b}}
}

// bucket returns a bucket of an address of IPv4.
func bucket(b byte, tokens, at int64) api.Bucket {
	return api.Bucket{Addr: addr(b), Tokens: tokens, At: at}
}

// The example of the chapter.
func TestExample(t *testing.T) {
	var l []api.Bucket
	ok := false
	for i := range 6 {
		if l, ok = Allow(l, addr(1), 0); ok != (i < 5) {
			t.Errorf("message %d: %t", i+1, ok)
		}
	}
	if l, ok = Allow(l, addr(1), 50); !ok {
		t.Error("none is allowed at the time 50")
	}
	if l, ok = Allow(l, addr(1), 50); ok {
		t.Error("two are allowed at the time 50", l)
	}
}

// P19.1: lists with recent times, older ones and ones behind now, written out.
func TestNoteNumbers(t *testing.T) {
	for _, c := range []struct {
		recent []int64
		now    int64
		want   []int64
	}{
		{nil, 0, []int64{0}},
		{nil, -5, []int64{-5}},
		{[]int64{}, math.MaxInt64, []int64{math.MaxInt64}},
		{[]int64{0}, 999, []int64{0, 999}},
		{[]int64{0}, 1000, []int64{1000}},
		{[]int64{0}, 1001, []int64{1001}},
		{[]int64{5}, 5, []int64{5, 5}},
		{[]int64{6}, 5, []int64{5}},
		{[]int64{1, 1001, 500, 2001, 1000}, 2000, []int64{1001, 2000}},
		{[]int64{1999, 1001, 2000, 1002, 1500, 1001}, 2000, []int64{1999, 1001, 2000, 1002, 1500, 1001, 2000}},
		{[]int64{2000, 3000, 2000, 0, 2000}, 2000, []int64{2000, 2000, 2000, 2000}},
		{[]int64{-1, 0, -999, -1000, 1, -500}, 0, []int64{-1, 0, -999, -500, 0}},
		{[]int64{math.MaxInt64, math.MinInt64}, 0, []int64{0}},
		{[]int64{math.MaxInt64, math.MinInt64}, math.MaxInt64, []int64{math.MaxInt64, math.MaxInt64}},
		{[]int64{math.MaxInt64, math.MinInt64}, math.MinInt64, []int64{math.MinInt64, math.MinInt64}},
		{[]int64{math.MaxInt64 - 1000, math.MaxInt64 - 999}, math.MaxInt64, []int64{math.MaxInt64 - 999, math.MaxInt64}},
		{[]int64{math.MinInt64 + 1, math.MinInt64}, math.MinInt64 + 1000, []int64{math.MinInt64 + 1, math.MinInt64 + 1000}},
	} {
		if got := checkNote(t, c.recent, c.now); !slices.Equal(got, c.want) {
			t.Errorf("Note(%v, %d) is %v, not %v", c.recent, c.now, got, c.want)
		}
	}
}

// P19.1: each distance of a time from now around the bounds, also where the numbers end.
func TestDistances(t *testing.T) {
	for distance := int64(-1100); distance <= 1100; distance++ {
		for _, now := range []int64{math.MinInt64 + 1100, -550, -1, 0, 1, 1000, api.MaxTick, 1<<62 + 1, math.MaxInt64 - 1100} {
			recent := []int64{now - distance}
			want := 0 <= distance && distance < 1000
			if got := checkNote(t, recent, now); len(got) == 2 != want {
				t.Errorf("%d ahead of %d: %v", distance, now, got)
			}
			if Loaded(recent, now, 0) != want || Loaded(recent, now, 1) || !Loaded(recent, now, -1) {
				t.Errorf("%d ahead of %d: Loaded is wrong", distance, now)
			}
		}
	}
}

// P19.1: all lists of up to two times with each time, at the ends of all numbers too.
func TestTimes(t *testing.T) {
	for _, now := range someTimes {
		for _, a := range someTimes {
			checkNote(t, []int64{a}, now)
			for _, b := range someTimes {
				checkNote(t, []int64{a, b}, now)
				for load := -1; load <= 2; load++ {
					checkLoaded(t, []int64{a, b}, now, load)
				}
			}
		}
	}
}

// P19.1: all lists of up to five times of a few kinds, in any order.
func TestAllShortLists(t *testing.T) {
	const now = 5000
	lists := [][]int64{nil}
	for n := 0; n < len(lists); n++ {
		recent := lists[n]
		checkNote(t, recent, now)
		for load := -1; load <= 6; load++ {
			checkLoaded(t, recent, now, load)
		}
		if len(recent) < 5 {
			for _, next := range []int64{4000, 4001, 4500, 5000, 5001} {
				lists = append(lists, append(slices.Clone(recent), next))
			}
		}
	}
	if len(lists) != 1+5+25+125+625+3125 {
		t.Error(len(lists))
	}
}

// P19.1: only the last MaxRecent are kept, the new one among them, for lists of each length.
func TestNoteLong(t *testing.T) {
	for length := range 3 * api.MaxRecent {
		var recent, mixed []int64
		for i := range int64(length) {
			recent = append(recent, 1000+i*7%500)
			mixed = append(mixed, i, 1000+i*7%500, 2000+i) // an older one ahead of each, one behind now behind it
		}
		const now = 1600
		want := append(slices.Clone(recent), now)
		want = want[max(0, len(want)-64):]
		if got := checkNote(t, recent, now); !slices.Equal(got, want) {
			t.Errorf("%d recent times: %v", length, got)
		}
		if got := checkNote(t, mixed, now); !slices.Equal(got, want) {
			t.Errorf("%d recent times among others: %v", length, got)
		}
	}
}

// P19.1: a list grows to MaxRecent, and then loses its first time with each call.
func TestNoteAgain(t *testing.T) {
	var recent []int64
	for i := range int64(300) {
		recent = checkNote(t, recent, i)
		if first := max(0, i-63); int64(len(recent)) != i-first+1 || recent[0] != first || recent[len(recent)-1] != i {
			t.Fatalf("behind %d: %v", i, recent)
		}
	}
	recent = nil
	for i := range int64(100) {
		recent = checkNote(t, recent, 100*i)
		if want := min(int(i)+1, 10); len(recent) != want {
			t.Fatalf("behind %d: %v", 100*i, recent)
		}
	}
}

// P19.1: times that go back; those that are behind now are forgotten.
func TestNoteBack(t *testing.T) {
	recent := []int64{100, 200, 300}
	for _, c := range []struct {
		now  int64
		want []int64
	}{
		{250, []int64{100, 200, 250}}, {250, []int64{100, 200, 250, 250}}, {1199, []int64{200, 250, 250, 1199}}, {0, []int64{0}}, {-1, []int64{-1}},
	} {
		recent = checkNote(t, recent, c.now)
		if !slices.Equal(recent, c.want) {
			t.Errorf("at %d: %v, not %v", c.now, recent, c.want)
		}
	}
}

// P19.1: Loaded for each number of recent times and each load, also more than MaxRecent of them and a load less than 1.
func TestLoaded(t *testing.T) {
	for count := range 3 * api.MaxRecent {
		var recent []int64
		for i := range int64(count) {
			recent = append(recent, 9001+i, 20000, 9000-i) // one recent time, one behind now, one too old
		}
		for load := -3; load < 3*api.MaxRecent; load++ {
			if got := Loaded(recent, 10000, load); got != (count > load) {
				t.Errorf("%d recent times, the load %d: %t", count, load, got)
			}
		}
		for _, load := range someLoads {
			checkLoaded(t, recent, 10000, load)
		}
	}
}

// P19.1, R5: without times, a load less than 0 is exceeded, 0 is not.
func TestNoTimes(t *testing.T) {
	for _, recent := range [][]int64{nil, {}, someTimes[:0], someTimes[5:5]} {
		for _, now := range someTimes {
			if got := checkNote(t, recent, now); !slices.Equal(got, []int64{now}) {
				t.Errorf("Note at %d: %v", now, got)
			}
			for _, load := range someLoads {
				if got := Loaded(recent, now, load); got != (load < 0) {
					t.Errorf("Loaded at %d, the load %d: %t", now, load, got)
				}
			}
		}
	}
}

// P19.1: random lists.
func TestRandomTimes(t *testing.T) {
	random := rand.New(rand.NewSource(19))
	for range 5000 {
		now := someTimes[random.Intn(len(someTimes))]
		recent := make([]int64, random.Intn(150))
		for i := range recent {
			recent[i] = now - int64(random.Intn(1600)) + 200 // may go beyond an end of the numbers, to the other one
			if random.Intn(10) == 0 {
				recent[i] = someTimes[random.Intn(len(someTimes))]
			}
		}
		checkNote(t, recent, now)
		checkLoaded(t, recent, now, random.Intn(80)-2)
		checkLoaded(t, recent, now, len(plainNote(recent, now))-1)
		checkLoaded(t, recent, now, len(plainNote(recent, now))-2)
	}
}

// P19.2: a bucket that is known, written out: times ahead of, at and behind its At, Tokens about 1000 and 5000.
func TestKnownNumbers(t *testing.T) {
	for _, c := range []struct {
		tokens, at, now, want int64
		ok                    bool
	}{
		{0, 0, 0, 0, false}, {0, 0, 1, 20, false}, {0, 0, 49, 980, false}, {0, 0, 50, 0, true}, {0, 0, 51, 20, true},
		{0, 0, 249, 3980, true}, {0, 0, 250, 4000, true}, {0, 0, 251, 4000, true},
		{1, 0, 249, 3981, true}, {19, 0, 249, 3999, true}, {20, 0, 249, 4000, true}, {21, 0, 249, 4000, true},
		{979, 7, 8, 999, false}, {980, 7, 8, 0, true}, {981, 7, 8, 1, true},
		{999, 10, 10, 999, false}, {1000, 10, 10, 0, true}, {1001, 10, 10, 1, true},
		{999, 10, 9, 999, false}, {1000, 10, 9, 0, true}, {1001, 10, 9, 1, true},
		{999, 10, 11, 19, true}, {1000, 10, 11, 20, true}, {1001, 10, 11, 21, true},
		{4979, 10, 11, 3999, true}, {4980, 10, 11, 4000, true}, {4981, 10, 11, 4000, true},
		{4999, 10, 10, 3999, true}, {5000, 10, 10, 4000, true}, {4999, 10, 11, 4000, true}, {5000, 10, 11, 4000, true},
		{4999, 10, 9, 3999, true}, {5000, 10, 9, 4000, true},
		{0, -100, -50, 0, true}, {0, -25, 25, 0, true}, {0, -25, 24, 980, false}, {0, 25, -25, 0, false},
		{0, math.MinInt64, math.MaxInt64, 4000, true}, {5000, math.MinInt64, math.MaxInt64, 4000, true},
		{0, math.MaxInt64, math.MinInt64, 0, false}, {2500, math.MaxInt64, math.MinInt64, 1500, true},
		{0, math.MaxInt64, math.MaxInt64, 0, false}, {0, math.MaxInt64 - 50, math.MaxInt64, 0, true}, {0, math.MaxInt64 - 49, math.MaxInt64, 980, false},
		{0, math.MinInt64, math.MinInt64 + 50, 0, true}, {0, math.MinInt64 + 1, math.MinInt64 + 50, 980, false},
		{0, -1, math.MaxInt64, 4000, true}, {0, math.MinInt64, -1, 4000, true}, {0, math.MinInt64, 0, 4000, true}, {0, 0, math.MaxInt64, 4000, true},
	} {
		got, ok := checkAllow(t, []api.Bucket{bucket(7, c.tokens, c.at)}, addr(7), c.now)
		if ok != c.ok || !slices.Equal(got, []api.Bucket{bucket(7, c.want, c.now)}) {
			t.Errorf("%v: %v, %t", c, got, ok)
		}
	}
}

// P19.2: each number of tokens with small distances.
func TestTokens(t *testing.T) {
	for tokens := range int64(5001) {
		for _, distance := range []int64{math.MinInt64, -60, -1, 0, 1, 2, 49, 50, 51, 249, 250, 251, 300} {
			checkAllow(t, []api.Bucket{bucket(7, tokens, 100)}, addr(7), 100+distance)
		}
	}
}

// P19.2: each distance of now from At to beyond the one that fills a bucket.
func TestGrowth(t *testing.T) {
	for distance := int64(-300); distance <= 600; distance++ {
		for _, tokens := range []int64{0, 1, 10, 19, 20, 21, 980, 999, 1000, 1001, 2500, 3999, 4000, 4001, 4980, 4981, 4999, 5000} {
			for _, at := range []int64{math.MinInt64 + 300, -1, 0, 1, 77, api.MaxTick, math.MaxInt64 - 600} {
				checkAllow(t, []api.Bucket{bucket(7, tokens, at)}, addr(7), at+distance)
			}
		}
	}
}

// P19.2: far distances, of which the products with 20 do not fit into 64, 63 or 32 bits.
func TestFarTimes(t *testing.T) {
	times := slices.Clone(someTimes)
	for bits := range 63 {
		for _, d := range []int64{-1, 0, 1} {
			times = append(times, 1<<bits+d, -1<<bits+d, 1<<bits/20+d, math.MinInt64+1<<bits+d, (1<<bits)/5+d)
		}
	}
	for _, at := range someTimes {
		for _, now := range times {
			for _, tokens := range []int64{0, 999, 1000, 4990, 5000} {
				checkAllow(t, []api.Bucket{bucket(7, tokens, at)}, addr(7), now)
			}
		}
	}
}

// P19.2: if several buckets are of the address, the first one counts; the others, and those of other addresses, stay as they are.
func TestSeveral(t *testing.T) {
	l := []api.Bucket{bucket(9, 3000, 5), bucket(7, 0, 10), bucket(8, 0, 0), bucket(7, 5000, 10), bucket(7, 100, 0)}
	got, ok := checkAllow(t, l, addr(7), 20)
	if want := []api.Bucket{bucket(9, 3000, 5), bucket(7, 200, 20), bucket(8, 0, 0), bucket(7, 5000, 10), bucket(7, 100, 0)}; ok || !slices.Equal(got, want) {
		t.Errorf("%v, %t", got, ok)
	}
	for count := range 2 * api.MaxBuckets {
		for place := range count {
			l := make([]api.Bucket, count)
			for i := range l {
				l[i] = bucket(byte(100+i), int64(i), int64(i))
			}
			l[place].Addr, l[count-1].Addr = addr(1), addr(1)
			got, _ := checkAllow(t, l, addr(1), 7)
			want := slices.Clone(l)
			want[place] = got[place]
			if !slices.Equal(got, want) || got[place].At != 7 {
				t.Errorf("%d buckets, the one at %d: %v", count, place, got)
			}
		}
	}
}

// someAddrs are addresses that may be taken for others, in order; some are not valid.
var someAddrs = []api.Addr{
	{}, {IP: [16]byte{15: 1}}, {IP: [16]byte{4: 1}}, {IP: [16]byte{3: 1}}, {IP: [16]byte{3: 1, 15: 255}}, {IP: [16]byte{0, 255}},
	addr(1), {IP: [16]byte{1, 0, 0, 1}}, addr(127), addr(128), addr(255),
	{Six: true}, {Six: true, IP: [16]byte{15: 1}}, {Six: true, IP: [16]byte{14: 1}}, {Six: true, IP: [16]byte{8: 1}}, {Six: true, IP: [16]byte{7: 1}},
	{Six: true, IP: [16]byte{1}}, {Six: true, IP: [16]byte{1, 0, 0, 1}}, {Six: true, IP: [16]byte{128}}, {Six: true, IP: [16]byte{255, 255, 255, 255, 255, 255, 255, 255, 255, 255, 255, 255, 255, 255, 255, 255}},
}

// P19.2: addresses are the same only if their kinds and all of their bytes are; IPv4 comes ahead of IPv6.
func TestAddresses(t *testing.T) {
	for i, a := range someAddrs {
		for j, b := range someAddrs {
			got, ok := checkAllow(t, []api.Bucket{{Addr: a, Tokens: 0, At: 5}}, b, 5)
			had, made := api.Bucket{Addr: a, Tokens: 0, At: 5}, api.Bucket{Addr: b, Tokens: 4000, At: 5}
			want := []api.Bucket{had, made}
			switch {
			case i == j:
				want = []api.Bucket{had}
			case j < i:
				want = []api.Bucket{made, had}
			}
			if ok != (i != j) || !slices.Equal(got, want) {
				t.Errorf("%v beside %v: %v, %t", b, a, got, ok)
			}
		}
	}
	for place := range 16 {
		for bit := range 8 {
			for _, six := range []bool{false, true} {
				a := api.Addr{Six: six, IP: [16]byte{85, 85, 85, 85, 85, 85, 85, 85, 85, 85, 85, 85, 85, 85, 85, 85}}
				b := a
				b.IP[place] ^= 1 << bit
				if got, ok := checkAllow(t, []api.Bucket{{Addr: a}}, b, 0); !ok || len(got) != 2 || got[0].Addr == a != plainLess(a, b) {
					t.Errorf("%v beside %v: %v, %t", b, a, got, ok)
				}
			}
		}
	}
}

// P19.2: a new bucket in a list in order, at each place, for each number of buckets with room.
func TestInsert(t *testing.T) {
	for count := range api.MaxBuckets {
		var l []api.Bucket
		for i := range count {
			l = append(l, bucket(byte(10+2*i), int64(i), int64(50-i)))
		}
		for place := range count + 1 {
			got, ok := checkAllow(t, l, addr(byte(9+2*place)), 60)
			want := slices.Insert(slices.Clone(l), place, bucket(byte(9+2*place), 4000, 60))
			if !ok || !slices.Equal(got, want) {
				t.Errorf("%d buckets, a new one at %d: %v, %t", count, place, got, ok)
			}
		}
	}
}

// P19.2: in a list out of order the new bucket stands ahead of the first one that comes behind it, also if there are others.
func TestOutOfOrder(t *testing.T) {
	for _, c := range []struct {
		l     []byte
		a     byte
		place int
	}{
		{[]byte{3, 1, 5, 4}, 2, 0}, {[]byte{1, 5, 4, 3}, 2, 1}, {[]byte{1, 0, 1, 3, 0, 4}, 2, 3}, {[]byte{1, 1, 0, 0}, 2, 4},
		{[]byte{3, 3, 3}, 2, 0}, {[]byte{9, 8, 7, 6}, 5, 0}, {[]byte{1, 9, 2, 8, 3, 7}, 5, 1}, {[]byte{4, 3, 2, 6, 1}, 5, 3},
	} {
		var l []api.Bucket
		for i, b := range c.l {
			l = append(l, bucket(b, int64(i), int64(-i)))
		}
		got, ok := checkAllow(t, l, addr(c.a), 3)
		if want := slices.Insert(slices.Clone(l), c.place, bucket(c.a, 4000, 3)); !ok || !slices.Equal(got, want) {
			t.Errorf("%v: %v, %t", c, got, ok)
		}
	}
}

// P19.2: all lists of up to four buckets of four addresses, with each address.
func TestAllLists(t *testing.T) {
	lists := [][]api.Bucket{nil}
	for n := 0; n < len(lists); n++ {
		l := lists[n]
		for a := range byte(4) {
			for _, now := range []int64{-1, 0, 3, 50} {
				checkAllow(t, l, addr(a), now)
			}
		}
		if len(l) < 4 {
			for a := range byte(4) {
				lists = append(lists, append(slices.Clone(l), bucket(a, int64(len(l))*400, int64(len(l)%3))))
			}
		}
	}
	if len(lists) != 1+4+16+64+256 {
		t.Error(len(lists))
	}
}

// even returns count buckets in order, with all even addresses from 2 on, that have been used at the time 100.
func even(count int) []api.Bucket {
	var l []api.Bucket
	for i := range count {
		l = append(l, bucket(byte(2+2*i), int64(10*i), 100))
	}
	return l
}

// P19.2: with MaxBuckets buckets, the first one of those with the least At makes room, wherever it and the new one stand.
func TestFull(t *testing.T) {
	for oldest := range api.MaxBuckets {
		for second := oldest; second < api.MaxBuckets; second++ {
			for place := range api.MaxBuckets + 1 {
				l := even(api.MaxBuckets)
				l[oldest].At, l[second].At = 99, 99
				got, ok := checkAllow(t, l, addr(byte(1+2*place)), 200)
				want := slices.Insert(slices.Clone(l), place, bucket(byte(1+2*place), 4000, 200))
				gone := oldest
				if place <= oldest {
					gone++
				}
				if want = slices.Delete(want, gone, gone+1); !ok || !slices.Equal(got, want) {
					t.Fatalf("the oldest ones at %d and %d, the new one at %d: %v, %t", oldest, second, place, got, ok)
				}
			}
		}
	}
}

// P19.2: a bucket is removed only if there is no room, and only if the address has none.
func TestRoom(t *testing.T) {
	for count := range 4 * api.MaxBuckets {
		l := even(count)
		got, ok := checkAllow(t, l, addr(1), 150)
		want := count + 1
		if count >= 16 {
			want = count
		}
		if !ok || len(got) != want || got[0] != bucket(1, 4000, 150) {
			t.Errorf("%d buckets, another one: %v, %t", count, got, ok)
		}
		for i := range count {
			got, _ := checkAllow(t, l, addr(byte(2+2*i)), 150)
			if len(got) != count {
				t.Errorf("%d buckets, the one at %d: %v", count, i, got)
			}
		}
	}
}

// P19.2: the bucket is removed ahead of the search for the place: one that comes behind the new one, and is gone, does not count.
func TestRemovedAhead(t *testing.T) {
	l := even(api.MaxBuckets)
	l[3] = bucket(200, 0, 1) // the first one that comes behind 25
	got, ok := checkAllow(t, l, addr(25), 150)
	want := slices.Insert(slices.Delete(slices.Clone(l), 3, 4), 11, bucket(25, 4000, 150))
	if !ok || !slices.Equal(got, want) {
		t.Errorf("%v, %t", got, ok)
	}
}

// P19.2: times of a full list at the ends of all numbers; the least one is not the one that is nearest to 0.
func TestFullFarTimes(t *testing.T) {
	for _, least := range someTimes {
		for _, other := range someTimes {
			for place := range api.MaxBuckets {
				l := even(api.MaxBuckets)
				for i := range l {
					l[i].At = other
				}
				l[place].At = least
				checkAllow(t, l, addr(byte(33)), 0)
			}
		}
	}
}

// P19.2: the new bucket is not removed for its own At, which may be the least one.
func TestNewIsOldest(t *testing.T) {
	for _, now := range []int64{math.MinInt64, -1, 0, 98, 99} {
		got, ok := checkAllow(t, even(api.MaxBuckets), addr(11), now)
		if !ok || len(got) != api.MaxBuckets || !has(got, addr(11)) || has(got, addr(2)) {
			t.Errorf("at %d: %v, %t", now, got, ok)
		}
	}
}

// P19.2: random lists, in order and not, of each length to beyond MaxBuckets.
func TestRandomBuckets(t *testing.T) {
	random := rand.New(rand.NewSource(1919))
	for round := range 20000 {
		base := someTimes[random.Intn(len(someTimes))]
		someTime := func() int64 {
			if random.Intn(8) == 0 {
				return someTimes[random.Intn(len(someTimes))]
			}
			return base + int64(random.Intn(300)) // may go beyond the end of the numbers
		}
		someAddr := func() api.Addr {
			if random.Intn(2) == 0 {
				return someAddrs[random.Intn(len(someAddrs))]
			}
			return api.Addr{Six: random.Intn(2) == 0, IP: [16]byte{byte(random.Intn(4)), byte(random.Intn(3)), 9: byte(random.Intn(2))}}
		}
		var l []api.Bucket
		for range random.Intn(22) {
			l = append(l, api.Bucket{Addr: someAddr(), Tokens: int64(random.Intn(5001)), At: someTime()})
		}
		if round%3 > 0 {
			slices.SortFunc(l, func(a, b api.Bucket) int { return cmpAddr(a.Addr, b.Addr) })
		}
		for range 4 {
			l, _ = checkAllow(t, l, someAddr(), someTime())
		}
	}
}

// cmpAddr is plainLess for a sort.
func cmpAddr(a, b api.Addr) int {
	switch {
	case plainLess(a, b):
		return -1
	case plainLess(b, a):
		return 1
	}
	return 0
}

// P19.2: a run keeps a list in strictly ascending order, of at most MaxBuckets buckets, with Tokens from 0 to 4999.
func TestRun(t *testing.T) {
	random := rand.New(rand.NewSource(191919))
	var l []api.Bucket
	now := int64(0)
	for step := range 20000 {
		now += int64(random.Intn(20))
		l, _ = checkAllow(t, l, addr(byte(random.Intn(4+step/1000))), now)
		ascending := slices.IsSortedFunc(l, func(a, b api.Bucket) int { return cmpAddr(a.Addr, b.Addr) })
		for i, b := range l {
			ascending = ascending && (i == 0 || b.Addr != l[i-1].Addr)
			if b.Tokens < 0 || b.Tokens > 5000 || b.At > now {
				t.Fatalf("step %d: %v", step, b)
			}
		}
		if !ascending || len(l) > api.MaxBuckets || len(l) == 0 {
			t.Fatalf("step %d: %v", step, l)
		}
	}
	if len(l) != api.MaxBuckets {
		t.Error("the list has never been full")
	}
}

// P19.3: at one time 5 messages of an address are allowed and no more, beside those of other addresses.
func TestAtOneTime(t *testing.T) {
	for _, now := range someTimes {
		for others := range api.MaxBuckets {
			var l []api.Bucket
			allowed := 0
			for i := range 20 {
				for other := range others {
					l, _ = Allow(l, addr(byte(100+other)), now)
				}
				next, ok := Allow(l, addr(1), now)
				if l = next; ok != (i < 5) {
					t.Fatalf("at %d, message %d: %t", now, i+1, ok)
				}
				if ok {
					allowed++
				}
			}
			if allowed != 5 || l[0].Tokens != 0 {
				t.Errorf("at %d: %d are allowed, %v", now, allowed, l)
			}
		}
	}
}

// P19.3: within any time at most 5 and one in each 50 milliseconds are allowed, while the bucket is not removed; if messages come all the time, these are.
func TestRate(t *testing.T) {
	random := rand.New(rand.NewSource(3))
	for _, pause := range []int{1, 2, 7, 30, 49, 50, 51, 100, 400} {
		var l []api.Bucket
		var allowed []int64
		now := int64(random.Intn(1000))
		for range 1500 {
			if random.Intn(3) > 0 {
				now += int64(random.Intn(pause + 1))
			}
			next, ok := Allow(l, addr(1), now)
			l = next
			if ok {
				allowed = append(allowed, now)
			}
			l, _ = Allow(l, addr(byte(2+random.Intn(15))), now) // as many others as there is room for
		}
		for i, from := range allowed {
			for j, to := range allowed[i:] {
				if most := 5 + (to-from)/50; int64(j+1) > most {
					t.Fatalf("pauses up to %d: from %d to %d, %d messages are allowed, not %d", pause, from, to, j+1, most)
				}
			}
		}
	}
	var l []api.Bucket
	count := 0
	for now := range int64(10 * 1000) {
		next, ok := Allow(l, addr(1), now)
		if l = next; ok {
			count++
		}
	}
	if count != 5+199 { // one more would come at the time 10000
		t.Errorf("%d messages are allowed in 10 seconds", count)
	}
}

// P19.3: the bound is lost with the bucket: an address whose bucket is removed gets a full one.
func TestRemoved(t *testing.T) {
	var l []api.Bucket
	for range 6 {
		l, _ = Allow(l, addr(1), 0)
	}
	for i := range api.MaxBuckets {
		l, _ = Allow(l, addr(byte(2+i)), 1)
	}
	if has(l, addr(1)) || len(l) != api.MaxBuckets {
		t.Fatalf("%v", l)
	}
	if got, ok := checkAllow(t, l, addr(1), 1); !ok || got[0] != bucket(1, 4000, 1) {
		t.Errorf("%v, %t", got, ok)
	}
}

// R8: Tokens that are not from 0 to 5000 do no harm to the others, and the call ends.
func TestOtherTokens(t *testing.T) {
	for _, tokens := range []int64{math.MinInt64, math.MinInt64 + 1, -1 << 32, -5000, -1, 5001, 1 << 32, math.MaxInt64 - 1, math.MaxInt64} {
		for _, at := range someTimes {
			for _, now := range someTimes {
				l := []api.Bucket{bucket(1, 2, 3), bucket(5, tokens, at), bucket(9, 4, 5)}
				got, _ := Allow(l, addr(5), now)
				if len(got) != 3 || got[0] != l[0] || got[1].Addr != addr(5) || got[2] != l[2] {
					t.Fatalf("%d tokens at %d, now %d: %v", tokens, at, now, got)
				}
				checkAllow(t, l, addr(6), now)
			}
		}
	}
}

// roomy returns copies of the lists with room behind them, and what the room holds.
func roomy[T any](l []T, mark T) (list, whole []T) {
	whole = append(slices.Clone(l), mark, mark, mark, mark)
	return whole[:len(l)], whole
}

// P19.2, R3: the lists that are passed in stay as they are, with the room behind them.
func TestArguments(t *testing.T) {
	for count := range 3 * api.MaxBuckets {
		buckets := even(count)
		for _, a := range []api.Addr{addr(1), addr(2), addr(9), addr(10), addr(byte(2 * count)), addr(byte(3 + 2*count)), addr(255)} {
			l, whole := roomy(buckets, bucket(77, 7, 7))
			kept := slices.Clone(whole)
			got, _ := Allow(l, a, 200)
			for i := range got[:cap(got)] {
				got[:cap(got)][i] = bucket(66, 6, 6)
			}
			if !slices.Equal(whole, kept) {
				t.Errorf("%d buckets, %v: the list is changed", count, a)
			}
		}
	}
	for count := range 3 * api.MaxRecent {
		var times []int64
		for i := range count {
			times = append(times, int64(i*30))
		}
		for _, now := range []int64{-1, 0, 500, int64(30 * count), 100000} {
			recent, whole := roomy(times, 77)
			kept := slices.Clone(whole)
			got := Note(recent, now)
			for i := range got[:cap(got)] {
				got[:cap(got)][i] = 66
			}
			Loaded(recent, now, 3)
			if !slices.Equal(whole, kept) {
				t.Errorf("%d times at %d: the list is changed", count, now)
			}
		}
	}
}

// R3: a result stays as it is when the arguments and another result are changed.
func TestResults(t *testing.T) {
	for count := range 2 * api.MaxBuckets {
		for _, a := range []api.Addr{addr(1), addr(2), addr(9), addr(byte(2 * count))} {
			l := even(count)
			first, _ := Allow(l, a, 200)
			second, _ := Allow(l, a, 200)
			want, _ := plainAllow(l, a, 200)
			for i := range l {
				l[i] = bucket(55, 5, 5)
			}
			for i := range first {
				first[i] = bucket(66, 6, 6)
			}
			if !slices.Equal(second, want) {
				t.Errorf("%d buckets, %v: %v, not %v", count, a, second, want)
			}
		}
	}
	for count := range 2 * api.MaxRecent {
		recent := slices.Repeat([]int64{7}, count)
		first, second, want := Note(recent, 9), Note(recent, 9), plainNote(recent, 9)
		for i := range recent {
			recent[i] = 5
		}
		for i := range first {
			first[i] = 6
		}
		if !slices.Equal(second, want) {
			t.Errorf("%d times: %v, not %v", count, second, want)
		}
	}
}

// R3: two lists that are made of one do not meet.
func TestTwoWays(t *testing.T) {
	for count := range 2 * api.MaxBuckets {
		l, _ := Allow(even(count), addr(5), 150)
		kept := slices.Clone(l)
		x, _ := Allow(l, addr(5), 160)
		y, _ := Allow(l, addr(7), 170)
		wantX, _ := plainAllow(kept, addr(5), 160)
		wantY, _ := plainAllow(kept, addr(7), 170)
		if !slices.Equal(l, kept) || !slices.Equal(x, wantX) || !slices.Equal(y, wantY) {
			t.Errorf("%d buckets: %v, %v, %v", count, l, x, y)
		}
		recent := Note(slices.Repeat([]int64{100}, 4*count), 150)
		keptTimes := slices.Clone(recent)
		a, b := Note(recent, 160), Note(recent, 170)
		if !slices.Equal(recent, keptTimes) || !slices.Equal(a, plainNote(keptTimes, 160)) || !slices.Equal(b, plainNote(keptTimes, 170)) {
			t.Errorf("%d times: %v, %v, %v", len(keptTimes), recent, a, b)
		}
	}
}

// R4, R5: the same arguments give the same results, whatever was called ahead of them; a nil list is as good as an empty one.
func TestAgain(t *testing.T) {
	l := even(16)
	want, wantOk := plainAllow(l, addr(5), 123)
	for i := range 100 {
		Allow(l, addr(byte(i)), int64(i))
		Note([]int64{int64(i)}, int64(i))
		if got, ok := Allow(l, addr(5), 123); ok != wantOk || !slices.Equal(got, want) {
			t.Errorf("call %d: %v, %t", i, got, ok)
		}
	}
	for _, none := range [][]api.Bucket{nil, {}, l[:0], l[16:]} {
		if got, ok := checkAllow(t, none, addr(5), 123); !ok || !slices.Equal(got, []api.Bucket{bucket(5, 4000, 123)}) {
			t.Errorf("%v, %t", got, ok)
		}
	}
	if !slices.Equal(l, even(16)) {
		t.Error("the list is changed")
	}
}

// R1: long lists are no hindrance.
func TestLong(t *testing.T) {
	times := make([]int64, 1<<20)
	for i := range times {
		times[i] = int64(i % 2000)
	}
	// The list ends within a block of 2000 times, ahead of its recent half: the last recent ones are those of the block ahead of it.
	got := Note(times, 1999)
	if len(got) != api.MaxRecent || got[0] != 1937 || got[62] != 1999 || got[63] != 1999 {
		t.Error(got)
	}
	if count := 1 << 20 / 2000 * 1000; !Loaded(times, 1999, count-1) || Loaded(times, 1999, count) {
		t.Error("the recent times of a long list are not counted well")
	}
	buckets := make([]api.Bucket, 1<<18)
	for i := range buckets {
		buckets[i] = api.Bucket{Addr: api.Addr{IP: [16]byte{byte(i >> 16), byte(i >> 8), byte(i)}}, At: int64(i ^ 12345)}
	}
	six := api.Addr{Six: true}
	with, ok := Allow(buckets, six, 5)
	if !ok || len(with) != len(buckets) || with[12344] != buckets[12344] || with[12345] != buckets[12346] || with[len(with)-1] != (api.Bucket{Addr: six, Tokens: 4000, At: 5}) {
		t.Error("a new address in a long list")
	}
	last := buckets[len(buckets)-1]
	if got, ok := Allow(buckets, last.Addr, last.At+50); !ok || len(got) != len(buckets) || got[len(got)-1].At != last.At+50 || got[len(got)-1].Tokens != 0 {
		t.Error("the last address of a long list")
	}
}
