package wheel

import (
	"math"
	"math/rand"
	"slices"
	"testing"

	"burrow/api"
)

var (
	keyA = api.Key{1}
	keyB = api.Key{2}
	keyC = api.Key{31: 3}
)

// someTimes are times at the ends of what is permitted and of all numbers.
var someTimes = []int64{math.MinInt64, math.MinInt64 + 1, -1 << 42, -1 << 32, -1, 0, 1, 2, 1<<31 - 1, 1 << 31, 1<<32 - 1, 1 << 32, 1 << 40, 1<<42 - 1, 1 << 42, 1<<42 + 1, 1 << 43, math.MaxInt64 - 1, math.MaxInt64}

// someKinds are kinds at the ends of what is permitted and of all numbers.
var someKinds = []int{math.MinInt, -1 << 32, -1, 0, 1, 2, 3, 4, 5, 6, 7, 256, 257, 1<<32 + 1, math.MaxInt}

// row returns so many timers in order, two of each time and five of each peer, whose timers stand side by side.
func row(count int) []api.Timer {
	var l []api.Timer
	for i := range count {
		l = append(l, api.Timer{At: int64(10 + i/2*2), Peer: api.Key{byte(i / 5)}, Kind: 1 + i%5})
	}
	return l
}

// plainLess follows P17.1 word for word.
func plainLess(a, b api.Timer) bool {
	if a.At != b.At {
		return a.At < b.At
	}
	for i := range a.Peer {
		if a.Peer[i] != b.Peer[i] {
			return a.Peer[i] < b.Peer[i]
		}
	}
	return a.Kind < b.Kind
}

// plainValid follows P17.1 word for word.
func plainValid(l []api.Timer) bool {
	for i, t := range l {
		for _, later := range l[i+1:] {
			if !plainLess(t, later) || t.Peer == later.Peer && t.Kind == later.Kind {
				return false
			}
		}
		if t.Kind < 1 || t.Kind > 5 || t.At < 0 || t.At > 4398046511104 {
			return false
		}
	}
	return true
}

// plainSet follows P17.2 word for word.
func plainSet(l []api.Timer, t api.Timer) []api.Timer {
	var result []api.Timer
	done := false
	for _, other := range plainCancel(l, t.Peer, t.Kind) {
		if plainLess(t, other) && !done {
			result, done = append(result, t), true
		}
		result = append(result, other)
	}
	if !done {
		result = append(result, t)
	}
	return result
}

// plainCancel follows P17.2 word for word.
func plainCancel(l []api.Timer, peer api.Key, kind int) []api.Timer {
	var result []api.Timer
	for _, t := range l {
		if t.Peer != peer || t.Kind != kind {
			result = append(result, t)
		}
	}
	return result
}

// plainCancelPeer follows P17.2 word for word.
func plainCancelPeer(l []api.Timer, peer api.Key) []api.Timer {
	var result []api.Timer
	for _, t := range l {
		if t.Peer != peer {
			result = append(result, t)
		}
	}
	return result
}

// plainDue follows P17.3 word for word.
func plainDue(l []api.Timer, to int64) (api.Timer, bool) {
	for i, t := range l {
		least := true
		for j, other := range l {
			least = least && !plainLess(other, t) && (j >= i || plainLess(t, other))
		}
		if least && t.At <= to {
			return t, true
		}
	}
	return api.Timer{}, false
}

// checkValid compares Valid with the plain version.
func checkValid(t *testing.T, l []api.Timer) bool {
	t.Helper()
	got, want := Valid(l), plainValid(l)
	if got != want {
		t.Errorf("Valid(%v) is %t", l, got)
	}
	return want
}

// checkSet compares Set with the plain version, and its result with P17.4.
func checkSet(t *testing.T, l []api.Timer, x api.Timer) {
	t.Helper()
	got, want := Set(l, x), plainSet(l, x)
	if !slices.Equal(got, want) {
		t.Errorf("Set(%v, %v) is %v, not %v", l, x, got, want)
	}
	if !Has(got, x.Peer, x.Kind) {
		t.Errorf("Set(%v, %v) is %v, which has no such timer", l, x, got)
	}
	if plainValid(l) && Valid(got) != plainValid([]api.Timer{x}) {
		t.Errorf("Set(%v, %v) is %v: Valid is %t", l, x, got, Valid(got))
	}
}

// checkCancel compares what is done to a list with a peer and a kind with the plain versions.
func checkCancel(t *testing.T, l []api.Timer, peer api.Key, kind int) bool {
	t.Helper()
	canceled, want := Cancel(l, peer, kind), plainCancel(l, peer, kind)
	if !slices.Equal(canceled, want) {
		t.Errorf("Cancel(%v, %v, %d) is %v, not %v", l, peer, kind, canceled, want)
	}
	has := len(want) < len(l)
	if Has(l, peer, kind) != has || Has(canceled, peer, kind) {
		t.Errorf("%v, %v, %d: Has is %t, and behind Cancel %t", l, peer, kind, !has, Has(canceled, peer, kind))
	}
	none, want := CancelPeer(l, peer), plainCancelPeer(l, peer)
	if !slices.Equal(none, want) || Has(none, peer, kind) {
		t.Errorf("CancelPeer(%v, %v) is %v, not %v", l, peer, none, want)
	}
	if plainValid(l) && (!Valid(canceled) || !Valid(none)) {
		t.Errorf("%v, %v, %d: the results for a valid list are not valid", l, peer, kind)
	}
	return has
}

// checkDue compares Due with the plain version.
func checkDue(t *testing.T, l []api.Timer, to int64) bool {
	t.Helper()
	got, ok := Due(l, to)
	want, wantOK := plainDue(l, to)
	if got != want || ok != wantOK {
		t.Errorf("Due(%v, %d) is %v, %t, not %v, %t", l, to, got, ok, want, wantOK)
	}
	return ok
}

// checkAll compares all functions for a list with the plain versions.
func checkAll(t *testing.T, l, timers []api.Timer) {
	t.Helper()
	checkValid(t, l)
	for _, x := range timers {
		checkSet(t, l, x)
		checkCancel(t, l, x.Peer, x.Kind)
		checkDue(t, l, x.At)
	}
}

// The example of the chapter.
func TestExample(t *testing.T) {
	first := api.Timer{At: 5, Peer: keyA, Kind: 1}
	if l := Set([]api.Timer{{At: 9, Peer: keyA, Kind: 1}}, first); !slices.Equal(l, []api.Timer{first}) {
		t.Error(l)
	}
}

// ascending returns timers in strictly ascending order, with numbers at the ends of their ranges and peers that differ at each place.
func ascending() []api.Timer {
	peers := []api.Key{{}}
	for i := range 32 {
		for _, b := range []byte{1, 127, 128, 255} {
			var peer api.Key
			peer[31-i] = b
			peers = append(peers, peer)
		}
	}
	var l []api.Timer
	for _, at := range []int64{math.MinInt64, -1, 0, 1, 255, 256, 1 << 32, math.MaxInt64} {
		for i, peer := range peers {
			kinds := []int{3}
			if i%16 == 0 {
				kinds = someKinds
			}
			for _, kind := range kinds {
				l = append(l, api.Timer{At: at, Peer: peer, Kind: kind})
			}
		}
	}
	return l
}

// P17.1: all pairs of a row of timers in order.
func TestLess(t *testing.T) {
	l := ascending()
	for i, a := range l {
		for j, b := range l {
			if Less(a, b) != (i < j) {
				t.Fatalf("Less(%v, %v) is %t", a, b, i >= j)
			}
		}
	}
}

// P17.1: a part ahead decides against all that come behind it.
func TestLessParts(t *testing.T) {
	for _, low := range someTimes {
		for _, high := range someTimes {
			a := api.Timer{At: low, Peer: keyB, Kind: math.MaxInt}
			b := api.Timer{At: high, Peer: keyA, Kind: math.MinInt}
			if Less(a, b) != (low < high) {
				t.Errorf("the times %d and %d: %t", low, high, low >= high)
			}
		}
	}
	for i := range 32 {
		// From place i on, b is greater in this byte only, and less in all others and in its kind.
		a, b := api.Timer{At: 7, Kind: 5}, api.Timer{At: 7, Kind: 1}
		for j := i + 1; j < 32; j++ {
			a.Peer[j] = 255
		}
		for low := range 256 {
			for _, high := range []int{0, 1, 127, 128, 255} {
				a.Peer[i], b.Peer[i] = byte(low), byte(high)
				if want := low < high; low != high && (Less(a, b) != want || Less(b, a) == want) {
					t.Errorf("byte %d: %d and %d: %t", i, low, high, !want)
				}
			}
		}
	}
	for i, low := range someKinds {
		for j, high := range someKinds {
			if Less(api.Timer{At: 3, Peer: keyC, Kind: low}, api.Timer{At: 3, Peer: keyC, Kind: high}) != (i < j) {
				t.Errorf("the kinds %d and %d: %t", low, high, i >= j)
			}
		}
	}
}

// P17.1: the bits of times and kinds all count.
func TestLessBits(t *testing.T) {
	for bit := range 63 {
		for _, low := range []int64{math.MinInt64, 0} {
			high := low + 1<<bit
			for _, pair := range [][2]api.Timer{{{At: low}, {At: high}}, {{Kind: int(low)}, {Kind: int(high)}}} {
				if !Less(pair[0], pair[1]) || Less(pair[1], pair[0]) || Less(pair[0], pair[0]) {
					t.Errorf("%v", pair)
				}
			}
		}
	}
}

// P17.1: the times and kinds that are permitted, alone and beside others.
func TestValidRanges(t *testing.T) {
	for _, at := range someTimes {
		for _, kind := range someKinds {
			x := api.Timer{At: at, Peer: keyB, Kind: kind}
			want := 0 <= at && at <= 1<<42 && 1 <= kind && kind <= 5
			if Valid([]api.Timer{x}) != want {
				t.Errorf("%v alone: %t", x, !want)
			}
			checkValid(t, []api.Timer{{At: 0, Peer: keyA, Kind: 1}, x})
			checkValid(t, []api.Timer{x, {At: 1 << 42, Peer: keyC, Kind: 5}})
		}
	}
	for kind := -10; kind < 300; kind++ {
		if want := 1 <= kind && kind <= 5; Valid([]api.Timer{{Kind: kind}}) != want {
			t.Errorf("the kind %d: %t", kind, !want)
		}
	}
	for bit := range 64 {
		if want := bit <= 42; Valid([]api.Timer{{At: 1 << bit, Kind: 1}}) != want {
			t.Errorf("the time 2^%d: %t", bit, !want)
		}
		if want := bit < 3; Valid([]api.Timer{{Kind: 1 << bit}}) != want {
			t.Errorf("the kind 2^%d: %t", bit, !want)
		}
	}
}

// P17.1: a timer that is not permitted at each place of a list, which stays in order.
func TestValidPlaces(t *testing.T) {
	full := row(40)
	if !Valid(full) {
		t.Fatal(full)
	}
	for i := range full {
		for _, change := range []func(x *api.Timer){
			func(x *api.Timer) { x.Kind = 0 },
			func(x *api.Timer) { x.Kind = 6 },
			func(x *api.Timer) { x.At = -1 },
			func(x *api.Timer) { x.At = 1<<42 + 1 },
		} {
			l := slices.Clone(full)
			change(&l[i])
			slices.SortFunc(l, func(a, b api.Timer) int {
				if plainLess(a, b) {
					return -1
				}
				return 1
			})
			if Valid(l) {
				t.Errorf("%v", l)
			}
		}
	}
}

// P17.1: neighbours in the wrong order, and equal ones.
func TestValidOrder(t *testing.T) {
	var timers []api.Timer
	for _, x := range ascending() {
		if plainValid([]api.Timer{x}) {
			timers = append(timers, x)
		}
	}
	for i := range timers {
		for j := range timers {
			l := []api.Timer{timers[i], timers[j]}
			same := l[0].Peer == l[1].Peer && l[0].Kind == l[1].Kind
			if want := i < j && !same; Valid(l) != want {
				t.Fatalf("%v: %t", l, !want)
			}
		}
	}
	full := row(40)
	for i := range full[1:] {
		l := slices.Clone(full)
		l[i], l[i+1] = l[i+1], l[i]
		if Valid(l) {
			t.Errorf("%v", l)
		}
		if l := slices.Insert(slices.Clone(full), i, full[i]); Valid(l) {
			t.Errorf("%v", l)
		}
	}
}

// P17.1: two timers of the same peer and kind at all distances; one of the two alone may be the same.
func TestValidSame(t *testing.T) {
	full := row(40)
	for i := range full {
		for j := range i {
			for _, parts := range []struct{ peer, kind bool }{{true, true}, {true, false}, {false, true}} {
				l := slices.Clone(full)
				for n := range l {
					l[n] = api.Timer{At: int64(n), Peer: api.Key{byte(n)}, Kind: 2}
				}
				l[j].Kind, l[i].Kind = 3, 4
				if parts.peer {
					l[i].Peer = l[j].Peer
				}
				if parts.kind {
					l[i].Kind = l[j].Kind
				}
				if want := !parts.peer || !parts.kind; Valid(l) != want {
					t.Errorf("%d and %d: %v: %t", j, i, parts, !want)
				}
			}
		}
	}
}

// P17.1: peers that differ in one bit are different ones.
func TestValidPeerBits(t *testing.T) {
	base := api.Key{5: 77, 20: 255}
	for bit := range 256 {
		other := base
		other[bit/8] ^= 1 << (bit % 8)
		l := []api.Timer{{At: 1, Peer: base, Kind: 4}, {At: 2, Peer: other, Kind: 4}}
		if !Valid(l) || !Has(l[:1], base, 4) || Has(l[:1], other, 4) {
			t.Errorf("bit %d: %t, %t", bit, Valid(l), Has(l[:1], other, 4))
		}
		for i, peer := range []api.Key{base, other} {
			left := l[1-i : 2-i]
			if x, y := Cancel(l, peer, 4), CancelPeer(l, peer); !slices.Equal(x, left) || !slices.Equal(y, left) {
				t.Errorf("bit %d: %v, %v", bit, x, y)
			}
		}
		if x := Set(l, api.Timer{At: 1, Peer: other, Kind: 4}); len(x) != 2 || !slices.Contains(x, l[0]) {
			t.Errorf("bit %d: %v", bit, x)
		}
	}
}

// P17.1: a list may have any number of timers.
func TestValidNumber(t *testing.T) {
	l := row(200)
	// The beginnings of the long list have room for more, which does not count.
	for i := range len(l) + 1 {
		if !Valid(l[:i]) || !Valid(l[i:]) {
			t.Errorf("%d timers", i)
		}
	}
}

// P17.2: a new timer at each place of a list.
func TestSetPlaces(t *testing.T) {
	want := row(40)
	for i, x := range want {
		l := slices.Delete(slices.Clone(want), i, i+1)
		if got := Set(l, x); !slices.Equal(got, want) {
			t.Errorf("place %d: %v", i, got)
		}
		if got := Set(want, x); !slices.Equal(got, want) {
			t.Errorf("place %d again: %v", i, got)
		}
	}
}

// P17.2: a timer that moves from each place of a list to each.
func TestSetMoves(t *testing.T) {
	full := row(20)
	for i := range full {
		full[i].At = int64(10 * i)
	}
	for i, x := range full {
		left := slices.Delete(slices.Clone(full), i, i+1)
		for place := range len(full) {
			at := int64(-5)
			if place > 0 {
				at = left[place-1].At + 5
			}
			moved := api.Timer{At: at, Peer: x.Peer, Kind: x.Kind}
			if got, want := Set(full, moved), slices.Insert(slices.Clone(left), place, moved); !slices.Equal(got, want) {
				t.Errorf("from %d to %d: %v", i, place, got)
			}
		}
	}
}

// P17.2: the place among timers of one time is that of the peer, and of the kind among those of one peer.
func TestSetSameTime(t *testing.T) {
	l := []api.Timer{{At: 8, Peer: keyC, Kind: 5}, {At: 9, Peer: keyA, Kind: 3}, {At: 9, Peer: keyB, Kind: 2}, {At: 9, Peer: keyB, Kind: 4}, {At: 10, Kind: 1}}
	tests := []struct {
		x     api.Timer
		place int
	}{
		{api.Timer{At: 9, Peer: keyC, Kind: 4}, 1}, {api.Timer{At: 9, Peer: keyA, Kind: 1}, 1}, {api.Timer{At: 9, Peer: keyA, Kind: 4}, 2}, {api.Timer{At: 9, Peer: keyB, Kind: 1}, 2},
		{api.Timer{At: 9, Peer: keyB, Kind: 3}, 3}, {api.Timer{At: 9, Peer: keyB, Kind: 5}, 4}, {api.Timer{At: 9, Peer: api.Key{3}, Kind: 1}, 4}, {api.Timer{At: 10, Peer: keyC, Kind: 1}, 5},
		{api.Timer{At: 8, Peer: keyC, Kind: 4}, 0}, {api.Timer{At: 8, Peer: keyA, Kind: 5}, 1}, {api.Timer{At: 10, Kind: 2}, 5},
	}
	for _, test := range tests {
		want := slices.Insert(slices.Clone(l), test.place, test.x)
		if got := Set(l, test.x); !slices.Equal(got, want) || !Valid(got) {
			t.Errorf("Set %v: %v", test.x, got)
		}
	}
}

// P17.2: in a list that is not in order the place is ahead of the first timer that comes behind the new one, once those of its peer and kind are gone.
func TestSetAnyOrder(t *testing.T) {
	l := []api.Timer{{At: 20, Peer: keyA, Kind: 1}, {At: 50, Peer: keyB, Kind: 1}, {At: 10, Peer: keyA, Kind: 2}, {At: 30, Peer: keyA, Kind: 3}, {At: 60, Peer: keyB, Kind: 1}, {At: 40, Peer: keyA, Kind: 4}, {At: -7, Kind: 99}}
	left := plainCancel(l, keyB, 1)
	for at, place := range map[int64]int{math.MinInt64: 0, 0: 0, 19: 0, 20: 2, 29: 2, 30: 3, 39: 3, 40: 5, 45: 5, 55: 5, math.MaxInt64: 5} {
		x := api.Timer{At: at, Peer: keyB, Kind: 1}
		if got, want := Set(l, x), slices.Insert(slices.Clone(left), place, x); !slices.Equal(got, want) {
			t.Errorf("Set %d: %v", at, got)
		}
	}
}

// P17.2: a timer that is not permitted is set like others.
func TestSetNotPermitted(t *testing.T) {
	l := row(20)
	for _, at := range someTimes {
		for _, kind := range someKinds {
			for _, peer := range []api.Key{{}, l[7].Peer, keyC} {
				checkSet(t, l, api.Timer{At: at, Peer: peer, Kind: kind})
				checkSet(t, nil, api.Timer{At: at, Peer: peer, Kind: kind})
				checkCancel(t, l, peer, kind)
			}
		}
	}
	x := api.Timer{At: -3, Peer: keyB, Kind: math.MinInt}
	if got := Set([]api.Timer{x, {At: -9}, x}, x); !slices.Equal(got, []api.Timer{{At: -9}, x}) {
		t.Error(got)
	}
}

// P17.2: each timer of a list, and peers and kinds that none has.
func TestEachTimer(t *testing.T) {
	full := row(40)
	for i, x := range full {
		want := slices.Concat(full[:i], full[i+1:])
		if got := Cancel(full, x.Peer, x.Kind); !slices.Equal(got, want) || Has(got, x.Peer, x.Kind) || !Has(full, x.Peer, x.Kind) {
			t.Errorf("Cancel %d: %v", i, got)
		}
		from := i / 5 * 5
		want = slices.Concat(full[:from], full[from+5:])
		if got := CancelPeer(full, x.Peer); !slices.Equal(got, want) {
			t.Errorf("CancelPeer of %d: %v", i, got)
		}
		for _, kind := range []int{0, 6, -x.Kind, x.Kind + 256, x.Kind + 1<<32} {
			if got := Cancel(full, x.Peer, kind); !slices.Equal(got, full) || Has(full, x.Peer, kind) {
				t.Errorf("Cancel %d with the kind %d: %v", i, kind, got)
			}
		}
	}
	for kind := range 7 {
		if x, y := Cancel(full, keyC, kind), CancelPeer(full, keyC); !slices.Equal(x, full) || !slices.Equal(y, full) || Has(full, keyC, kind) {
			t.Errorf("another peer: %v, %v", x, y)
		}
	}
}

// P17.2: all timers of a peer and kind go, wherever they are, and of times that are equal too.
func TestSeveralTimers(t *testing.T) {
	l := []api.Timer{{At: 9, Peer: keyA, Kind: 1}, {At: 3, Peer: keyB, Kind: 1}, {At: 9, Peer: keyA, Kind: 1}, {At: 4, Peer: keyA, Kind: 2}, {At: 1, Peer: keyA, Kind: 1}, {At: 3, Kind: 7}, {At: 5, Peer: keyA, Kind: 1}}
	if got := Cancel(l, keyA, 1); !slices.Equal(got, []api.Timer{l[1], l[3], l[5]}) {
		t.Error(got)
	}
	if got := Cancel(l, keyB, 1); !slices.Equal(got, slices.Concat(l[:1], l[2:])) {
		t.Error(got)
	}
	if got := CancelPeer(l, keyA); !slices.Equal(got, []api.Timer{l[1], l[5]}) {
		t.Error(got)
	}
	if got := CancelPeer(l, api.Key{}); !slices.Equal(got, slices.Concat(l[:5], l[6:])) {
		t.Error(got)
	}
	x := api.Timer{At: 4, Peer: keyA, Kind: 1}
	if got := Set(l, x); !slices.Equal(got, []api.Timer{l[1], x, l[3], l[5]}) {
		t.Error(got)
	}
	if !Has(l, api.Key{}, 7) || Has(l, keyB, 7) || Has(l, keyB, 2) || !Has(l[3:], keyA, 1) {
		t.Error("Has")
	}
}

// P17.3: the time to which a timer is due, for each time of it.
func TestDueTime(t *testing.T) {
	for _, at := range someTimes {
		x := api.Timer{At: at, Peer: keyB, Kind: 3}
		for _, to := range someTimes {
			got, ok := Due([]api.Timer{x}, to)
			if want := at <= to; ok != want || ok && got != x || !ok && got != (api.Timer{}) {
				t.Errorf("%d to %d: %v, %t", at, to, got, ok)
			}
		}
	}
	if got, ok := Due([]api.Timer{{}}, 0); !ok || got != (api.Timer{}) {
		t.Errorf("the zero timer: %v, %t", got, ok)
	}
	if got, ok := Due([]api.Timer{{}}, -1); ok || got != (api.Timer{}) {
		t.Errorf("the zero timer to -1: %v, %t", got, ok)
	}
}

// P17.3: the least timer at each place of a list, whatever the others are.
func TestDuePlaces(t *testing.T) {
	full := row(20)
	for place := range len(full) {
		for _, x := range []api.Timer{{At: 9, Peer: keyC, Kind: 99}, {At: 10, Kind: 0}, {At: -4, Peer: keyC, Kind: 3}} {
			for _, reversed := range []bool{false, true} {
				l := slices.Clone(full)
				if reversed {
					slices.Reverse(l)
				}
				l = slices.Insert(l, place, x)
				for _, to := range []int64{x.At, x.At + 1, 1000, math.MaxInt64} {
					if got, ok := Due(l, to); !ok || got != x {
						t.Errorf("%v to %d: %v, %t", l, to, got, ok)
					}
				}
				if got, ok := Due(l, x.At-1); ok || got != (api.Timer{}) {
					t.Errorf("%v to %d: %v, %t", l, x.At-1, got, ok)
				}
			}
		}
	}
}

// P17.3: among equal times the peer decides, then the kind; of equal least timers one is returned.
func TestDueEqual(t *testing.T) {
	a, b, c := api.Timer{At: 7, Peer: keyA, Kind: 4}, api.Timer{At: 7, Peer: keyA, Kind: 5}, api.Timer{At: 7, Peer: keyB, Kind: 1}
	later := api.Timer{At: 8}
	for _, l := range [][]api.Timer{{a, b, c}, {c, b, a}, {b, a, c}, {c, a, b}, {a, a}, {b, a, a, c}, {later, b, a, later, a}, {a, c, a, b, a}} {
		for _, to := range []int64{7, 8, 100} {
			if got, ok := Due(l, to); !ok || got != a {
				t.Errorf("%v to %d: %v, %t", l, to, got, ok)
			}
		}
		if got, ok := Due(l, 6); ok || got != (api.Timer{}) {
			t.Errorf("%v to 6: %v, %t", l, got, ok)
		}
	}
}

// P17.1 to P17.4: all lists of up to four of a few timers, some of which are not permitted.
func TestAllShortLists(t *testing.T) {
	timers := []api.Timer{{At: 1, Peer: keyA, Kind: 1}, {At: 1, Peer: keyA, Kind: 2}, {At: 1, Peer: keyB, Kind: 1}, {At: 1, Peer: keyC, Kind: 5}, {At: 2, Peer: keyA, Kind: 1}, {At: 2, Peer: keyB, Kind: 2}, {At: 3, Peer: keyA, Kind: 1}, {At: -1, Peer: keyB, Kind: 1}, {At: 2, Peer: keyA, Kind: 6}, {At: 1 << 42, Peer: keyC, Kind: 5}}
	others := []api.Timer{{At: 0, Peer: keyC, Kind: 1}, {At: 1 << 43, Peer: keyA, Kind: 0}, {At: 2, Peer: keyA, Kind: 2}}
	valid := 0
	var look func(l []api.Timer)
	look = func(l []api.Timer) {
		checkAll(t, l, slices.Concat(timers, others))
		if Valid(l) {
			valid++
		}
		if len(l) == 4 {
			return
		}
		for _, x := range timers {
			look(append(slices.Clone(l), x))
		}
	}
	look(nil)
	if valid < 50 {
		t.Errorf("%d lists are valid", valid)
	}
}

// someTimer returns a timer of few or of many.
func someTimer(random *rand.Rand) api.Timer {
	x := api.Timer{At: int64(random.Intn(12)), Peer: api.Key{byte(random.Intn(3)), 31: byte(random.Intn(3))}, Kind: 1 + random.Intn(5)}
	switch random.Intn(20) {
	case 0:
		x.At = int64(random.Uint64()) >> random.Intn(64)
	case 1:
		random.Read(x.Peer[:])
	case 2:
		x.Kind = int(random.Uint64()) >> random.Intn(64)
	}
	return x
}

// P17.1 to P17.4: random lists, some of which are valid.
func TestRandomLists(t *testing.T) {
	random := rand.New(rand.NewSource(17))
	valid, due, had := 0, 0, 0
	for range 4000 {
		var l []api.Timer
		ordered := random.Intn(2) == 0
		for range random.Intn(30) {
			if x := someTimer(random); !ordered {
				l = append(l, x)
			} else if plainValid([]api.Timer{x}) || random.Intn(20) == 0 {
				l = plainSet(l, x)
			}
		}
		if checkValid(t, l) {
			valid++
		}
		for range 10 {
			x := someTimer(random)
			checkSet(t, l, x)
			if checkCancel(t, l, x.Peer, x.Kind) {
				had++
			}
			if checkDue(t, l, x.At-2) {
				due++
			}
		}
	}
	if valid < 1000 || valid > 3000 || had < 4000 || had > 36000 || due < 10000 || due > 35000 {
		t.Error(valid, had, due)
	}
}

// P17.2 to P17.4: a list that is used for long stays valid and has exactly what was set and neither canceled nor due.
func TestLongRun(t *testing.T) {
	random := rand.New(rand.NewSource(1717))
	var l []api.Timer
	want := map[purpose]int64{}
	now, fired := int64(0), 0
	for step := range 20000 {
		peer, kind := api.Key{byte(random.Intn(8))}, 1+random.Intn(5)
		switch random.Intn(12) {
		case 0:
			l = Cancel(l, peer, kind)
			delete(want, purpose{peer, kind})
		case 1:
			l = CancelPeer(l, peer)
			for k := range 6 {
				delete(want, purpose{peer, k})
			}
		case 2:
			now += int64(random.Intn(40))
			for x, ok := Due(l, now); ok; x, ok = Due(l, now) {
				if x != l[0] || want[purpose{x.Peer, x.Kind}] != x.At {
					t.Fatalf("step %d: %v is due of %v", step, x, l)
				}
				l = Cancel(l, x.Peer, x.Kind)
				delete(want, purpose{x.Peer, x.Kind})
				fired++
			}
		default:
			x := api.Timer{At: now + 1 + int64(random.Intn(100)), Peer: peer, Kind: kind}
			l = Set(l, x)
			want[purpose{peer, kind}] = x.At
		}
		if !Valid(l) || len(l) != len(want) {
			t.Fatalf("step %d: %v", step, l)
		}
		for _, x := range l {
			if x.At <= now || x.At != want[purpose{x.Peer, x.Kind}] || !Has(l, x.Peer, x.Kind) {
				t.Fatalf("step %d: %v at %d", step, x, now)
			}
		}
	}
	if fired < 2000 {
		t.Errorf("%d timers were due", fired)
	}
}

// P17.4: timers that are set in any order give one list.
func TestSetOrders(t *testing.T) {
	random := rand.New(rand.NewSource(171717))
	want := row(40)
	for range 500 {
		var l []api.Timer
		for _, i := range random.Perm(len(want)) {
			l = Set(l, want[i])
			if !Valid(l) {
				t.Fatal(l)
			}
		}
		if !slices.Equal(l, want) {
			t.Fatal(l)
		}
	}
}

// wholeOf returns a list with all that its memory has room for.
func wholeOf(l []api.Timer) []api.Timer {
	return l[:cap(l)]
}

// R3: nothing changes the list or the memory behind it, and no result shares memory with it or with another result.
func TestMemory(t *testing.T) {
	for count := range 41 {
		l := slices.Grow(row(count), 8)
		spare := wholeOf(l)
		for i := len(l); i < len(spare); i++ {
			spare[i] = api.Timer{At: 99, Peer: keyB, Kind: 3}
		}
		kept := slices.Clone(spare)
		results := func() [][]api.Timer {
			ahead := Set(l, api.Timer{At: 1, Peer: keyC, Kind: 1})
			same := Set(l, api.Timer{At: 10, Kind: 1})
			behind := Set(l, api.Timer{At: 1000, Peer: keyA, Kind: 2})
			return [][]api.Timer{ahead, same, behind, Cancel(l, api.Key{}, 1), Cancel(l, keyA, 5), Cancel(l, keyC, 1), CancelPeer(l, keyA), CancelPeer(l, keyC)}
		}
		first, second, want := results(), results(), results()
		for _, result := range first {
			clear(wholeOf(result))
		}
		Has(l, keyA, 3)
		Due(l, 12)
		Valid(l)
		if !slices.Equal(spare, kept) {
			t.Fatalf("%v has become %v", kept, spare)
		}
		clear(spare)
		for i := range second {
			if !slices.Equal(second[i], want[i]) {
				t.Errorf("result %d has become %v", i, second[i])
			}
		}
	}
}

// R5: a nil list is as good as an empty one.
func TestNoTimers(t *testing.T) {
	for _, l := range [][]api.Timer{nil, {}} {
		if !Valid(l) {
			t.Error("a list without timers is not valid")
		}
		for _, at := range someTimes {
			x := api.Timer{At: at, Peer: keyB, Kind: 2}
			if got := Set(l, x); !slices.Equal(got, []api.Timer{x}) {
				t.Errorf("Set %v: %v", x, got)
			}
			if got, ok := Due(l, at); ok || got != (api.Timer{}) {
				t.Errorf("Due %d: %v, %t", at, got, ok)
			}
		}
		if x, y := Cancel(l, keyA, 1), CancelPeer(l, api.Key{}); len(x) > 0 || len(y) > 0 || Has(l, api.Key{}, 0) {
			t.Errorf("%v, %v", x, y)
		}
	}
}

// R1: a list that is much longer than any that a daemon has, where the last timer decides.
func TestLongList(t *testing.T) {
	var l []api.Timer
	for i := range 1 << 17 {
		l = append(l, api.Timer{At: int64(i), Peer: api.Key{byte(i), byte(i >> 8), byte(i >> 16)}, Kind: 1 + i%5})
	}
	last := l[len(l)-1]
	if !Valid(l) || Valid(append(slices.Clone(l), api.Timer{At: 1 << 40, Peer: l[0].Peer, Kind: l[0].Kind})) || Valid(append(slices.Clone(l), last)) {
		t.Error("Valid")
	}
	if x := Cancel(l, last.Peer, last.Kind); !slices.Equal(x, l[:len(l)-1]) {
		t.Error("Cancel of the last timer:", len(x))
	}
	if x := CancelPeer(l, last.Peer); !slices.Equal(x, l[:len(l)-1]) {
		t.Error("CancelPeer of the last timer:", len(x))
	}
	if x := Set(l, api.Timer{At: -1, Peer: last.Peer, Kind: last.Kind}); len(x) != len(l) || x[0].At != -1 || !slices.Equal(x[1:], l[:len(l)-1]) {
		t.Error("Set of the last timer:", len(x))
	}
	if !Has(l, last.Peer, last.Kind) || Has(l, last.Peer, last.Kind%5+1) {
		t.Error("Has of the last timer")
	}
	slices.Reverse(l)
	if x, ok := Due(l, 0); !ok || x.At != 0 {
		t.Error("Due:", x, ok)
	}
}
