package index

import (
	"math/rand"
	"slices"
	"testing"

	"burrow/api"
)

const top = 1<<32 - 1

var (
	keyA = api.Key{1}
	keyB = api.Key{2}
	keyC = api.Key{31: 3}
)

// slotsOf returns slots with these indices, every other one of which is that of a session, with different peers.
func slotsOf(indices ...uint32) []api.Slot {
	var l []api.Slot
	for i, index := range indices {
		l = append(l, api.Slot{Index: index, Peer: api.Key{byte(i), 1}, Session: i%2 == 1})
	}
	return l
}

// indicesOf returns the indices of slots.
func indicesOf(l []api.Slot) []uint32 {
	var indices []uint32
	for _, s := range l {
		indices = append(indices, s.Index)
	}
	return indices
}

// row returns so many slots with the indices from the first one on.
func row(start uint32, count int) []api.Slot {
	var l []api.Slot
	for i := range count {
		l = append(l, api.Slot{Index: start + uint32(i), Peer: api.Key{byte(i)}, Session: i%3 == 0})
	}
	return l
}

// plainValid follows P15.1 word for word.
func plainValid(l []api.Slot) bool {
	for i, s := range l {
		for _, later := range l[i+1:] {
			if s.Index >= later.Index {
				return false
			}
		}
		if s.Index == 0 {
			return false
		}
	}
	return len(l) <= 32
}

// plainFree follows P15.2 word for word.
func plainFree(l []api.Slot, wish uint32) uint32 {
	for _, start := range []uint64{max(uint64(wish), 1), 1} {
		for n := start; n <= top; n++ {
			if !slices.Contains(indicesOf(l), uint32(n)) {
				return uint32(n)
			}
		}
	}
	panic("no index is free")
}

// plainTake follows P15.2 word for word.
func plainTake(l []api.Slot, wish uint32, peer api.Key, session bool) ([]api.Slot, uint32, api.Errno) {
	if len(l) >= 32 {
		return nil, 0, api.ErrLimit
	}
	slot := api.Slot{Index: plainFree(l, wish), Peer: peer, Session: session}
	var result []api.Slot
	done := false
	for _, s := range l {
		if s.Index > slot.Index && !done {
			result, done = append(result, slot), true
		}
		result = append(result, s)
	}
	if !done {
		result = append(result, slot)
	}
	return result, slot.Index, api.OK
}

// plainDrop follows P15.3 word for word.
func plainDrop(l []api.Slot, index uint32) []api.Slot {
	var result []api.Slot
	for _, s := range l {
		if s.Index != index {
			result = append(result, s)
		}
	}
	return result
}

// plainFind follows P15.3 word for word.
func plainFind(l []api.Slot, index uint32) (api.Slot, bool) {
	at := slices.Index(indicesOf(l), index)
	if at < 0 {
		return api.Slot{}, false
	}
	return l[at], true
}

// plainPromote follows P15.3 word for word.
func plainPromote(l []api.Slot, index uint32) []api.Slot {
	var result []api.Slot
	for _, s := range l {
		result = append(result, api.Slot{Index: s.Index, Peer: s.Peer, Session: s.Session || s.Index == index})
	}
	return result
}

// checkValid compares Valid with the plain version.
func checkValid(t *testing.T, l []api.Slot) bool {
	t.Helper()
	got, want := Valid(l), plainValid(l)
	if got != want {
		t.Errorf("Valid(%v) is %t", l, got)
	}
	return want
}

// checkTake compares Take with the plain version, and its result with P15.4.
func checkTake(t *testing.T, l []api.Slot, wish uint32, peer api.Key, session bool) api.Errno {
	t.Helper()
	got, index, err := Take(l, wish, peer, session)
	want, wantIndex, wantErr := plainTake(l, wish, peer, session)
	if !slices.Equal(got, want) || index != wantIndex || err != wantErr {
		t.Errorf("Take(%v, %d) is %v, %d, %d, not %v, %d, %d", l, wish, got, index, err, want, wantIndex, wantErr)
	}
	if err != api.OK {
		return err
	}
	if s, ok := Find(got, index); !ok || s != (api.Slot{Index: index, Peer: peer, Session: session}) {
		t.Errorf("Take(%v, %d): the slot %d is %v, %t", l, wish, index, s, ok)
	}
	if s, ok := Find(l, index); ok {
		t.Errorf("Take(%v, %d): the index %d was that of %v", l, wish, index, s)
	}
	if plainValid(l) && !Valid(got) {
		t.Errorf("Take(%v, %d) is %v, which is not valid", l, wish, got)
	}
	if !slices.Equal(Drop(got, index), l) {
		t.Errorf("Take(%v, %d) and Drop of %d: %v", l, wish, index, Drop(got, index))
	}
	return err
}

// checkIndex compares what is done to a list with an index with the plain versions.
func checkIndex(t *testing.T, l []api.Slot, index uint32) bool {
	t.Helper()
	if got, want := Drop(l, index), plainDrop(l, index); !slices.Equal(got, want) {
		t.Errorf("Drop(%v, %d) is %v, not %v", l, index, got, want)
	}
	if got, want := Promote(l, index), plainPromote(l, index); !slices.Equal(got, want) {
		t.Errorf("Promote(%v, %d) is %v, not %v", l, index, got, want)
	}
	if plainValid(l) && (!Valid(Drop(l, index)) || !Valid(Promote(l, index))) {
		t.Errorf("%v, %d: the results for a valid list are not valid", l, index)
	}
	if s, ok := Find(Drop(l, index), index); ok || s != (api.Slot{}) {
		t.Errorf("Drop(%v, %d) has %v", l, index, s)
	}
	got, ok := Find(l, index)
	want, wantOK := plainFind(l, index)
	if got != want || ok != wantOK {
		t.Errorf("Find(%v, %d) is %v, %t, not %v, %t", l, index, got, ok, want, wantOK)
	}
	return wantOK
}

// wantTake takes an index and returns the list with it.
func wantTake(t *testing.T, l []api.Slot, wish, want uint32) []api.Slot {
	t.Helper()
	got, index, err := Take(l, wish, keyC, true)
	if err != api.OK || index != want || len(got) != len(l)+1 || !slices.Contains(got, api.Slot{Index: want, Peer: keyC, Session: true}) {
		t.Errorf("Take(%v, %d) is %v, %d, %d", l, wish, got, index, err)
	}
	return got
}

// The example of the chapter.
func TestExample(t *testing.T) {
	l := slotsOf(5, 6)
	l = wantTake(t, l, 5, 7)
	l = wantTake(t, l, top, top)
	l = wantTake(t, l, top, 1)
	if want := []uint32{1, 5, 6, 7, top}; !slices.Equal(indicesOf(l), want) {
		t.Error(l)
	}
}

// P15.1: the order of indices that differ in one bit or lie at the ends, and the index 0.
func TestValidOrder(t *testing.T) {
	indices := []uint32{0, 1, 2, 3, 255, 256, 1<<31 - 1, 1 << 31, 1<<31 + 1, top - 1, top}
	for bit := range 32 {
		indices = append(indices, 1<<bit)
	}
	for _, n := range indices {
		if got := Valid(slotsOf(n)); got != (n > 0) {
			t.Errorf("the index %d alone: %t", n, got)
		}
		for _, m := range indices {
			if got, want := Valid(slotsOf(n, m)), 0 < n && n < m; got != want {
				t.Errorf("%d and %d: %t", n, m, got)
			}
			checkValid(t, slotsOf(1, n, m))
			checkValid(t, slotsOf(n, m, top))
		}
	}
}

// P15.1: an index that is equal to the one ahead of it, less than it, or 0, at each place of a full list.
func TestValidPlaces(t *testing.T) {
	full := row(3, 32)
	for i := range full {
		for _, index := range []uint32{0, 1, uint32(i) + 2, uint32(i) + 4, top} {
			l := slices.Clone(full)
			l[i].Index = index
			want := i == 0 && (index == 1 || index == 2) || i == 31 && index >= 34
			if Valid(l) != want {
				t.Errorf("%d at place %d: %t", index, i, !want)
			}
		}
	}
}

// P15.1: how many slots a list may have.
func TestValidNumber(t *testing.T) {
	l := row(1, 100)
	// The beginnings of the long list have room for more, which does not count.
	for i := range len(l) + 1 {
		if got, want := Valid(l[:i]), i <= 32; got != want {
			t.Errorf("%d slots: %t", i, got)
		}
	}
}

// P15.1: peers and sessions, whatever they are, do not matter.
func TestValidPeers(t *testing.T) {
	for _, peers := range [][2]api.Key{{keyA, keyA}, {keyB, keyA}, {keyA, keyB}, {}} {
		for kinds := range 4 {
			l := []api.Slot{{Index: 4, Peer: peers[0], Session: kinds&1 > 0}, {Index: 5, Peer: peers[1], Session: kinds&2 > 0}}
			if !Valid(l) || Valid([]api.Slot{l[1], l[0]}) {
				t.Errorf("%v", l)
			}
		}
	}
}

// P15.2: wishes that are free, taken, 0 and at the ends.
func TestTakeWish(t *testing.T) {
	tests := []struct {
		slots      []uint32
		wish, want uint32
	}{
		{nil, 0, 1}, {nil, 1, 1}, {nil, 2, 2}, {nil, 1 << 31, 1 << 31}, {nil, top, top},
		{[]uint32{1}, 0, 2}, {[]uint32{1}, 1, 2}, {[]uint32{2}, 0, 1}, {[]uint32{2}, 1, 1}, {[]uint32{2}, 2, 3},
		{[]uint32{1, 2, 4}, 0, 3}, {[]uint32{1, 2, 4}, 2, 3}, {[]uint32{1, 2, 4}, 4, 5},
		{[]uint32{1<<31 - 1, 1 << 31}, 1<<31 - 1, 1<<31 + 1}, {[]uint32{255}, 255, 256}, {[]uint32{1<<16 - 1}, 1<<16 - 1, 1 << 16},
		{[]uint32{top}, top, 1}, {[]uint32{top}, top - 1, top - 1}, {[]uint32{top - 1}, top - 1, top}, {[]uint32{top - 1, top}, top - 1, 1},
		{[]uint32{1, top}, top, 2}, {[]uint32{1, 2, 3, 5, top - 1, top}, top - 1, 4}, {[]uint32{2, top}, top, 1}, {[]uint32{1, 3, top - 2, top}, top - 2, top - 1},
		// lists that are not in order, and with an index several times
		{[]uint32{7, 6, 5}, 5, 8}, {[]uint32{5, 7, 5}, 5, 6}, {[]uint32{0, 0}, 0, 1}, {[]uint32{top, 2, 1}, top, 3},
	}
	for _, test := range tests {
		l := slotsOf(test.slots...)
		wantTake(t, l, test.wish, test.want)
		for _, session := range []bool{false, true} {
			checkTake(t, l, test.wish, keyA, session)
			checkTake(t, l, test.wish, api.Key{}, session)
		}
	}
}

// P15.2: a row of indices of each length that is taken ahead of the free one, also across the end.
func TestTakeRows(t *testing.T) {
	for count := range 32 {
		for _, start := range []uint32{1, 2, 100, 1<<31 - 16, top - 31} {
			l := row(start, count)
			wantTake(t, l, start, start+uint32(count))
			for i := range count {
				wantTake(t, l, start+uint32(i), start+uint32(count))
			}
		}
		for ahead := range count + 1 {
			l := slices.Concat(row(1, count-ahead), row(uint32(1<<32-ahead), ahead))
			if ahead > 0 {
				wantTake(t, l, uint32(1<<32-ahead), uint32(count-ahead+1))
			}
			checkTake(t, l, top, keyB, false)
			checkTake(t, l, 0, keyB, true)
		}
	}
}

// P15.2: a new slot at each place of a list, with all of its parts.
func TestTakePlaces(t *testing.T) {
	for i := range 32 {
		want := row(10, 32)
		s := want[i]
		l := slices.Delete(slices.Clone(want), i, i+1)
		if got, index, err := Take(l, s.Index, s.Peer, s.Session); err != api.OK || index != s.Index || !slices.Equal(got, want) {
			t.Errorf("place %d: %v, %d, %d", i, got, index, err)
		}
	}
}

// P15.2: the place in a list that is not in order is ahead of the first slot with a greater index.
func TestTakeAnyOrder(t *testing.T) {
	l := slotsOf(20, 10, 30, 10, 0, 40)
	for wish, place := range map[uint32]int{0: 0, 9: 0, 10: 0, 19: 0, 20: 2, 29: 2, 30: 5, 39: 5, 40: 6, 41: 6, top: 6} {
		index := wish
		if wish == 0 || slices.Contains(indicesOf(l), wish) {
			index++
		}
		want := slices.Insert(slices.Clone(l), place, api.Slot{Index: index, Peer: keyB, Session: true})
		if got, n, err := Take(l, wish, keyB, true); err != api.OK || n != index || !slices.Equal(got, want) {
			t.Errorf("the wish %d: %v, %d, %d", wish, got, n, err)
		}
	}
}

// P15.2: the limit, which slots that are not valid count for too.
func TestTakeLimit(t *testing.T) {
	long := row(10, 40)
	for _, wish := range []uint32{0, 1, 10, 20, 100, top} {
		for count := range len(long) + 1 {
			for _, l := range [][]api.Slot{long[:count], make([]api.Slot, count)} {
				got, index, err := Take(l, wish, keyC, true)
				if count < 32 && (err != api.OK || len(got) != count+1 || index == 0) || count >= 32 && (err != api.ErrLimit || len(got) != 0 || index != 0) {
					t.Errorf("%d slots, the wish %d: %v, %d, %d", count, wish, got, index, err)
				}
			}
		}
	}
}

// P15.2 and P15.4: a table that is filled with one wish has all numbers from it on, also across the end.
func TestFill(t *testing.T) {
	for _, wish := range []uint32{0, 1, 5, 1 << 20, top - 31, top - 30, top - 10, top} {
		var l []api.Slot
		for i := range uint32(32) {
			want := max(wish, 1) + i
			if want < wish || want == 0 {
				want++ // behind the end, where 0 is left out
			}
			l = wantTake(t, l, wish, want)
		}
		if !Valid(l) {
			t.Errorf("the wish %d: %v", wish, l)
		}
		checkTake(t, l, wish, keyA, false)
		for _, s := range l {
			wantTake(t, Drop(l, s.Index), wish, s.Index)
		}
	}
}

// P15.3: each slot of a full list, and indices beside all of them.
func TestEachSlot(t *testing.T) {
	full := row(10, 32)
	for i, s := range full {
		if got, ok := Find(full, s.Index); !ok || got != s {
			t.Errorf("Find %d: %v, %t", s.Index, got, ok)
		}
		if got, want := Drop(full, s.Index), slices.Concat(full[:i], full[i+1:]); !slices.Equal(got, want) {
			t.Errorf("Drop %d: %v", s.Index, got)
		}
		want := slices.Clone(full)
		want[i].Session = true
		if got := Promote(full, s.Index); !slices.Equal(got, want) {
			t.Errorf("Promote %d: %v", s.Index, got)
		}
	}
	for _, index := range []uint32{0, 1, 9, 42, 1<<8 + 10, 1<<16 + 10, 1<<31 + 10, top} {
		if got, ok := Find(full, index); ok || got != (api.Slot{}) {
			t.Errorf("Find %d: %v, %t", index, got, ok)
		}
		if dropped, promoted := Drop(full, index), Promote(full, index); !slices.Equal(dropped, full) || !slices.Equal(promoted, full) {
			t.Errorf("%d: %v, %v", index, dropped, promoted)
		}
	}
}

// P15.3: all slots with an index are dropped and promoted, the first one is found; 0 is an index like others.
func TestSeveralSlots(t *testing.T) {
	l := []api.Slot{
		{Index: 9, Peer: keyA}, {Index: 0, Peer: keyB}, {Index: 9, Peer: keyB, Session: true},
		{Index: 3, Peer: keyA}, {Index: 9, Peer: keyC}, {Index: 0, Session: true}, {Index: 9},
	}
	tests := []struct {
		index  uint32
		places []int
	}{{9, []int{0, 2, 4, 6}}, {0, []int{1, 5}}, {3, []int{3}}, {4, nil}}
	for _, test := range tests {
		promoted := slices.Clone(l)
		left := slices.Clone(l)
		for n, place := range test.places {
			promoted[place].Session = true
			left = slices.Delete(left, place-n, place-n+1)
		}
		if got := Drop(l, test.index); !slices.Equal(got, left) {
			t.Errorf("Drop %d: %v", test.index, got)
		}
		if got := Promote(l, test.index); !slices.Equal(got, promoted) {
			t.Errorf("Promote %d: %v", test.index, got)
		}
		got, ok := Find(l, test.index)
		if want := len(test.places) > 0; ok != want || ok && got != l[test.places[0]] || !ok && got != (api.Slot{}) {
			t.Errorf("Find %d: %v, %t", test.index, got, ok)
		}
	}
}

// P15.1 to P15.4: all lists of up to four slots with few indices, and all wishes around them.
func TestAllShortLists(t *testing.T) {
	indices := []uint32{0, 1, 2, 3, 1 << 31, top - 1, top}
	others := []uint32{4, 1<<31 - 1, 1<<31 + 1, top - 2}
	var look func(l []api.Slot)
	look = func(l []api.Slot) {
		checkValid(t, l)
		for _, index := range slices.Concat(indices, others) {
			checkTake(t, l, index, keyC, len(l)%2 == 0)
			checkIndex(t, l, index)
		}
		if len(l) == 4 {
			return
		}
		for _, index := range indices {
			look(append(slices.Clone(l), api.Slot{Index: index, Peer: api.Key{byte(len(l))}, Session: len(l) == 1}))
		}
	}
	look(nil)
}

// someIndex returns an index of few or of many, often one near the ends.
func someIndex(random *rand.Rand) uint32 {
	switch random.Intn(4) {
	case 0:
		return uint32(random.Intn(40))
	case 1:
		return top - uint32(random.Intn(40))
	case 2:
		return 1<<31 - 20 + uint32(random.Intn(40))
	}
	return random.Uint32()
}

// P15.1 to P15.4: random lists, some of which are in order, and some too long.
func TestRandomLists(t *testing.T) {
	random := rand.New(rand.NewSource(15))
	errors, found, valid := map[api.Errno]int{}, 0, 0
	for range 4000 {
		var l []api.Slot
		for range random.Intn(40) {
			l = append(l, api.Slot{Index: someIndex(random), Peer: api.Key{byte(random.Intn(4))}, Session: random.Intn(2) == 0})
		}
		if random.Intn(2) == 0 {
			slices.SortFunc(l, func(s, r api.Slot) int { return int(s.Index) - int(r.Index) })
			l = slices.CompactFunc(l, func(s, r api.Slot) bool { return s.Index == r.Index })
		}
		if checkValid(t, l) {
			valid++
		}
		for range 10 {
			index := someIndex(random)
			if len(l) > 0 && random.Intn(3) == 0 {
				index = l[random.Intn(len(l))].Index
			}
			errors[checkTake(t, l, index, api.Key{byte(random.Intn(4))}, random.Intn(2) == 0)]++
			if checkIndex(t, l, index) {
				found++
			}
		}
	}
	if errors[api.OK] < 10000 || errors[api.ErrLimit] < 1000 || found < 5000 || found > 35000 || valid < 1000 || valid > 3000 {
		t.Error(errors, found, valid)
	}
}

// P15.4: a table that is used for long stays valid and has exactly what was taken and not dropped.
func TestLongRun(t *testing.T) {
	random := rand.New(rand.NewSource(1515))
	var l []api.Slot
	want := map[uint32]api.Slot{}
	limits := 0
	for step := range 20000 {
		index := someIndex(random)
		if len(l) > 0 && random.Intn(2) == 0 {
			index = l[random.Intn(len(l))].Index
		}
		switch s := want[index]; random.Intn(5) {
		case 0:
			l = Drop(l, index)
			delete(want, index)
		case 1:
			l = Promote(l, index)
			if s.Index > 0 {
				s.Session = true
				want[index] = s
			}
		default:
			peer := api.Key{byte(step), byte(step >> 8)}
			next, n, err := Take(l, index, peer, false)
			if err != api.OK {
				limits++
				break
			}
			if _, taken := want[n]; taken {
				t.Fatalf("step %d: %d has a slot", step, n)
			}
			l = next
			want[n] = api.Slot{Index: n, Peer: peer}
		}
		if !Valid(l) || len(l) != len(want) {
			t.Fatalf("step %d: %v", step, l)
		}
		for _, s := range l {
			if got, ok := Find(l, s.Index); !ok || got != s || want[s.Index] != s {
				t.Fatalf("step %d: %v, not %v", step, got, want[s.Index])
			}
		}
	}
	if limits < 1000 || limits > 10000 {
		t.Errorf("the limit was reached %d times", limits)
	}
}

// wholeOf returns a list with all that its memory has room for.
func wholeOf(l []api.Slot) []api.Slot {
	return l[:cap(l)]
}

// R3: nothing changes the list or the memory behind it, and no result shares memory with it or with another result.
func TestMemory(t *testing.T) {
	for count := range 33 {
		l := slices.Grow(row(10, count), 8)
		spare := wholeOf(l)
		for i := len(l); i < len(spare); i++ {
			spare[i] = api.Slot{Index: 99, Peer: keyB}
		}
		kept := slices.Clone(spare)
		results := func() [][]api.Slot {
			ahead, _, _ := Take(l, 1, keyC, true)
			inside, _, _ := Take(l, 10, keyC, false)
			behind, _, _ := Take(l, 99, keyC, true)
			return [][]api.Slot{ahead, inside, behind, Drop(l, 10), Drop(l, uint32(9+count)), Drop(l, 7), Promote(l, 11), Promote(l, 7)}
		}
		first, second, want := results(), results(), results()
		for _, result := range first {
			clear(wholeOf(result))
		}
		Find(l, 11)
		Valid(l)
		if !slices.Equal(spare, kept) {
			t.Fatalf("%v has become %v", kept, spare)
		}
		clear(spare)
		for i := range second {
			if !slices.Equal(second[i], want[i]) {
				t.Errorf("result %d has become %v", i, second[i])
			}
		}
	}
}

// R5: a nil list is as good as an empty one.
func TestNoSlots(t *testing.T) {
	for _, l := range [][]api.Slot{nil, {}} {
		if !Valid(l) {
			t.Error("a list without slots is not valid")
		}
		for _, index := range []uint32{0, 1, top} {
			checkTake(t, l, index, keyA, true)
			if checkIndex(t, l, index) {
				t.Errorf("%d is found", index)
			}
		}
	}
}

// R1: a list that is much too long.
func TestLongList(t *testing.T) {
	l := row(1, 1<<17)
	last := l[len(l)-1]
	if Valid(l) {
		t.Error("the list is valid")
	}
	if x, n, err := Take(l, 1, keyC, true); err != api.ErrLimit || n != 0 || len(x) != 0 {
		t.Error("Take:", len(x), n, err)
	}
	if x := Drop(l, last.Index); !slices.Equal(x, l[:len(l)-1]) {
		t.Error("Drop of the last slot:", len(x))
	}
	if s, ok := Find(l, last.Index); !ok || s != last {
		t.Error("Find of the last slot:", s, ok)
	}
	if x := Promote(l, last.Index); !slices.Equal(x[:len(l)-1], l[:len(l)-1]) || !x[len(l)-1].Session {
		t.Error("Promote of the last slot:", len(x))
	}
}
