package stage

import (
	"bytes"
	"math"
	"math/rand"
	"slices"
	"strconv"
	"testing"

	"burrow/api"
)

// someCapacities are capacities at the ends of all numbers and of those that fit into fewer bits, and small ones.
var someCapacities = []int{
	math.MinInt, math.MinInt + 1, -1 << 33, -1<<32 - 1, -1 << 32, 1 - 1<<32, -1 << 31, -257, -256, -255, -2, -1,
	0, 1, 2, 3, 4, 5, 6, 7, api.MaxStage, 9, 255, 256, 257, 1<<31 - 1, 1 << 31, 1<<32 - 1, 1 << 32, 1<<32 + 1, 1 << 33, math.MaxInt - 1, math.MaxInt,
}

// numbered returns a packet that shows its number.
func numbered(i int) []byte {
	return []byte("packet " + strconv.Itoa(i))
}

// row returns packets that show the numbers ahead of count.
func row(count int) [][]byte {
	var l [][]byte
	for i := range count {
		l = append(l, numbered(i))
	}
	return l
}

// equal reports whether two lists have the same packets; a nil packet is as good as an empty one.
func equal(a, b [][]byte) bool {
	return slices.EqualFunc(a, b, bytes.Equal)
}

// clone returns a list that shares no memory with l.
func clone(l [][]byte) [][]byte {
	var result [][]byte
	for _, packet := range l {
		result = append(result, bytes.Clone(packet))
	}
	return result
}

// plainPush follows P18.1 word for word.
func plainPush(l [][]byte, capacity int, packet []byte) ([][]byte, int) {
	var kept [][]byte
	out := 0
	for i := len(l); i >= 0; i-- {
		next := packet
		if i < len(l) {
			next = l[i]
		}
		if len(kept) < capacity {
			kept = append([][]byte{next}, kept...)
		} else {
			out++
		}
	}
	return kept, out
}

// plainSize follows P18.1 word for word.
func plainSize(l [][]byte) int {
	sum := 0
	for _, packet := range l {
		for range packet {
			sum++
		}
	}
	return sum
}

// checkPush compares Push with the plain version, and its result with P18.2; it returns the list.
func checkPush(t *testing.T, l [][]byte, capacity int, packet []byte) [][]byte {
	t.Helper()
	kept, keptPacket := clone(l), bytes.Clone(packet)
	got, out := Push(l, capacity, packet)
	want, wantOut := plainPush(l, capacity, packet)
	if !equal(got, want) || out != wantOut {
		t.Errorf("Push(%q, %d, %q) is %q, %d, not %q, %d", l, capacity, packet, got, out, want, wantOut)
	}
	if out+len(got) != len(l)+1 || len(got) > max(0, capacity) || out > 0 && len(got) < capacity {
		t.Errorf("Push(%q, %d, %q) leaves out %d and keeps %d", l, capacity, packet, out, len(got))
	}
	if !equal(l, kept) || !bytes.Equal(packet, keptPacket) {
		t.Errorf("Push has made %q, %q of %q, %q", l, packet, kept, keptPacket)
	}
	return got
}

// checkPop compares Pop with P18.1; it returns what Pop returns.
func checkPop(t *testing.T, l [][]byte) ([]byte, [][]byte) {
	t.Helper()
	kept := clone(l)
	packet, others, ok := Pop(l)
	if ok != (len(l) > 0) {
		t.Errorf("Pop(%q): %t", l, ok)
	}
	if ok && (!bytes.Equal(packet, l[0]) || !equal(others, l[1:])) {
		t.Errorf("Pop(%q) is %q, %q", l, packet, others)
	}
	if !ok && (len(packet) > 0 || len(others) > 0) {
		t.Errorf("Pop(%q) is %q, %q beside false", l, packet, others)
	}
	if !equal(l, kept) {
		t.Errorf("Pop has made %q of %q", l, kept)
	}
	return packet, others
}

// checkSize compares Size with the plain version.
func checkSize(t *testing.T, l [][]byte) {
	t.Helper()
	kept := clone(l)
	if got, want := Size(l), plainSize(l); got != want {
		t.Errorf("Size(%q) is %d, not %d", l, got, want)
	}
	if !equal(l, kept) {
		t.Errorf("Size has made %q of %q", l, kept)
	}
}

// The example of the chapter.
func TestExample(t *testing.T) {
	a, b, c := []byte("a"), []byte("b"), []byte("c")
	if l, out := Push([][]byte{a, b}, 2, c); !equal(l, [][]byte{b, c}) || out != 1 {
		t.Errorf("%q, %d", l, out)
	}
}

// P18.1: each number of packets with each capacity around it, and far ones.
func TestPushCapacities(t *testing.T) {
	for count := range 33 {
		l := row(count)
		for capacity := -3; capacity < 40; capacity++ {
			checkPush(t, l, capacity, numbered(count))
		}
		for _, capacity := range someCapacities {
			checkPush(t, l, capacity, numbered(count))
		}
	}
}

// P18.1: what is kept, written out.
func TestPushNumbers(t *testing.T) {
	for _, c := range []struct{ count, capacity, first, out int }{
		{0, 1, 0, 0}, {0, 0, 1, 1}, {0, -1, 1, 1}, {0, 8, 0, 0},
		{1, 1, 1, 1}, {1, 2, 0, 0}, {1, 0, 2, 2}, {1, math.MinInt, 2, 2}, {1, math.MaxInt, 0, 0},
		{7, 8, 0, 0}, {8, 8, 1, 1}, {9, 8, 2, 2}, {20, 8, 13, 13}, {20, 1, 20, 20}, {20, 0, 21, 21}, {20, -7, 21, 21}, {20, 20, 1, 1}, {20, 21, 0, 0},
	} {
		l, out := Push(row(c.count), c.capacity, numbered(c.count))
		if !equal(l, row(c.count + 1)[c.first:]) || out != c.out {
			t.Errorf("%v: %q, %d", c, l, out)
		}
	}
}

// P18.1: a capacity less than 1 keeps none, not even the new packet.
func TestPushNoCapacity(t *testing.T) {
	for _, capacity := range someCapacities {
		if capacity >= 1 {
			continue
		}
		for _, count := range []int{0, 1, 2, 8, 100} {
			for _, packet := range [][]byte{nil, {}, {1}, numbered(count)} {
				if l, out := Push(row(count), capacity, packet); len(l) > 0 || out != count+1 {
					t.Errorf("%d packets and %q, the capacity %d: %q, %d", count, packet, capacity, l, out)
				}
			}
		}
	}
}

// somePackets are packets that may be taken for others: empty ones, and those that begin or end alike.
var somePackets = [][]byte{nil, {}, {0}, {0, 0}, {'a'}, {'a', 0}, {0, 'a'}, {255}}

// P18.1: all lists of up to three packets, with each packet and small capacities.
func TestAllShortLists(t *testing.T) {
	lists := [][][]byte{nil}
	for n := 0; n < len(lists); n++ {
		l := lists[n]
		checkSize(t, l)
		checkPop(t, l)
		for _, packet := range somePackets {
			for capacity := -1; capacity <= 5; capacity++ {
				checkPush(t, l, capacity, packet)
			}
			if len(l) < 3 {
				lists = append(lists, append(slices.Clone(l), packet))
			}
		}
	}
	if len(lists) != 1+8+64+512 {
		t.Error(len(lists))
	}
}

// patterned returns a packet of a length in which neighbouring bytes differ.
func patterned(length, first int) []byte {
	packet := make([]byte, length)
	for i := range packet {
		packet[i] = byte(first + i*7 + i>>8)
	}
	return packet
}

// P18.1: packets of each length to beyond MaxPlain, as the new one, as the first one and as one of the others.
func TestLengths(t *testing.T) {
	for length := range api.MaxPlain + 500 {
		packet, other := patterned(length, 1), patterned(length, 100)
		l, out := Push([][]byte{other, packet}, 2, other)
		if !equal(l, [][]byte{packet, other}) || out != 1 {
			t.Fatalf("Push of %d bytes: %d packets, %d", length, len(l), out)
		}
		first, others, ok := Pop([][]byte{packet, other})
		if !ok || !bytes.Equal(first, packet) || !equal(others, [][]byte{other}) {
			t.Fatalf("Pop of %d bytes: %d bytes, %d packets, %t", length, len(first), len(others), ok)
		}
		if size := Size([][]byte{packet}); size != length {
			t.Fatalf("Size of %d bytes: %d", length, size)
		}
		if size := Size([][]byte{{1}, packet, nil, other}); size != 2*length+1 {
			t.Fatalf("Size of %d bytes twice and 1: %d", length, size)
		}
	}
}

// P18.1: each byte comes back, at each place of a short packet.
func TestBytes(t *testing.T) {
	for value := range 256 {
		for place := range 20 {
			packet := patterned(20, 3)
			packet[place] = byte(value)
			l := checkPush(t, [][]byte{packet}, 3, packet)
			first, others := checkPop(t, l)
			if !bytes.Equal(first, packet) || !equal(others, [][]byte{packet}) {
				t.Errorf("%x: %x, %x", packet, first, others)
			}
		}
	}
}

// P18.1: Pop takes the packets one by one, to the last one and behind it.
func TestPop(t *testing.T) {
	for count := range 40 {
		l := row(count)
		for i := range count {
			packet, others, ok := Pop(l)
			if !ok || !bytes.Equal(packet, numbered(i)) || !equal(others, row(count)[i+1:]) {
				t.Fatalf("%d of %d: %q, %q, %t", i, count, packet, others, ok)
			}
			l = others
		}
		if packet, others, ok := Pop(l); ok || len(packet) > 0 || len(others) > 0 {
			t.Fatalf("behind %d: %q, %q, %t", count, packet, others, ok)
		}
	}
}

// P18.1: an empty packet is a packet; it is there, and true is beside it.
func TestEmptyPackets(t *testing.T) {
	for _, empty := range [][]byte{nil, {}} {
		var l [][]byte
		for i := range 10 {
			next, out := Push(l, 6, empty)
			if want := min(i+1, 6); len(next) != want || out != len(l)+1-want {
				t.Fatalf("%d: %d packets, %d", i, len(next), out)
			}
			l = next
			if Size(l) != 0 {
				t.Errorf("the size of %d empty packets: %d", len(l), Size(l))
			}
		}
		for left := 5; left >= 0; left-- {
			packet, others, ok := Pop(l)
			if !ok || len(packet) != 0 || len(others) != left {
				t.Fatalf("%d are left: %q, %q, %t", left, packet, others, ok)
			}
			l = others
		}
		if _, _, ok := Pop(l); ok {
			t.Error("there is none, and Pop returns true")
		}
	}
}

// R5: a nil list is as good as an empty one.
func TestNoPackets(t *testing.T) {
	for _, l := range [][][]byte{nil, {}, row(3)[3:], row(3)[:0]} {
		checkPop(t, l)
		if size := Size(l); size != 0 {
			t.Errorf("Size: %d", size)
		}
		for _, capacity := range someCapacities {
			got, out := Push(l, capacity, []byte("x"))
			if want := capacity >= 1; want && (!equal(got, [][]byte{[]byte("x")}) || out != 0) || !want && (len(got) > 0 || out != 1) {
				t.Errorf("Push with the capacity %d: %q, %d", capacity, got, out)
			}
		}
	}
}

// P18.1: sums of lengths, also greater than what 8, 16 or 24 bits hold, and up to the bound of R9.
func TestSize(t *testing.T) {
	for count := range 101 {
		l := row(count)
		// "packet 7" has 8 bytes, "packet 10" has 9.
		if want := 8*count + max(0, count-10); Size(l) != want {
			t.Errorf("%d packets: %d, not %d", count, Size(l), want)
		}
		checkSize(t, l)
	}
	large := make([]byte, 1<<20)
	var l [][]byte
	for count := range 2048 {
		if got, want := Size(l), count<<20; got != want {
			t.Fatalf("Size of %d packets of 2^20 bytes: %d", count, got)
		}
		l = append(l, large)
	}
	l[1000] = large[:1<<20-1]
	if got := Size(l); got != 1<<31-1 {
		t.Errorf("Size is %d, not 2^31 - 1", got)
	}
}

// P18.2: what comes out is what went in, in order, without what was left out, for each capacity.
func TestOrder(t *testing.T) {
	random := rand.New(rand.NewSource(18))
	for capacity := -2; capacity < 20; capacity++ {
		var l [][]byte
		first, next, left, popped := 0, 0, 0, 0 // the packets from first on, ahead of next, wait
		for step := range 2000 {
			if random.Intn(5) < 3 {
				got, out := Push(l, capacity, numbered(next))
				next++
				if want := max(0, next-first-max(0, capacity)); out != want {
					t.Fatalf("capacity %d, step %d: %d packets are left out, not %d", capacity, step, out, want)
				}
				l, first, left = got, first+out, left+out
			} else {
				packet, others, ok := Pop(l)
				if ok != (first < next) || ok && !bytes.Equal(packet, numbered(first)) {
					t.Fatalf("capacity %d, step %d: %q, %t, not packet %d of %d", capacity, step, packet, ok, first, next)
				}
				l = others
				if ok {
					first, popped = first+1, popped+1
				}
			}
			if len(l) != next-first || step%50 == 0 && !equal(l, row(next)[first:]) {
				t.Fatalf("capacity %d, step %d: %q, not the packets from %d to %d", capacity, step, l, first, next)
			}
		}
		if left+popped+len(l) != next || capacity > 0 && popped < 200 {
			t.Errorf("capacity %d: of %d packets, %d are left out, %d come back, %d wait", capacity, next, left, popped, len(l))
		}
	}
}

// P18.2: without Pop, Push keeps the newest packets and leaves out one at a time.
func TestFull(t *testing.T) {
	for capacity := 1; capacity < 30; capacity++ {
		var l [][]byte
		for i := range 100 {
			got, out := Push(l, capacity, numbered(i))
			if want := row(i + 1)[max(0, i+1-capacity):]; !equal(got, want) || out != len(l)+1-len(want) || out > 1 {
				t.Fatalf("capacity %d, packet %d: %q, %d", capacity, i, got, out)
			}
			l = got
		}
	}
}

// P18.1: a capacity that gets less leaves out several packets at once; one that gets greater leaves out none.
func TestOtherCapacities(t *testing.T) {
	for from := range 25 {
		for to := range 25 {
			l := row(from)
			got, out := Push(l, to, numbered(from))
			if want := max(0, from+1-to); out != want || !equal(got, row(from + 1)[want:]) {
				t.Errorf("%d packets, then the capacity %d: %q, %d", from, to, got, out)
			}
		}
	}
}

// somePacket returns a random packet, empty or equal to others at times.
func somePacket(random *rand.Rand) []byte {
	if random.Intn(4) == 0 {
		return somePackets[random.Intn(len(somePackets))]
	}
	packet := make([]byte, random.Intn(40))
	random.Read(packet)
	return packet
}

// P18.1: random lists, capacities and packets.
func TestRandomLists(t *testing.T) {
	random := rand.New(rand.NewSource(1818))
	for range 20000 {
		var l [][]byte
		for range random.Intn(14) {
			l = append(l, somePacket(random))
		}
		capacity := random.Intn(18) - 2
		if random.Intn(8) == 0 {
			capacity = someCapacities[random.Intn(len(someCapacities))]
		}
		checkPush(t, l, capacity, somePacket(random))
		checkPop(t, l)
		checkSize(t, l)
	}
}

// spread returns a list whose packets stand side by side in one memory, with room behind each packet and behind the list, and this memory.
func spread(count, length int) ([][]byte, []byte) {
	memory := patterned((count+1)*length, 5)
	all := make([][]byte, count+5)
	for i := range all {
		all[i] = []byte("room")
	}
	l := all[:count]
	for i := range l {
		l[i] = memory[i*length : (i+1)*length]
	}
	return l, memory
}

// wholeOf returns all bytes that the memory of a packet has room for.
func wholeOf(packet []byte) []byte {
	return packet[:cap(packet)]
}

// overwrite changes all that the memory of a list and of its packets has room for.
func overwrite(l [][]byte) {
	for _, packet := range l {
		for i := range wholeOf(packet) {
			wholeOf(packet)[i]++ // and not a change that a second one would undo
		}
	}
	for i := range l[:cap(l)] {
		l[:cap(l)][i] = []byte("overwritten")
	}
}

// results returns what Push and Pop return for a list, as lists: that of Pop once with its packet alone.
func results(l [][]byte, packet []byte) [][][]byte {
	var all [][][]byte
	for _, capacity := range []int{-1, 0, 1, 2, len(l) - 1, len(l), len(l) + 1, len(l) + 2, math.MaxInt} {
		pushed, _ := Push(l, capacity, packet)
		all = append(all, pushed)
	}
	first, others, _ := Pop(l)
	return append(all, [][]byte{first}, others)
}

// R3: nothing changes the list, its packets or the memory behind them.
func TestArguments(t *testing.T) {
	for count := range 20 {
		for _, length := range []int{0, 1, 5, 64} {
			l, memory := spread(count, length)
			packet := memory[count*length/2 : count*length/2+length]
			kept, keptMemory := clone(l[:cap(l)]), bytes.Clone(memory)
			for _, result := range results(l, packet) {
				overwrite(result)
			}
			Size(l)
			if !equal(l[:cap(l)], kept) || !bytes.Equal(memory, keptMemory) {
				t.Errorf("%d packets of %d bytes: the arguments are changed", count, length)
			}
		}
	}
}

// R3: results stay as they are when the arguments and other results are changed.
func TestResults(t *testing.T) {
	for count := range 20 {
		for _, length := range []int{0, 1, 5, 64} {
			l, memory := spread(count, length)
			packet := memory[count*length:]
			first, second := results(l, packet), results(l, packet)
			var want [][][]byte
			for _, result := range second {
				want = append(want, clone(result))
			}
			for _, result := range first {
				overwrite(result)
			}
			for i := range memory {
				memory[i] ^= 255
			}
			overwrite(l)
			for i := range second {
				if !equal(second[i], want[i]) {
					t.Errorf("%d packets of %d bytes: result %d is %q, not %q", count, length, i, second[i], want[i])
				}
			}
		}
	}
}

// checkApart changes the packets one by one, and all that they have room for, and looks at the others.
func checkApart(t *testing.T, packets [][]byte) {
	t.Helper()
	for i, packet := range packets {
		want := clone(packets)
		for j := range wholeOf(packet) {
			wholeOf(packet)[j] ^= 255
		}
		for j := range packets {
			if j != i && !bytes.Equal(packets[j], want[j]) {
				t.Errorf("packet %d of %d shares memory with packet %d", j, len(packets), i)
			}
		}
	}
}

// R3: the packets of one result share no memory, also if those of the argument do, or a packet is pushed that waits already.
func TestApart(t *testing.T) {
	packet := patterned(30, 1)
	for count := range 12 {
		l := slices.Repeat([][]byte{packet}, count)
		for capacity := range count + 2 {
			got, _ := Push(l, capacity, packet)
			checkApart(t, got)
		}
		first, others, _ := Pop(l)
		checkApart(t, append([][]byte{first}, others...))
		side, _ := spread(count, 7)
		got, _ := Push(side, count+1, packet[3:9])
		checkApart(t, got)
		first, others, _ = Pop(side)
		checkApart(t, append([][]byte{first}, others...))
	}
}

// R3: two lists that are made of one do not meet, also if something is appended to them.
func TestTwoWays(t *testing.T) {
	for count := range 30 {
		l, _ := Push(row(count), 100, numbered(count))
		x, _ := Push(l, 100, []byte("x"))
		y, _ := Push(l, 100, []byte("y"))
		_, others, _ := Pop(l)
		x, _, others = append(x, []byte("z")), append(y, []byte("z")), append(others, []byte("z"))
		want := row(count + 1)
		if !equal(l, want) || !equal(x, append(want, []byte("x"), []byte("z"))) || !equal(y, append(want, []byte("y"))) || !equal(others, append(row(count + 1)[1:], []byte("z"))) {
			t.Errorf("%d packets: %q, %q, %q, %q", count, l, x, y, others)
		}
	}
}

// R4: the same arguments give the same results, whatever was called ahead of them.
func TestAgain(t *testing.T) {
	l := row(9)
	first := results(l, []byte("x"))
	for i := range 50 {
		Push(row(i), i%7, numbered(i))
		Pop(row(i))
		Size(row(i))
		if got := results(l, []byte("x")); !slices.EqualFunc(got, first, equal) || Size(l) != 72 {
			t.Errorf("%q", got)
		}
	}
}

// R1: a list that is much longer than any that a daemon has.
func TestLongList(t *testing.T) {
	l := row(1 << 17)
	last := numbered(len(l))
	if got, out := Push(l, api.MaxStage, last); !equal(got, append(slices.Clone(l[len(l)-api.MaxStage+1:]), last)) || out != len(l)+1-api.MaxStage {
		t.Errorf("Push with the capacity %d: %q, %d", api.MaxStage, got, out)
	}
	if got, out := Push(l, len(l), last); !equal(got, append(slices.Clone(l[1:]), last)) || out != 1 {
		t.Errorf("Push with the capacity %d: %d packets, %d", len(l), len(got), out)
	}
	if got, out := Push(l, 0, last); len(got) != 0 || out != len(l)+1 {
		t.Errorf("Push with the capacity 0: %d packets, %d", len(got), out)
	}
	if first, others, ok := Pop(l); !ok || !bytes.Equal(first, numbered(0)) || !equal(others, l[1:]) {
		t.Errorf("Pop: %q, %d packets, %t", first, len(others), ok)
	}
	if got := Size(l); got != plainSize(l) {
		t.Errorf("Size is %d", got)
	}
}
