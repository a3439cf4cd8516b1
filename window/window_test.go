package window

import (
	"math/big"
	"math/rand"
	"slices"
	"testing"

	"burrow/api"
)

const (
	last = 1<<64 - 1 // the greatest counter
	ones = 1<<64 - 1 // a word in which all bits are 1
)

var full = [4]uint64{ones, ones, ones, ones}

// tops are counters at the ends of blocks, of rows of four blocks, of powers of two and of all counters.
var tops = []uint64{
	0, 1, 2, 62, 63, 64, 65, 127, 128, 191, 192, 193, 200, 255, 256, 257, 300, 319, 320, 383, 384, 447, 448, 511, 512, 513, 1000, 1<<12 - 1, 1 << 12,
	1<<16 - 1, 1 << 16, 1<<31 - 1, 1 << 31, 1<<32 - 1, 1 << 32, 1<<32 + 130, 1<<62 - 1, 1 << 62, 1<<63 - 1, 1 << 63, 1<<63 + 1, 1<<63 + 70,
	api.MaxCounter, last - 512, last - 256, last - 255, last - 192, last - 64, last - 63, last - 62, last - 1, last,
}

// someWords are words of a window, whether a window could have them or not.
var someWords = [][4]uint64{{}, full, {1, 2, 3, 4}, {0, ones, 0, ones}, {ones, 0, ones, 0}, {1 << 63, 1, 1 << 63, 1}, {0x5555555555555555, 0xaaaaaaaaaaaaaaaa, 0x123456789abcdef0, 0xfedcba9876543210}}

// blockOf returns the block of a counter.
func blockOf(c uint64) *big.Int {
	return new(big.Int).Div(new(big.Int).SetUint64(c), big.NewInt(64))
}

// wordOf returns the number of the word that contains the bits of a block.
func wordOf(block *big.Int) int {
	return int(new(big.Int).Mod(block, big.NewInt(4)).Int64())
}

// bitOf returns the bit of a counter as a word in which it alone is 1.
func bitOf(c uint64) uint64 {
	return uint64(1) << new(big.Int).Mod(new(big.Int).SetUint64(c), big.NewInt(64)).Uint64()
}

// plainCheck follows P16.1 word for word, with exact numbers.
func plainCheck(w api.Window, c uint64) bool {
	if !w.Used || c > w.Top {
		return true
	}
	less := new(big.Int).Sub(blockOf(w.Top), blockOf(c))
	return less.Cmp(big.NewInt(3)) <= 0 && w.Words[wordOf(blockOf(c))]&bitOf(c) == 0
}

// plainAccept follows P16.2 word for word, with exact numbers.
func plainAccept(w api.Window, c uint64) (api.Window, bool) {
	if !plainCheck(w, c) {
		return w, false
	}
	if !w.Used {
		w.Words = [4]uint64{}
	}
	if c > w.Top || !w.Used {
		from, to := blockOf(w.Top), blockOf(c)
		if new(big.Int).Sub(to, from).Cmp(big.NewInt(4)) >= 0 {
			w.Words = [4]uint64{}
		} else {
			for block := from.Add(from, big.NewInt(1)); block.Cmp(to) <= 0; block.Add(block, big.NewInt(1)) {
				w.Words[wordOf(block)] = 0
			}
		}
		w.Top = c
	}
	w.Words[wordOf(blockOf(c))] |= bitOf(c)
	w.Used = true
	return w, true
}

// checkCounter compares Check and Accept with the plain versions, and what they do with P16.3.
func checkCounter(t *testing.T, w api.Window, c uint64) bool {
	t.Helper()
	kept := w
	can := Check(w, c)
	next, ok := Accept(w, c)
	want, wantOK := plainAccept(w, c)
	if can != wantOK || ok != wantOK || next != want {
		t.Errorf("%v, %d: Check is %t, Accept is %v, %t, not %v, %t", w, c, can, next, ok, want, wantOK)
	}
	if again, ok := Accept(next, c); ok || again != next || Check(next, c) {
		t.Errorf("%v, %d: accepted again: %v, %t", w, c, again, ok)
	}
	if w != kept {
		t.Errorf("%v, %d: the argument has become %v", kept, c, w)
	}
	return ok
}

// near returns the counters that are at most so far from one, as far as there are any.
func near(c, far uint64) []uint64 {
	var list []uint64
	for n := c - min(c, far); ; n++ {
		list = append(list, n)
		if n == last || n > c && n-c >= far {
			return list
		}
	}
}

// wantCheck requires a result of Check, and that Accept gives the same and refuses without a change.
func wantCheck(t *testing.T, w api.Window, c uint64, want bool) {
	t.Helper()
	if got := Check(w, c); got != want {
		t.Errorf("Check(%v, %d) is %t", w, c, got)
	}
	next, ok := Accept(w, c)
	if ok != want || !want && next != w || want && (!next.Used || next.Words[c/64%4]&(1<<(c%64)) == 0) {
		t.Errorf("Accept(%v, %d) is %v, %t", w, c, next, ok)
	}
}

// wantAccept requires that a counter is accepted, and the window behind it.
func wantAccept(t *testing.T, w api.Window, c uint64, want api.Window) api.Window {
	t.Helper()
	got, ok := Accept(w, c)
	if !ok || got != want {
		t.Errorf("Accept(%v, %d) is %v, %t, not %v", w, c, got, ok, want)
	}
	return got
}

// The example of the chapter.
func TestExample(t *testing.T) {
	w := wantAccept(t, api.Window{}, 300, api.Window{Used: true, Top: 300, Words: [4]uint64{1 << 44, 0, 0, 0}})
	w = wantAccept(t, w, 100, api.Window{Used: true, Top: 300, Words: [4]uint64{1 << 44, 1 << 36, 0, 0}})
	wantCheck(t, w, 63, false)
	wantCheck(t, w, 64, true)
	wantCheck(t, w, 100, false)
	wantCheck(t, w, 300, false)
	wantAccept(t, w, 64, api.Window{Used: true, Top: 300, Words: [4]uint64{1 << 44, 1<<36 | 1, 0, 0}})
}

// P16.1 and P16.2: a window that is not used accepts every counter, whatever its words and Top are, and keeps none of them.
func TestUnused(t *testing.T) {
	for _, words := range someWords {
		for _, top := range tops {
			w := api.Window{Top: top, Words: words}
			for _, c := range slices.Concat(tops, near(top, 3)) {
				if !Check(w, c) {
					t.Errorf("%v refuses %d", w, c)
				}
				want := api.Window{Used: true, Top: c}
				want.Words[c/64%4] = 1 << (c % 64)
				wantAccept(t, w, c, want)
				checkCounter(t, w, c)
			}
		}
	}
}

// P16.1 and P16.2: the counter 0, which is Top of a window that is not used.
func TestZero(t *testing.T) {
	w := wantAccept(t, api.Window{}, 0, api.Window{Used: true, Words: [4]uint64{1, 0, 0, 0}})
	wantCheck(t, w, 0, false)
	wantCheck(t, w, 1, true)
	wantCheck(t, api.Window{Used: true}, 0, true)
	wantAccept(t, api.Window{Used: true, Words: [4]uint64{2, 3, 4, 5}}, 0, api.Window{Used: true, Words: [4]uint64{3, 3, 4, 5}})
	wantAccept(t, api.Window{Words: [4]uint64{2, 3, 4, 5}}, 0, api.Window{Used: true, Words: [4]uint64{1, 0, 0, 0}})
}

// P16.1: which blocks a window covers, for each place of Top in its block.
func TestCover(t *testing.T) {
	for _, block := range []uint64{0, 1, 2, 3, 4, 5, 6, 7, 8, 9, 100, 1 << 30, 1<<58 - 2, 1<<58 - 1} {
		for place := range uint64(64) {
			top := 64*block + place
			none, all := api.Window{Used: true, Top: top}, api.Window{Used: true, Top: top, Words: full}
			for less := range min(block+1, 10) {
				for _, c := range []uint64{64 * (block - less), 64*(block-less) + 31, 64*(block-less) + 63} {
					wantCheck(t, none, c, less <= 3 || c > top)
					wantCheck(t, all, c, c > top)
				}
			}
			for _, c := range near(top, 1) {
				wantCheck(t, none, c, true)
				wantCheck(t, all, c, c > top)
			}
		}
	}
}

// P16.1: what is far below Top is refused, also where numbers of 32 or 64 bits wrap around.
func TestFarBelow(t *testing.T) {
	for _, top := range tops {
		for bit := range 64 {
			for _, c := range near(top-1<<bit, 1) {
				for _, words := range [][4]uint64{{}, full} {
					w := api.Window{Used: true, Top: top, Words: words}
					wantCheck(t, w, c, c > top || c/64+3 >= top/64 && words == [4]uint64{})
					checkCounter(t, w, c)
				}
			}
		}
	}
}

// P16.1: a counter that is greater than Top is accepted, whatever the words are.
func TestGreater(t *testing.T) {
	for _, words := range someWords {
		for _, top := range tops {
			w := api.Window{Used: true, Top: top, Words: words}
			for bit := range 64 {
				if c := top + 1<<bit; c > top {
					wantCheck(t, w, c, true)
					checkCounter(t, w, c)
				}
			}
			if top < last {
				wantCheck(t, w, last, true)
				wantCheck(t, w, top+1, true)
			}
		}
	}
}

// P16.1: each bit stands for one counter among those that are not greater than Top.
func TestEachBit(t *testing.T) {
	for _, top := range []uint64{255, 256, 300, 319, 320, 500, 511, 1<<40 + 77, last - 100, last} {
		for bit := range 256 {
			var one [4]uint64
			one[bit/64] = 1 << (bit % 64)
			but := [4]uint64{ones &^ one[0], ones &^ one[1], ones &^ one[2], ones &^ one[3]}
			start := top/64*64 - 192
			for c := start; c <= top && c >= start; c++ {
				same := c%256 == uint64(bit)
				wantCheck(t, api.Window{Used: true, Top: top, Words: one}, c, !same)
				wantCheck(t, api.Window{Used: true, Top: top, Words: but}, c, same)
			}
		}
	}
}

// P16.2: a counter that is not greater than Top changes its bit alone.
func TestAcceptBelow(t *testing.T) {
	for _, top := range []uint64{0, 1, 63, 64, 200, 255, 256, 300, 1 << 32, 1<<63 + 5, last} {
		for _, c := range near(top, 260) {
			if c > top || top/64-c/64 > 3 {
				continue
			}
			for _, words := range someWords {
				w := api.Window{Used: true, Top: top, Words: words}
				w.Words[c/64%4] &^= 1 << (c % 64)
				want := w
				want.Words[c/64%4] += 1 << (c % 64)
				wantAccept(t, w, c, want)
			}
		}
	}
}

// P16.2: which words become zero when Top moves on by so many blocks, from each word and each place in a block.
func TestClearing(t *testing.T) {
	for _, block := range []uint64{0, 1, 2, 3, 4, 1001, 1 << 33, 1<<58 - 20} {
		for place := range uint64(64) {
			for _, end := range []uint64{0, 1, 31, 62, 63} {
				for step := range uint64(16) {
					top, c := 64*block+place, 64*(block+step)+end
					if c <= top {
						continue
					}
					want := api.Window{Used: true, Top: c, Words: full}
					for n := range min(step, 4) {
						want.Words[(block+step-n)%4] = 0
					}
					want.Words[(block+step)%4] |= 1 << end
					wantAccept(t, api.Window{Used: true, Top: top, Words: full}, c, want)
				}
			}
		}
	}
}

// P16.2: a step of four blocks or more leaves the bit of the counter alone, however far it goes.
func TestFarSteps(t *testing.T) {
	for _, top := range tops {
		for _, c := range tops {
			if c <= top || c/64-top/64 < 4 {
				continue
			}
			want := api.Window{Used: true, Top: c}
			want.Words[c/64%4] = 1 << (c % 64)
			for _, words := range someWords {
				wantAccept(t, api.Window{Used: true, Top: top, Words: words}, c, want)
			}
		}
	}
}

// P16.2: bits of the block of Top that stand for greater counters, which only words that are not valid have, stay where Top moves on in its block.
func TestBitsAboveTop(t *testing.T) {
	w := api.Window{Used: true, Top: 70, Words: [4]uint64{1, 1<<6 | 1<<10 | 1<<20, 5, 7}}
	w = wantAccept(t, w, 74, api.Window{Used: true, Top: 74, Words: w.Words})
	w = wantAccept(t, w, 75, api.Window{Used: true, Top: 75, Words: [4]uint64{1, 1<<6 | 1<<10 | 1<<11 | 1<<20, 5, 7}})
	wantCheck(t, w, 84, true)
	wantCheck(t, w, 73, true)
	w = wantAccept(t, w, 128, api.Window{Used: true, Top: 128, Words: [4]uint64{1, 1<<6 | 1<<10 | 1<<11 | 1<<20, 1, 7}})
	wantCheck(t, w, 84, false)
}

// P16.1 and P16.2: all counters around Top, with any words.
func TestNearTop(t *testing.T) {
	accepted, refused := 0, 0
	for _, top := range tops {
		for _, words := range someWords {
			for _, c := range near(top, 600) {
				if checkCounter(t, api.Window{Used: true, Top: top, Words: words}, c) {
					accepted++
				} else {
					refused++
				}
			}
		}
	}
	if accepted < 100000 || refused < 50000 {
		t.Error(accepted, refused)
	}
}

// someCounter returns a counter near another one, or anywhere.
func someCounter(random *rand.Rand, beside uint64) uint64 {
	switch random.Intn(8) {
	case 0:
		return random.Uint64() >> random.Intn(64)
	case 1:
		return last - uint64(random.Intn(600))
	case 2:
		return beside - beside%64 + 64*uint64(random.Intn(10)) - 64*uint64(random.Intn(10))
	}
	return beside + uint64(random.Intn(400)) - uint64(random.Intn(400))
}

// P16.1 and P16.2: random windows and counters.
func TestRandomWindows(t *testing.T) {
	random := rand.New(rand.NewSource(16))
	accepted, refused := 0, 0
	for range 100000 {
		w := api.Window{Used: random.Intn(8) > 0, Top: someCounter(random, random.Uint64()>>random.Intn(64))}
		for i := range w.Words {
			w.Words[i] = random.Uint64()
		}
		if checkCounter(t, w, someCounter(random, w.Top)) {
			accepted++
		} else {
			refused++
		}
	}
	if accepted < 20000 || refused < 20000 {
		t.Error(accepted, refused)
	}
}

// windowOf returns the window that has accepted these counters, from what the words mean.
func windowOf(counters []uint64) api.Window {
	if len(counters) == 0 {
		return api.Window{}
	}
	w := api.Window{Used: true, Top: slices.Max(counters)}
	for _, c := range counters {
		if w.Top/64-c/64 <= 3 {
			w.Words[c/64%4] |= 1 << (c % 64)
		}
	}
	return w
}

// mayFollow reports whether a counter is accepted behind others, as P16.3 says.
func mayFollow(counters []uint64, c uint64) bool {
	for _, other := range counters {
		if other == c || other/64 >= 4 && other/64-4 >= c/64 {
			return false
		}
	}
	return true
}

// P16.3: all rows of up to five of a few counters.
func TestShortRows(t *testing.T) {
	for _, start := range []uint64{0, 64, 1<<32 - 256, last - 639} {
		places := []uint64{0, 1, 63, 64, 191, 255, 256, 319, 320, 511, 639}
		var look func(w api.Window, counters []uint64, depth int)
		look = func(w api.Window, counters []uint64, depth int) {
			if w != windowOf(counters) {
				t.Errorf("behind %v: %v", counters, w)
			}
			if depth == 5 {
				return
			}
			for _, place := range places {
				c := start + place
				next, ok := Accept(w, c)
				if ok != mayFollow(counters, c) || Check(w, c) != ok {
					t.Errorf("behind %v: %d: %t", counters, c, ok)
				}
				if ok {
					look(next, append(slices.Clone(counters), c), depth+1)
				} else if next != w {
					t.Errorf("behind %v: %d is refused with %v", counters, c, next)
				}
			}
		}
		look(api.Window{}, nil, 0)
	}
}

// P16.3: counters that the window covers, in any order, give one window, and each of them is accepted once.
func TestAnyOrder(t *testing.T) {
	random := rand.New(rand.NewSource(1616))
	for _, start := range []uint64{0, 64, 128, 192, 256, 1 << 20, 1<<32 - 128, last - 255} {
		for range 50 {
			var counters []uint64
			for c := range uint64(256) {
				if random.Intn(3) > 0 {
					counters = append(counters, start+c)
				}
			}
			want := windowOf(counters)
			random.Shuffle(len(counters), func(i, j int) { counters[i], counters[j] = counters[j], counters[i] })
			var w api.Window
			for _, c := range counters {
				next, ok := Accept(w, c)
				if !ok {
					t.Errorf("%v refuses %d", w, c)
				}
				w = next
			}
			if w != want {
				t.Errorf("%v is %v, not %v", counters, w, want)
			}
			for _, c := range counters {
				wantCheck(t, w, c, false)
			}
		}
	}
}

// P16.3: each counter of a long row is accepted once, in the order of a network that delays and repeats.
func TestLongRuns(t *testing.T) {
	random := rand.New(rand.NewSource(161616))
	for _, spread := range []int{1, 2, 10, 64, 200, 256, 400, 1000} {
		for _, start := range []uint64{0, 1<<32 - 1000, last - 1<<14} {
			w, next := api.Window{}, start
			seen, greatest := map[uint64]bool{}, uint64(0)
			accepted, refused := 0, 0
			for range 20000 {
				c := next - min(next-start, uint64(random.Intn(spread)))
				if random.Intn(3) == 0 {
					next += uint64(random.Intn(3))
				}
				if random.Intn(500) == 0 && next < last-1000 {
					next += uint64(random.Intn(400))
				}
				want := !seen[c] && (len(seen) == 0 || greatest/64 < c/64+4)
				after, ok := Accept(w, c)
				if ok != want || Check(w, c) != want || !ok && after != w {
					t.Fatalf("spread %d: %v, %d: %v, %t", spread, w, c, after, ok)
				}
				if w = after; !ok {
					refused++
					continue
				}
				accepted++
				seen[c], greatest = true, max(greatest, c)
			}
			if w.Top != greatest || accepted < 1000 || refused < 1000 {
				t.Errorf("spread %d: %v, %d accepted, %d refused", spread, w, accepted, refused)
			}
		}
	}
}

// P16.3: random counters near and far, against what was accepted.
func TestSets(t *testing.T) {
	random := rand.New(rand.NewSource(16161616))
	accepted, refused := 0, 0
	for range 300 {
		var w api.Window
		var counters []uint64
		beside := random.Uint64() >> random.Intn(64)
		for range 60 {
			c := someCounter(random, beside)
			if random.Intn(4) > 0 {
				c = beside + uint64(random.Intn(500)) - min(beside, uint64(random.Intn(300)))
			}
			if len(counters) > 0 && random.Intn(4) == 0 {
				c = counters[random.Intn(len(counters))]
			}
			next, ok := Accept(w, c)
			if ok != mayFollow(counters, c) || Check(w, c) != ok {
				t.Fatalf("behind %v: %d: %t", counters, c, ok)
			}
			if !ok {
				refused++
				continue
			}
			accepted++
			w, counters = next, append(counters, c)
			if w != windowOf(counters) {
				t.Fatalf("behind %v: %v", counters, w)
			}
			if random.Intn(10) == 0 {
				beside = w.Top
			}
		}
	}
	if accepted < 3000 || refused < 3000 {
		t.Error(accepted, refused)
	}
}
