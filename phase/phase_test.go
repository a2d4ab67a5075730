package phase_test

import (
	"math"
	"math/big"
	"slices"
	"sync"
	"testing"

	"witan/api"
	"witan/phase"
)

// over is none of the phases: that behind the last End.
const over = 0

// mixed is a number without a pattern that a test could lean on; it is the same in every run.
func mixed(seed int) int {
	x := uint64(seed)
	for range 3 {
		x = x*0x5851f42d4c957f2d + 0x14057b7ef767814f
		x ^= x >> 29
	}
	return int(x)
}

// below is a mixed number from 0 on and below n.
func below(n, seed int) int { return int(uint64(mixed(seed)) % uint64(n)) }

// right is a Config that may be, with nothing at an edge.
func right() api.Config {
	return api.Config{T: 2, Deposit: 100, Ends: [4]int{2, 4, 6, 8}, Money: []int{500, 600, 700}}
}

// with is the right Config, changed.
func with(change func(c *api.Config)) api.Config {
	c := right()
	change(&c)
	return c
}

func ending(ends ...int) api.Config { return api.Config{Ends: [4]int(ends)} }

// isFrom tells whether n is from least to most, by math/big.
func isFrom(n, least, most int) bool {
	m := big.NewInt(int64(n))
	return m.Cmp(big.NewInt(int64(least))) >= 0 && m.Cmp(big.NewInt(int64(most))) <= 0
}

// wantRight goes by the chapter's words for a right Config.
func wantRight(c api.Config) bool {
	good := isFrom(c.T, 0, 63) && isFrom(c.Deposit, 0, 1<<40) && slices.IsSorted(c.Ends[:])
	for _, end := range c.Ends {
		good = good && isFrom(end, 0, 1<<20)
	}
	for _, n := range c.Money {
		good = good && isFrom(n, 0, 1<<40)
	}
	return good && isFrom(len(c.Money), 0, 16)
}

func wantCheck(c api.Config) api.Errno {
	if wantRight(c) {
		return api.OK
	}
	return api.ErrArg
}

// wantAtOf goes from the last phase to the first one, at heights without bounds.
func wantAtOf(c api.Config, height *big.Int) int {
	if height.Sign() < 0 {
		height = new(big.Int)
	}
	found := over
	for i, name := range []int{api.Submitting, api.Disputing, api.Sharing, api.Registering} {
		if big.NewInt(int64(c.Ends[3-i])).Cmp(height) >= 0 {
			found = name
		}
	}
	return found
}

func wantAt(c api.Config, height int) int { return wantAtOf(c, big.NewInt(int64(height))) }

func wantBegins(c api.Config, height int) (int, bool) {
	h := big.NewInt(int64(height))
	now, ahead := wantAtOf(c, h), wantAtOf(c, new(big.Int).Sub(h, big.NewInt(1)))
	return now, h.Sign() > 0 && now != ahead
}

// same holds all calls against what the chapter's words say of them.
func same(t *testing.T, c api.Config, height int) {
	t.Helper()
	if got, want := phase.At(c, height), wantAt(c, height); got != want {
		t.Errorf("At(%v, %d) = %d, want %d", c.Ends, height, got, want)
	}
	got, begins := phase.Begins(c, height)
	if want, is := wantBegins(c, height); got != want || begins != is {
		t.Errorf("Begins(%v, %d) = %d, %v, want %d, %v", c.Ends, height, got, begins, want, is)
	}
}

func checkIs(t *testing.T, c api.Config, want api.Errno) {
	t.Helper()
	if got := phase.Check(c); got != want {
		t.Errorf("Check(%v) = %v, want %v", c, int(got), int(want))
	}
}

// strange are numbers that are too low or too high for whatever a Config or a call takes, some of which might do if they were cut to fewer bits.
func strange() []int {
	return []int{-1, -2, -64, -256, -1 << 20, -1<<32 + 1, -1<<32 + 5, -1<<40 + 1, math.MinInt32, math.MinInt, math.MinInt + 1, math.MinInt + 5, 1<<40 + 1, 1<<41 + 1, 1<<48 + 3, 1 << 60, 1<<62 + 5, math.MaxInt - 1, math.MaxInt}
}

// odd are heights and Ends at all edges, and far beyond them.
func odd() []int {
	return append([]int{0, 1, 2, 3, 5, 63, 64, 255, 256, 257, 1<<16 - 1, 1 << 16, api.MaxHeight - 1, api.MaxHeight, api.MaxHeight + 1, 1<<31 - 1, 1 << 31, 1 << 32, 1<<32 + 2}, strange()...)
}

// allEnds calls with each four numbers of a list.
func allEnds(l []int, call func(ends [4]int)) {
	for _, a := range l {
		for _, b := range l {
			for _, c := range l {
				for _, d := range l {
					call([4]int{a, b, c, d})
				}
			}
		}
	}
}

// P13.1: the chapter's example.
func TestExample(t *testing.T) {
	c := ending(2, 4, 6, 8)
	if phase.At(c, 3) != api.Sharing || phase.At(c, 9) != over {
		t.Error(phase.At(c, 3), phase.At(c, 9))
	}
}

// P13.1: Check takes what is right, also where nothing is given, and where all is at its most.
func TestCheckRight(t *testing.T) {
	most := api.Config{T: 63, Deposit: 1 << 40, Ends: [4]int{1 << 20, 1 << 20, 1 << 20, 1 << 20}, Money: make([]int, 16)}
	for i := range most.Money {
		most.Money[i] = 1 << 40
	}
	for _, c := range []api.Config{{}, {Money: []int{}}, right(), most} {
		checkIs(t, c, api.OK)
	}
}

// P13.1: T is from 0 to MaxCoeffs - 1, however few accounts there are.
func TestCheckT(t *testing.T) {
	for n := range 64 {
		checkIs(t, api.Config{T: n}, api.OK)
		checkIs(t, with(func(c *api.Config) { c.T = n }), api.OK)
	}
	for _, n := range append([]int{64, 65, 127, 128, 256, 258, 1 << 16, 1 << 20, 1 << 32, 1<<32 + 2}, strange()...) {
		checkIs(t, api.Config{T: n}, api.ErrArg)
		checkIs(t, with(func(c *api.Config) { c.T = n }), api.ErrArg)
	}
}

// P13.1: Deposit is from 0 to MaxMoney, whatever the accounts have.
func TestCheckDeposit(t *testing.T) {
	for _, n := range []int{0, 1, 2, 499, 501, 1 << 20, 1 << 32, 1<<40 - 1, 1 << 40} {
		checkIs(t, api.Config{Deposit: n}, api.OK)
		checkIs(t, with(func(c *api.Config) { c.Deposit = n }), api.OK)
	}
	for _, n := range strange() {
		checkIs(t, api.Config{Deposit: n}, api.ErrArg)
		checkIs(t, with(func(c *api.Config) { c.Deposit = n }), api.ErrArg)
	}
}

// P13.1: Ends are from 0 to MaxHeight, and none is below the one ahead of it; the same ones may be.
func TestCheckEnds(t *testing.T) {
	allEnds([]int{-1, 0, 1, 2, api.MaxHeight - 1, api.MaxHeight, api.MaxHeight + 1}, func(ends [4]int) {
		c := with(func(c *api.Config) { c.Ends = ends })
		checkIs(t, c, wantCheck(c))
	})
	for _, ends := range [][4]int{{}, {0, 0, 0, 1}, {5, 5, 5, 5}, {0, 1, 2, 3}, {0, 0, 1 << 20, 1 << 20}, {1 << 20, 1 << 20, 1 << 20, 1 << 20}, {7, 1000, 1000, 1 << 19}} {
		checkIs(t, api.Config{Ends: ends}, api.OK)
	}
	for _, ends := range [][4]int{{-1, 0, 0, 0}, {-4, -3, -2, -1}, {1, 0, 2, 3}, {0, 2, 1, 3}, {0, 1, 3, 2}, {8, 6, 4, 2}, {5, 5, 5, 4}, {5, 0, 0, 0}, {3, 1, 2, 4}, {0, 0, 0, 1<<20 + 1}, {1<<20 + 1, 1<<20 + 1, 1<<20 + 1, 1<<20 + 1}} {
		checkIs(t, api.Config{Ends: ends}, api.ErrArg)
	}
}

// P13.1: each End is asked by itself, at numbers that are far from all that may be.
func TestCheckStrangeEnds(t *testing.T) {
	for _, n := range strange() {
		for k := range 4 {
			checkIs(t, with(func(c *api.Config) { c.Ends[k] = n }), api.ErrArg)
		}
		checkIs(t, ending(n, n, n, n), api.ErrArg)
	}
}

// P13.1: there are at most MaxAccounts accounts.
func TestCheckAccounts(t *testing.T) {
	for n := range 40 {
		c := with(func(c *api.Config) { c.Money = make([]int, n) })
		checkIs(t, c, wantCheck(c))
		if (n <= 16) != (phase.Check(c) == api.OK) {
			t.Error(n)
		}
	}
	for _, n := range []int{255, 256, 257, 272, 1 << 16, 1<<16 + 3} {
		checkIs(t, api.Config{Money: make([]int, n)}, api.ErrArg)
	}
}

// P13.1: each account has from 0 to MaxMoney, at whatever place; together they may have more.
func TestCheckMoney(t *testing.T) {
	for _, count := range []int{1, 2, 9, 16} {
		for k := range count {
			for _, n := range []int{0, 1, 99, 1 << 32, 1<<40 - 1, 1 << 40} {
				c := with(func(c *api.Config) { c.Money = slices.Repeat([]int{1 << 40}, count) })
				c.Money[k] = n
				checkIs(t, c, api.OK)
			}
			for _, n := range strange() {
				c := with(func(c *api.Config) { c.Money = make([]int, count) })
				c.Money[k] = n
				checkIs(t, c, api.ErrArg)
			}
		}
	}
}

// P13.1: numbers of a Config that wrap to something right, if they are summed, are asked one by one.
func TestCheckSums(t *testing.T) {
	for _, money := range [][]int{{5, -1}, {-1, 5}, {-5, 5}, {math.MaxInt, math.MinInt, 1}, {math.MinInt, math.MinInt}, {1 << 62, 1 << 62, 1 << 62, 1 << 62}, {1<<40 + 1, -1}} {
		checkIs(t, api.Config{Money: money}, api.ErrArg)
	}
}

// P13.1: whatever is wrong, and however much of it, is ErrArg.
func TestCheckManyFaults(t *testing.T) {
	for i := range 64 {
		c := right()
		if i&1 > 0 {
			c.T = 64
		}
		if i&2 > 0 {
			c.Deposit = -1
		}
		if i&4 > 0 {
			c.Ends[0] = 5
		}
		if i&8 > 0 {
			c.Ends[3] = 1<<20 + 1
		}
		if i&16 > 0 {
			c.Money = make([]int, 17)
		}
		if i&32 > 0 {
			c.Money[0] = -1
		}
		want := api.ErrArg
		if i == 0 {
			want = api.OK
		}
		checkIs(t, c, want)
	}
}

// P13.1: Check at mixed Configs, of which some are right.
func TestCheckMixed(t *testing.T) {
	good := 0
	for i := range 4000 {
		c := api.Config{T: below(80, 10*i), Deposit: below(1<<40+1<<38, 10*i+1), Money: make([]int, below(20, 10*i+2))}
		for k := range c.Ends {
			c.Ends[k] = k*(1<<18) + below(1<<18+1<<16, 10*i+3+k)
		}
		for k := range c.Money {
			c.Money[k] = below(1<<40+1<<34, 10*i+7+1<<20*k)
		}
		checkIs(t, c, wantCheck(c))
		if wantRight(c) {
			good++
		}
	}
	if good < 200 || good > 3800 {
		t.Error("nearly all are of one kind:", good)
	}
}

// P13.1: At tells each phase up to its End, and 0 behind the last one.
func TestAtKnown(t *testing.T) {
	for _, k := range []struct {
		ends [4]int
		at   []int // from height 0 on
	}{
		{[4]int{2, 4, 6, 8}, []int{1, 1, 1, 2, 2, 3, 3, 4, 4, 0, 0, 0}},
		{[4]int{0, 1, 2, 3}, []int{1, 2, 3, 4, 0, 0}},
		{[4]int{0, 0, 0, 0}, []int{1, 0, 0}},
		{[4]int{3, 3, 3, 3}, []int{1, 1, 1, 1, 0, 0}},
		{[4]int{0, 0, 3, 3}, []int{1, 3, 3, 3, 0, 0}},
		{[4]int{1, 3, 3, 4}, []int{1, 1, 2, 2, 4, 0, 0}},
		{[4]int{2, 2, 2, 5}, []int{1, 1, 1, 4, 4, 4, 0, 0}},
		{[4]int{0, 2, 2, 2}, []int{1, 2, 2, 0, 0}},
	} {
		for height, want := range k.at {
			if got := phase.At(ending(k.ends[:]...), height); got != want {
				t.Error(k.ends, height, got, want)
			}
		}
	}
}

// P13.1: the phases are told by the numbers of package api.
func TestAtNames(t *testing.T) {
	c := ending(10, 20, 30, 40)
	for i, want := range []int{api.Registering, api.Sharing, api.Disputing, api.Submitting, over} {
		for height := 10*i + 1; height <= 10*i+10; height++ {
			if got := phase.At(c, height); got != want {
				t.Error(height, got, want)
			}
		}
	}
}

// P13.1: a height below 0 counts as 0.
func TestBelowZero(t *testing.T) {
	for _, k := range []struct {
		c    api.Config
		want int
	}{
		{ending(0, 0, 0, 0), api.Registering}, {ending(2, 4, 6, 8), api.Registering}, {ending(-1, 4, 6, 8), api.Sharing}, {ending(-1, -1, 0, 8), api.Disputing}, {ending(-9, -9, -9, 1), api.Submitting}, {ending(-1, -1, -1, -1), over}, {ending(math.MinInt, math.MinInt, math.MinInt, math.MinInt), over},
	} {
		for _, height := range []int{0, -1, -2, -5, -9, -1 << 20, -1 << 32, math.MinInt32, math.MinInt + 1, math.MinInt} {
			got, begins := phase.Begins(k.c, height)
			if phase.At(k.c, height) != k.want || got != k.want || begins {
				t.Error(k.c.Ends, height, phase.At(k.c, height), got, begins)
			}
		}
	}
}

// P13.1: Begins tells true at the first height of a phase, also of that behind the last End; beside a false it tells the phase all the same.
func TestBeginsKnown(t *testing.T) {
	for _, k := range []struct {
		ends   [4]int
		begins []int // all heights at which it is true
	}{
		{[4]int{2, 4, 6, 8}, []int{3, 5, 7, 9}}, {[4]int{0, 1, 2, 3}, []int{1, 2, 3, 4}}, {[4]int{0, 0, 0, 0}, []int{1}}, {[4]int{3, 3, 3, 3}, []int{4}}, {[4]int{0, 0, 3, 3}, []int{1, 4}}, {[4]int{1, 3, 3, 4}, []int{2, 4, 5}}, {[4]int{9, 9, 9, 9}, []int{10}}, {[4]int{-1, 4, 6, 8}, []int{5, 7, 9}},
	} {
		c := ending(k.ends[:]...)
		for height := -3; height < 20; height++ {
			got, begins := phase.Begins(c, height)
			if got != phase.At(c, height) || begins != slices.Contains(k.begins, height) {
				t.Error(k.ends, height, got, begins)
			}
		}
	}
}

// P13.1: below height 1 nothing begins, and at height 1 only what was not there at 0.
func TestBeginsAtOne(t *testing.T) {
	for _, k := range []struct {
		c      api.Config
		at     int
		begins bool
	}{
		{ending(0, 1, 1, 1), api.Sharing, true}, {ending(0, 0, 0, 0), over, true}, {ending(1, 1, 1, 1), api.Registering, false}, {ending(-1, 1, 1, 1), api.Sharing, false}, {ending(-1, -1, -1, -1), over, false}, {ending(-1, -1, -1, 1), api.Submitting, false},
	} {
		if got, begins := phase.Begins(k.c, 1); got != k.at || begins != k.begins {
			t.Error(k.c.Ends, got, begins)
		}
		if got, begins := phase.Begins(k.c, 0); got != wantAt(k.c, 0) || begins {
			t.Error(k.c.Ends, got, begins)
		}
	}
}

// P13.1: At and Begins at all Ends of a few heights, right ones and others: the first End that is height or more is taken.
func TestAllSmallEnds(t *testing.T) {
	allEnds([]int{-1, 0, 1, 2, 3, 5}, func(ends [4]int) {
		for height := -3; height < 8; height++ {
			same(t, ending(ends[:]...), height)
		}
	})
}

// P13.1: At and Begins at Ends and heights at all edges, and far beyond them: nothing wraps.
func TestOddHeights(t *testing.T) {
	l := odd()
	for i := range 800 {
		c := ending(l[below(len(l), 4*i)], l[below(len(l), 4*i+1)], l[below(len(l), 4*i+2)], l[below(len(l), 4*i+3)])
		for _, height := range l {
			same(t, c, height)
		}
	}
	for _, height := range l {
		for _, c := range []api.Config{{}, right(), ending(5, 5, 5, 9), ending(1<<20, 1<<20, 1<<20, 1<<20), ending(math.MaxInt, 0, 0, 0), ending(0, 0, 0, math.MaxInt), ending(math.MinInt, math.MinInt, math.MinInt, math.MaxInt)} {
			same(t, c, height)
		}
	}
}

// P13.1: At and Begins one below, at and one above each End of mixed Configs.
func TestAroundEnds(t *testing.T) {
	for i := range 2000 {
		ends := []int{below(api.MaxHeight+1, 4*i), below(api.MaxHeight+1, 4*i+1), below(api.MaxHeight+1, 4*i+2), below(api.MaxHeight+1, 4*i+3)}
		slices.Sort(ends)
		for _, end := range ends {
			for _, height := range []int{end - 1, end, end + 1} {
				same(t, ending(ends...), height)
			}
		}
	}
}

// P13.1: which phase it is hangs on the Ends alone, whether all else is right or not.
func TestEndsAlone(t *testing.T) {
	for _, c := range []api.Config{right(), {T: -1}, {T: 64, Deposit: -7}, {Deposit: math.MaxInt}, {Money: make([]int, 99)}, {Money: []int{-1}}, {T: math.MinInt, Deposit: math.MinInt, Money: []int{math.MinInt}}} {
		c.Ends = [4]int{2, 4, 6, 8}
		for height := -2; height < 12; height++ {
			same(t, c, height)
		}
	}
}

// noneComesBack asks whether a phase that has gone is told again, at heights that go up.
func noneComesBack(t *testing.T, c api.Config, heights []int) {
	t.Helper()
	last, gone := phase.At(c, heights[0]), map[int]int{}
	for _, height := range heights {
		now := phase.At(c, height)
		if now != last {
			gone[last]++
			last = now
		}
		if gone[now] > 0 {
			t.Error(c.Ends, height, now)
		}
	}
}

// P13.2: with the height no phase comes back, and none is told behind a later one, whatever the Ends.
func TestNoneComesBack(t *testing.T) {
	var low []int
	for height := -3; height < 12; height++ {
		low = append(low, height)
	}
	allEnds([]int{-1, 0, 1, 2, 4, 9}, func(ends [4]int) { noneComesBack(t, ending(ends[:]...), low) })
	all := odd()
	slices.Sort(all)
	for i := range 2000 {
		noneComesBack(t, ending(all[below(len(all), 4*i)], all[below(len(all), 4*i+1)], all[below(len(all), 4*i+2)], all[below(len(all), 4*i+3)]), all)
	}
}

// P13.2: along all heights of a right Config the phases come in their order, each begins once, and none is over again.
func TestOrder(t *testing.T) {
	c := ending(1000, 1000, api.MaxHeight-5, api.MaxHeight)
	var begun []int
	for height := -10; height < api.MaxHeight+10; height++ {
		if now, begins := phase.Begins(c, height); begins {
			begun = append(begun, height, now)
		}
	}
	if !slices.Equal(begun, []int{1001, api.Disputing, api.MaxHeight - 4, api.Submitting, api.MaxHeight + 1, over}) {
		t.Error(begun)
	}
}

// P13.1: what is handed in is not changed, and what lies behind Money's length is not read.
func TestNothingChanged(t *testing.T) {
	for _, count := range []int{0, 1, 3, 15, 16} {
		room := slices.Repeat([]int{-7}, 40)
		for i := range count {
			room[i] = i
		}
		ahead := slices.Clone(room)
		c := with(func(c *api.Config) { c.Money = room[:count] })
		checkIs(t, c, api.OK)
		phase.At(c, 5)
		phase.Begins(c, 5)
		if !slices.Equal(room, ahead) || c.T != 2 || c.Deposit != 100 || c.Ends != [4]int{2, 4, 6, 8} || len(c.Money) != count {
			t.Error("changed:", c, room)
		}
		c.Money = room[:count+1]
		checkIs(t, c, api.ErrArg)
	}
}

// P13.1: nothing is kept: a later call tells what it would tell alone, also of a list that was changed between.
func TestNothingKept(t *testing.T) {
	c := right()
	for range 3 {
		checkIs(t, c, api.OK)
		same(t, c, 5)
		c.Money[1] = -1
		checkIs(t, c, api.ErrArg)
		same(t, ending(9, 3, -2, 70), 12)
		c.Money[1] = 600
		c.Ends[2] = 5
		checkIs(t, c, api.OK)
		same(t, c, 6)
		c.Ends[2] = 6
	}
}

// P13.1: calls that run side by side tell the same as others.
func TestSideBySide(t *testing.T) {
	c := right()
	var all sync.WaitGroup
	for range 8 {
		all.Go(func() {
			for height := -2; height < 200; height++ {
				checkIs(t, c, api.OK)
				same(t, c, height)
			}
		})
	}
	all.Wait()
}

// P13.1, P13.2: whatever is given, the calls go by the chapter's words.
func FuzzPhase(f *testing.F) {
	f.Add(2, 100, 2, 4, 6, 8, 500, 3, uint8(2))
	f.Add(-1, -1, 9, 3, -2, 1<<20+1, -1, math.MinInt, uint8(17))
	f.Add(64, 1<<40+1, 0, 0, 0, 0, 1<<40+1, 1, uint8(16))
	f.Fuzz(func(t *testing.T, number, deposit, a, b, c, d, has, height int, count uint8) {
		l := api.Config{T: number, Deposit: deposit, Ends: [4]int{a, b, c, d}, Money: make([]int, count%20)}
		for i := range l.Money {
			l.Money[i] = has
		}
		checkIs(t, l, wantCheck(l))
		for _, h := range []int{height, 0, 1, a, b, c, d} {
			same(t, l, h)
		}
		if height < math.MaxInt {
			noneComesBack(t, l, []int{height, height + 1})
		}
	})
}

func BenchmarkCheck(b *testing.B) {
	c := with(func(c *api.Config) { c.Money = make([]int, 16) })
	for b.Loop() {
		phase.Check(c)
	}
}

func BenchmarkBegins(b *testing.B) {
	c := right()
	for b.Loop() {
		phase.Begins(c, 9)
	}
}
