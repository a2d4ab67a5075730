package feld_test

import (
	"encoding/hex"
	"math/big"
	"slices"
	"sync"
	"testing"

	"witan/api"
	"witan/curve"
	"witan/feld"
)

const full = 1<<64 - 1

var (
	inf    = api.Point{Inf: true}
	g      = curve.Base(api.Num{1})
	points = bigOf(number("fffffffffffffffffffffffffffffffebaaedce6af48a03bbfd25e8cd0364141"))
)

func unhex(s string) []byte {
	b, err := hex.DecodeString(s)
	if err != nil {
		panic(err)
	}
	return b
}

func number(s string) api.Num { return numOf(new(big.Int).SetBytes(unhex(s))) }

func numbers(l ...string) (a []api.Num) {
	for _, s := range l {
		a = append(a, number(s))
	}
	return a
}

func read(l ...string) (a []api.Point) {
	for _, s := range l {
		p, e := curve.Read(unhex(s))
		if e != api.OK {
			panic(s)
		}
		a = append(a, p)
	}
	return a
}

func bigOf(a api.Num) *big.Int {
	n := new(big.Int)
	for i := 3; i >= 0; i-- {
		n.Lsh(n, 64).Or(n, new(big.Int).SetUint64(a[i]))
	}
	return n
}

func numOf(n *big.Int) (a api.Num) {
	for i := range a {
		a[i] = new(big.Int).Rsh(n, uint(64*i)).Uint64()
	}
	return a
}

// left tells what is left of a number, which may be below 0, modulo n.
func left(n *big.Int) api.Num { return numOf(new(big.Int).Mod(n, points)) }

func small(l ...int64) (a []api.Num) {
	for _, n := range l {
		a = append(a, left(big.NewInt(n)))
	}
	return a
}

// raised tells a number above n that stands for the small number.
func raised(n int64) api.Num { return numOf(new(big.Int).Add(points, big.NewInt(n))) }

// mixed are numbers below 2^256 without a pattern that a test could lean on; they are the same in every run.
func mixed(count int, seed uint64) []api.Num {
	l, x := make([]api.Num, count), seed
	for i := range l {
		for k := range l[i] {
			x = x*0x5851f42d4c957f2d + 0x14057b7ef767814f
			l[i][k] = x ^ x>>29
		}
	}
	return l
}

// spots are places at which something may change.
func spots() []api.Num {
	l := small(0, 1, 2, 3, 8, -1, -2)
	return append(l, raised(0), raised(1), raised(2), api.Num{full, full, full, full}, api.Num{full}, api.Num{0, 1}, mixed(1, 3)[0])
}

// found are points of which nobody knows what multiples of G they are, those with the least X from a number on, by turns with an even and an odd Y.
func found(count int, from uint64) (l []api.Point) {
	for x := from; len(l) < count; x++ {
		b := make([]byte, 33)
		b[0] = byte(2 + len(l)%2)
		new(big.Int).SetUint64(x).FillBytes(b[1:])
		if p, e := curve.Read(b); e == api.OK {
			l = append(l, p)
		}
	}
	return l
}

// wrong are what are no points, each in a way of its own.
func wrong() []api.Point {
	whole, prime := api.Num{full, full, full, full}, api.Num{0xfffffffefffffc2f, full, full, full}
	// Its X is so small that X and p is below 2^256: it stands for the X of a point, but is not below p.
	low := found(1, 1)[0]
	raisedX := numOf(new(big.Int).Add(bigOf(low.X), bigOf(prime)))
	return []api.Point{
		{}, {X: g.X}, {Y: g.Y}, {X: g.Y, Y: g.X}, {Inf: true, X: g.X, Y: g.Y}, {Inf: true, X: api.Num{1}}, {Inf: true, Y: api.Num{1}},
		{X: whole, Y: whole}, {X: raisedX, Y: low.Y}, {X: g.X, Y: api.Num{g.Y[0] ^ 1, g.Y[1], g.Y[2], g.Y[3]}},
	}
}

func added(p, q api.Point) api.Point {
	s, e := curve.Add(p, q)
	if e != api.OK {
		panic(e)
	}
	return s
}

func times(n api.Num, p api.Point) api.Point {
	s, e := curve.Times(n, p)
	if e != api.OK {
		panic(e)
	}
	return s
}

func turned(p api.Point) api.Point { return times(small(-1)[0], p) }

// worth is what a polynomial is worth, in the chapter's words.
func worth(c []api.Num, x api.Num) api.Num {
	sum := new(big.Int)
	for i, a := range c {
		power := new(big.Int).Exp(bigOf(x), big.NewInt(int64(i)), points)
		sum.Add(sum, power.Mul(power, bigOf(a)))
	}
	return left(sum)
}

// wantAt is the chapter's sum, power by power.
func wantAt(l []api.Point, x api.Num) api.Point {
	sum := inf
	for i, p := range l {
		power := new(big.Int).Exp(bigOf(x), big.NewInt(int64(i)), points)
		sum = added(sum, times(numOf(power), p))
	}
	return sum
}

// wantSum goes from the last list to the first, the other way round than the program.
func wantSum(l [][]api.Point) (s []api.Point) {
	for i := range l[0] {
		sum := inf
		for k := len(l) - 1; k >= 0; k-- {
			sum = added(l[k][i], sum)
		}
		s = append(s, sum)
	}
	return s
}

// committed is Commit where nothing may be wrong.
func committed(t *testing.T, c []api.Num) []api.Point {
	t.Helper()
	l, e := feld.Commit(c)
	if e != api.OK || len(l) != len(c) {
		t.Fatalf("Commit(%x) = %v, %d", c, l, e)
	}
	return l
}

func isCommit(t *testing.T, want []api.Point, c []api.Num) {
	t.Helper()
	if got, e := feld.Commit(c); !slices.Equal(got, want) || e != api.OK {
		t.Errorf("Commit(%x) = %v, %d, not %v", c, got, e, want)
	}
}

func isAt(t *testing.T, want api.Point, l []api.Point, x api.Num) {
	t.Helper()
	if got, e := feld.At(l, x); got != want || e != api.OK {
		t.Errorf("At(%v, %x) = %v, %d, not %v", l, x, got, e, want)
	}
}

func isFits(t *testing.T, want bool, l []api.Point, x, y api.Num) {
	t.Helper()
	if got, e := feld.Fits(l, x, y); got != want || e != api.OK {
		t.Errorf("Fits(%v, %x, %x) = %t, %d, not %t", l, x, y, got, e, want)
	}
}

func isSum(t *testing.T, want []api.Point, l ...[]api.Point) {
	t.Helper()
	if got, e := feld.Sum(l); !slices.Equal(got, want) || e != api.OK {
		t.Errorf("Sum(%v) = %v, %d, not %v", l, got, e, want)
	}
}

// unmade asks Commit of those coefficients: it tells ErrLen, and nothing beside it.
func unmade(t *testing.T, c []api.Num) {
	t.Helper()
	if l, e := feld.Commit(c); len(l) != 0 || e != api.ErrLen {
		t.Errorf("Commit of %d = %v, %d", len(c), l, e)
	}
}

// refused asks At and Fits of those points, at all kinds of places: they tell that error, and nothing beside it.
func refused(t *testing.T, want api.Errno, l []api.Point) {
	t.Helper()
	for _, x := range spots() {
		if p, e := feld.At(l, x); p != (api.Point{}) || e != want {
			t.Errorf("At(%d points, %x) = %v, %d, not %d", len(l), x, p, e, want)
		}
		for _, y := range small(0, 1) {
			if is, e := feld.Fits(l, x, y); is || e != want {
				t.Errorf("Fits(%d points, %x, %x) = %t, %d, not %d", len(l), x, y, is, e, want)
			}
		}
	}
}

// unsummed asks Sum of those lists: it tells that error, and nothing beside it.
func unsummed(t *testing.T, want api.Errno, l ...[]api.Point) {
	t.Helper()
	if s, e := feld.Sum(l); len(s) != 0 || e != want {
		t.Errorf("Sum(%d lists) = %v, %d, not %d", len(l), s, e, want)
	}
}

// P7.1: the chapter's example: 5 + 3x is 11 at 2.
func TestExample(t *testing.T) {
	l := committed(t, small(5, 3))
	isFits(t, true, l, api.Num{2}, api.Num{11})
	isFits(t, false, l, api.Num{2}, api.Num{10})
	isFits(t, false, l, api.Num{2}, api.Num{12})
	isFits(t, false, l, api.Num{3}, api.Num{11})
	isAt(t, curve.Base(api.Num{11}), l, api.Num{2})
}

// P7.1: Commit, At and Fits: answers that were worked out by another program.
func TestKnown(t *testing.T) {
	c := numbers("122c597083bd438b7f6d72af75d025948899647711b806bdd2cd82fa69713db3", "d0f631ca1ddba8db3bcfcb9e057cdc98d0379f1bee00e75a545147a27dadd982", "9c0abe51c6e6655d81de2d044d4fb194931f058c0426c67c7285d8f5657ed64a", "7c1c97df17c066924822b0af09a65251554962c61e23329aed04cd19020dc3b8")
	l := read("02afce5324c5ccdaee4d7cc5153580cce622676e936dfde7fe92e32c26136aadff", "035a4f9078045507578a067a3310809c89efd5c2997868ee041bee94e3f11640d5", "02019367fcdea9586afd1294ef7177339470d38865e38a278662609c93d987877e", "02643a3bf9fbf631e119e91b222d83d74edcf3de174f2eb907abfa3d92250674f0")
	x := number("2d711642b726b04401627ca9fbac32f5c8530fb1903cc4db02258717921a4881")
	isCommit(t, l, c)
	isAt(t, read("024e814fe188afe623abd2e6cbe1db43a76afb5334ff9050d489613f6a13f5c6d7")[0], l, x)
	isFits(t, true, l, x, number("a9947464c6445828538b7d23fc3fda34ebc6798bd1b6d3b3e75a43ce14c0bb78"))
	isFits(t, false, l, x, number("a9947464c6445828538b7d23fc3fda34ebc6798bd1b6d3b3e75a43ce14c0bb79"))
}

// P7.1, P7.2: At and Sum of points that no Commit made: answers that were worked out by another program.
func TestKnownPoints(t *testing.T) {
	l := read("02169b5b823c62b64ca7e5f8456a13c8d5d06f4ece522a58bc2b8a784dcf3609b0", "02f64551fcd6f07823cb87971cfb91446425da18286b3ab1ef935e0cbd7a69f68b", "023946ca64ff78d93ca61090a437cbb6b3d2ca0d488f5f9ccf3059608368b27694")
	m := read("02341c0a3e67c3146720fa1b9504927ece5f5daefadaad467dddfd2ff04ba039be", "02c75de8c1b7c3ae5252091267a736a9bf57001d80e82668b3cb3cd09e2f6a43cc", "02bee98bf120e8906382754c6be52860ac5dbc65a1ca4dbee7576267d8fd3367e4")
	isAt(t, read("02140fbbec3b825a26a95114714c50e412e93d9631ec4fcb339c2efbc6ef9062df")[0], l, number("2d711642b726b04401627ca9fbac32f5c8530fb1903cc4db02258717921a4881"))
	isAt(t, read("03966783efbbd8ca38bb907450691840be2903ba2a5ac05ebd13fcda0cb37d2504")[0], l, api.Num{2})
	isSum(t, read("027ab14f058e33a922118e46c2b15a2540ad2ee6a1b6ac5f44dc0d20fadbbaf35d", "03559d925d6a9d604175a28724efab64ce742c80f7194afbb5b42d3033135f7129", "0298d589352809a624eb237570d6d31eb442630eeb59aaaa32fe514b75b2e67967"), l, m)
	isSum(t, read("02a2086f44d6a800caea9a8d7e1485757b9d545413d26a54090dd9b5b8f6cded94", "03f240c1808e439e26f4ba4e2ef0b899e52f5e390ea4ae62eb4ed058ec008f06e9", "03192022a76e49b1fa1263e72148b353f9085a5a66b06d64d1ca384d234da276fa"), l, m, l)
}

// P7.1: Commit of none and of more coefficients, up to MaxCoeffs, of 0 and of numbers from n on, each at its place.
func TestCommit(t *testing.T) {
	isCommit(t, nil, nil)
	isCommit(t, nil, []api.Num{})
	minus := turned(g)
	isCommit(t, []api.Point{g, inf, minus, inf, g, minus, inf}, append(small(1, 0, -1), raised(0), raised(1), raised(-1), api.Num{}))
	isCommit(t, []api.Point{added(g, g), added(g, added(g, g))}, small(2, 3))
	c := append(mixed(api.MaxCoeffs-len(spots()), 1), spots()...)
	var want []api.Point
	for _, a := range c {
		want = append(want, times(a, g))
	}
	for _, n := range []int{1, 2, 3, 8, 9, 32, api.MaxCoeffs - 1, api.MaxCoeffs} {
		isCommit(t, want[:n], c[:n])
		isCommit(t, want[len(c)-n:], c[len(c)-n:])
	}
	isCommit(t, slices.Repeat([]api.Point{inf}, api.MaxCoeffs), make([]api.Num, api.MaxCoeffs))
}

// P7.1: more than MaxCoeffs are refused, by At and Fits ahead of ErrPoint; just MaxCoeffs are not.
func TestLength(t *testing.T) {
	many := slices.Repeat([]api.Point{g}, 1<<16)
	for _, n := range []int{api.MaxCoeffs + 1, api.MaxCoeffs + 2, 2 * api.MaxCoeffs, 256, 257, 1 << 16} {
		unmade(t, make([]api.Num, n))
		unmade(t, slices.Repeat(small(1), n))
		refused(t, api.ErrLen, many[:n])
		refused(t, api.ErrLen, make([]api.Point, n))
	}
	for _, n := range []int{api.MaxCoeffs - 1, api.MaxCoeffs} {
		isCommit(t, many[:n], slices.Repeat(small(1), n))
		isAt(t, curve.Base(api.Num{uint64(n)}), many[:n], api.Num{1})
		isFits(t, true, many[:n], api.Num{1}, api.Num{uint64(n)})
		for _, i := range []int{0, 31, n - 1} {
			l := slices.Clone(many[:n+2])
			l[i] = api.Point{}
			refused(t, api.ErrPoint, l[:n])
			refused(t, api.ErrLen, l[:api.MaxCoeffs+1])
		}
	}
}

// P7.1: what is no point is refused at whatever place, also where it counts for nothing, as at 0.
func TestWrongPoints(t *testing.T) {
	for _, bad := range wrong() {
		refused(t, api.ErrPoint, []api.Point{bad})
		for i := range 4 {
			l := found(4, 1)
			l[i] = bad
			refused(t, api.ErrPoint, l)
			unsummed(t, api.ErrPoint, l)
			unsummed(t, api.ErrPoint, found(4, 9), l)
			unsummed(t, api.ErrPoint, l, found(4, 9))
			unsummed(t, api.ErrPoint, l, l)
		}
		refused(t, api.ErrPoint, []api.Point{inf, bad})
		refused(t, api.ErrPoint, []api.Point{bad, bad})
	}
}

// P7.1: At of no points is Inf, of one that one, and of more what they are by hand.
func TestAtSmall(t *testing.T) {
	p, q, r := found(3, 1)[0], found(3, 1)[1], found(3, 1)[2]
	for _, x := range spots() {
		isAt(t, inf, nil, x)
		isAt(t, inf, []api.Point{}, x)
		isAt(t, inf, []api.Point{inf}, x)
		isAt(t, inf, slices.Repeat([]api.Point{inf}, 5), x)
		isAt(t, p, []api.Point{p}, x)
		isAt(t, p, []api.Point{p, inf, inf}, x)
		isAt(t, times(x, p), []api.Point{inf, p}, x)
		isAt(t, added(p, times(x, q)), []api.Point{p, q}, x)
	}
	all := []api.Point{p, q, r}
	isAt(t, p, all, api.Num{})
	isAt(t, p, all, raised(0))
	isAt(t, added(p, added(q, r)), all, api.Num{1})
	isAt(t, added(p, added(q, r)), all, raised(1))
	isAt(t, added(p, added(turned(q), r)), all, small(-1)[0])
	isAt(t, added(p, added(added(q, q), times(api.Num{4}, r))), all, api.Num{2})
	// Along the way two are the same, or take each other away.
	isAt(t, times(api.Num{7}, p), []api.Point{p, p, p}, api.Num{2})
	isAt(t, inf, []api.Point{p, turned(p)}, api.Num{1})
	isAt(t, inf, []api.Point{times(api.Num{4}, p), turned(times(api.Num{2}, p))}, api.Num{2})
	isAt(t, p, []api.Point{p, times(api.Num{2}, p), turned(p)}, api.Num{2})
}

// P7.1: At, of each number of points, as the chapter writes it.
func TestAt(t *testing.T) {
	l := found(api.MaxCoeffs, 1)
	for n := range 9 {
		for _, x := range append(spots(), mixed(3, uint64(n))...) {
			isAt(t, wantAt(l[:n], x), l[:n], x)
			other := slices.Clone(l[:n])
			slices.Reverse(other)
			isAt(t, wantAt(other, x), other, x)
		}
	}
	for _, n := range []int{9, 16, 33, 63, 64} {
		for _, x := range []api.Num{{1}, {8}, raised(3), mixed(1, 5)[0]} {
			isAt(t, wantAt(l[:n], x), l[:n], x)
		}
	}
}

// P7.1: At of commitments, of which some are Inf, is G times what the polynomial is worth.
func TestAtCommit(t *testing.T) {
	for i, c := range [][]api.Num{small(0), small(0, 0, 1), small(5, 3), small(-8, 0, 0, 1), small(1, -1, 1, -1), {raised(5), raised(0), raised(-1)}, mixed(1, 1), mixed(4, 2), mixed(8, 3)} {
		l := committed(t, c)
		for _, x := range append(spots(), mixed(2, uint64(i))...) {
			isAt(t, times(worth(c, x), g), l, x)
		}
	}
	c := mixed(api.MaxCoeffs, 4)
	isAt(t, times(worth(c, c[9]), g), committed(t, c), c[9])
}

// P7.3: at each place what the polynomial is worth fits, also as a number above n, and nothing else does.
func TestFits(t *testing.T) {
	for i, c := range [][]api.Num{nil, small(0), small(7), small(5, 3), small(-8, 0, 0, 1), {raised(5), raised(3)}, mixed(3, 2), mixed(8, 3)} {
		l := committed(t, c)
		for _, x := range append(spots(), mixed(2, uint64(i))...) {
			y := worth(c, x)
			isFits(t, true, l, x, y)
			if more := new(big.Int).Add(bigOf(y), points); more.BitLen() <= 256 {
				isFits(t, true, l, x, numOf(more))
			}
			for _, d := range []int64{1, -1, 2, 1 << 40} {
				isFits(t, false, l, x, left(new(big.Int).Add(bigOf(y), big.NewInt(d))))
			}
			for k := range y {
				other := y
				other[k] ^= 1 << 63
				isFits(t, false, l, x, other)
			}
			// What is turned fits only if it is the same.
			minus := left(new(big.Int).Neg(bigOf(y)))
			isFits(t, minus == y, l, x, minus)
		}
	}
}

// P7.3: of no commitments, and of those of nothing, 0 alone fits, and n, which stands for it.
func TestFitsNothing(t *testing.T) {
	for _, l := range [][]api.Point{nil, {}, {inf}, slices.Repeat([]api.Point{inf}, api.MaxCoeffs)} {
		for _, x := range spots() {
			isFits(t, true, l, x, api.Num{})
			isFits(t, true, l, x, raised(0))
			isFits(t, false, l, x, api.Num{1})
			isFits(t, false, l, x, small(-1)[0])
			isFits(t, false, l, x, raised(1))
		}
	}
}

// P7.3: a share fits neither another place, nor commitments of which one is another's, or which stand in another order.
func TestFitsNothingElse(t *testing.T) {
	c := mixed(5, 7)
	l := committed(t, c)
	for x := range uint64(9) {
		y := worth(c, api.Num{x})
		for other := range uint64(9) {
			isFits(t, other == x, l, api.Num{other}, y)
		}
		for i := range l {
			bad := slices.Clone(l)
			bad[i] = added(bad[i], g)
			// At 0 the first commitment alone counts.
			isFits(t, x == 0 && i != 0, bad, api.Num{x}, y)
		}
		swapped := []api.Point{l[0], l[2], l[1], l[3], l[4]}
		isFits(t, x == 0 || x == 1, swapped, api.Num{x}, y)
		isFits(t, x == 0, l[:4], api.Num{x}, y)
		isFits(t, true, append(slices.Clone(l), inf, inf), api.Num{x}, y)
	}
}

// P7.1: Fits of points that are not known as multiples of G: no number fits but those that are found by hand.
func TestFitsPoints(t *testing.T) {
	p := found(1, 1)[0]
	l := []api.Point{p, turned(p), g}
	isFits(t, true, l, api.Num{1}, api.Num{1})
	isFits(t, false, l, api.Num{}, api.Num{1})
	isFits(t, false, l, api.Num{2}, api.Num{4})
	isFits(t, false, l, api.Num{1}, small(-1)[0])
}

// P7.2: Sum of none, of empty lists, of one list.
func TestSumSmall(t *testing.T) {
	isSum(t, nil)
	for n := range api.MaxDealers + 1 {
		isSum(t, nil, make([][]api.Point, n)...)
		isSum(t, nil, slices.Repeat([][]api.Point{{}, nil}, api.MaxDealers)[:n]...)
	}
	l := append(found(5, 1), inf)
	isSum(t, l, l)
	isSum(t, []api.Point{inf}, []api.Point{inf})
	isSum(t, []api.Point{inf}, []api.Point{inf}, []api.Point{inf})
	p, q := l[0], l[1]
	isSum(t, []api.Point{added(p, q), inf, p, q, inf, added(p, p)}, []api.Point{p, p, p, inf, inf, p}, []api.Point{q, turned(p), inf, q, inf, p})
	isSum(t, []api.Point{p, q}, []api.Point{p, p}, []api.Point{p, q}, []api.Point{turned(p), turned(p)})
	isSum(t, []api.Point{times(api.Num{8}, p)}, slices.Repeat([][]api.Point{{p}}, 8)...)
}

// P7.2: Sum, place by place, of each number of lists, and in whatever order; of lists that are as long as may be.
func TestSum(t *testing.T) {
	all := found(64, 1)
	for n := 1; n <= api.MaxDealers; n++ {
		for _, length := range []int{1, 2, 3, 8} {
			var l [][]api.Point
			for i := range n {
				l = append(l, all[length*i:length*i+length])
			}
			want := wantSum(l)
			isSum(t, want, l...)
			slices.Reverse(l)
			isSum(t, want, l...)
		}
	}
	most := [][]api.Point{all, all, slices.Repeat([]api.Point{g}, 64), found(64, 1000), all, all, all, all}
	isSum(t, wantSum(most), most...)
	isSum(t, wantSum([][]api.Point{all[1:], all[:63]}), all[1:], all[:63])
}

// P7.2, P7.3: the sum of commitments is that of the summed polynomials: summed shares fit it.
func TestSumFits(t *testing.T) {
	for n := 1; n <= api.MaxDealers; n++ {
		var l [][]api.Point
		total := make([]api.Num, 4)
		for i := range n {
			c := mixed(4, uint64(10*n+i))
			l = append(l, committed(t, c))
			for k := range c {
				total[k] = left(new(big.Int).Add(bigOf(total[k]), bigOf(c[k])))
			}
		}
		isSum(t, committed(t, total), l...)
		s, _ := feld.Sum(l)
		for _, x := range small(0, 1, 2, 8) {
			isFits(t, true, s, x, worth(total, x))
			isFits(t, false, s, x, left(new(big.Int).Add(bigOf(worth(total, x)), big.NewInt(1))))
		}
	}
}

// P7.2: more than MaxDealers lists are refused, whatever they are.
func TestSumOfMany(t *testing.T) {
	for _, n := range []int{api.MaxDealers + 1, api.MaxDealers + 2, 16, 256, 257, 1 << 16} {
		for _, list := range [][]api.Point{nil, {}, {g}, {{}}, found(3, 1), make([]api.Point, 65)} {
			unsummed(t, api.ErrLen, slices.Repeat([][]api.Point{list}, n)...)
		}
	}
	isSum(t, []api.Point{times(api.Num{8}, g)}, slices.Repeat([][]api.Point{{g}}, api.MaxDealers)...)
}

// P7.2: lists of which one is longer or shorter than the others are refused, whichever it is, and ahead of ErrPoint.
func TestSumUneven(t *testing.T) {
	l, none := found(6, 1), make([]api.Point, 6)
	for n := 2; n <= api.MaxDealers; n++ {
		for odd := range n {
			for _, length := range []int{0, 1, 2, 4, 5, 6} {
				for _, points := range [][]api.Point{l, none} {
					lists := slices.Repeat([][]api.Point{points[:3]}, n)
					lists[odd] = points[:length]
					unsummed(t, api.ErrLen, lists...)
					lists[odd] = none[:length]
					unsummed(t, api.ErrLen, lists...)
				}
			}
		}
	}
	unsummed(t, api.ErrLen, l[:1], nil)
	unsummed(t, api.ErrLen, nil, l[:1])
	unsummed(t, api.ErrLen, l[:2], l[:3], l[:1])
}

// P7.2: lists that are longer than MaxCoeffs are refused, ahead of ErrPoint; just MaxCoeffs are not.
func TestSumLong(t *testing.T) {
	for _, n := range []int{api.MaxCoeffs + 1, api.MaxCoeffs + 2, 256, 257, 1 << 16} {
		for _, long := range [][]api.Point{slices.Repeat([]api.Point{g}, n), slices.Repeat([]api.Point{inf}, n), make([]api.Point, n)} {
			unsummed(t, api.ErrLen, long)
			unsummed(t, api.ErrLen, long, long)
			unsummed(t, api.ErrLen, long, long[:64])
			unsummed(t, api.ErrLen, long[:64], long)
		}
	}
	most := slices.Repeat([]api.Point{g}, api.MaxCoeffs)
	isSum(t, most, most)
	unsummed(t, api.ErrPoint, make([]api.Point, api.MaxCoeffs))
	bad := slices.Clone(most)
	bad[api.MaxCoeffs-1] = api.Point{}
	unsummed(t, api.ErrPoint, most, most, most, most, most, most, most, bad)
	unsummed(t, api.ErrPoint, bad, most, most, most, most, most, most, most)
}

// room is a memory with l in the middle of it.
func room[T any](l []T, fill T) []T {
	around := slices.Repeat([]T{fill}, 70)
	return slices.Concat(around, l, around)
}

// P7.1, P7.2, R2: what lies ahead of and behind a list is neither read nor written, and its own elements stay as they were.
func TestNothingElseMatters(t *testing.T) {
	for _, n := range []int{0, 1, 3, 8} {
		c, l := mixed(n, 1), found(n, 1)
		commits, at, sum := committed(t, c), wantAt(l, api.Num{3}), wantSum([][]api.Point{l, l})
		for i, fill := range []api.Point{inf, g, {}} {
			nums, all := room(c, api.Num{uint64(i)}), room(l, fill)
			numsBefore, allBefore := slices.Clone(nums), slices.Clone(all)
			for _, end := range []int{70 + n, len(all)} {
				list := all[70 : 70+n : end]
				isCommit(t, commits, nums[70:70+n:end])
				isAt(t, at, list, api.Num{3})
				lists := room([][]api.Point{list, list}, all)
				isSum(t, sum, lists[70:72]...)
				if len(lists[69]) != len(all) || len(lists[70]) != n || len(lists[72]) != len(all) {
					t.Fatalf("%d points beside %v: a list is moved", n, fill)
				}
			}
			if !slices.Equal(nums, numsBefore) || !slices.Equal(all, allBefore) {
				t.Fatalf("%d points beside %v: memory is written to", n, fill)
			}
		}
	}
}

// spoil writes over a list and over its spare room.
func spoil(l []api.Point) {
	l = l[:cap(l)]
	for i := range l {
		l[i] = api.Point{X: api.Num{99}}
	}
}

// P7.1, P7.2, R2: each answer is new memory, its spare room too, also of one list, and also where an earlier answer is handed in.
func TestNewMemory(t *testing.T) {
	for _, n := range []int{1, 2, 3, 8, 64} {
		c := mixed(n, 2)
		own := slices.Clone(c)
		want := committed(t, c)
		one, two := committed(t, c), committed(t, c)
		spoil(one)
		if !slices.Equal(two, want) || !slices.Equal(c, own) {
			t.Errorf("Commit of %d: another answer, or what was handed in, has changed", n)
		}
		for _, l := range [][][]api.Point{{two}, {two, two}, {two, want, two}} {
			first, e := feld.Sum(l)
			second, f := feld.Sum(l)
			sum := wantSum(l)
			spoil(first)
			if e != api.OK || f != api.OK || !slices.Equal(second, sum) || !slices.Equal(two, want) {
				t.Errorf("Sum of %d of %d: another answer, or what was handed in, has changed", len(l), n)
			}
			isSum(t, sum, l...)
			third, _ := feld.Sum([][]api.Point{second})
			spoil(third)
			if !slices.Equal(second, sum) {
				t.Errorf("Sum of %d of %d: an answer that was handed in has changed", len(l), n)
			}
		}
		isCommit(t, want, c)
	}
}

// P7.1, P7.2, R3: what is handed in is not kept, and whatever is asked between them, two calls with the same arguments answer the same.
func TestNothingIsKept(t *testing.T) {
	c, l := mixed(4, 1), found(4, 1)
	commits, at, sum := committed(t, c), wantAt(l, api.Num{5}), wantSum([][]api.Point{l, l})
	for i := range 4 {
		isCommit(t, commits, c)
		isAt(t, at, l, api.Num{5})
		isSum(t, sum, l, l)
		c[i][0] ^= 1
		l[i] = turned(l[i])
		isCommit(t, []api.Point{times(c[0], g), times(c[1], g), times(c[2], g), times(c[3], g)}, c)
		isAt(t, wantAt(l, api.Num{5}), l, api.Num{5})
		isSum(t, wantSum([][]api.Point{l, l}), l, l)
		c[i][0] ^= 1
		l[i] = turned(l[i])
		refused(t, api.ErrPoint, []api.Point{l[0], {}})
		unsummed(t, api.ErrLen, l, l[1:])
	}
}

// P7.1, P7.2, R3: calls side by side answer as calls one behind the other.
func TestSideBySide(t *testing.T) {
	c, l := mixed(6, 1), found(6, 1)
	commits, sum := committed(t, c), wantSum([][]api.Point{l, l})
	var wait sync.WaitGroup
	for i := range uint64(8) {
		wait.Go(func() {
			for n := range uint64(5) {
				x := api.Num{8*n + i}
				isCommit(t, commits, c)
				isAt(t, wantAt(l, x), l, x)
				isFits(t, true, commits, x, worth(c, x))
				isSum(t, sum, l, l)
			}
		})
	}
	wait.Wait()
}

func BenchmarkCommit(b *testing.B) {
	c := mixed(api.MaxCoeffs, 1)
	b.ReportAllocs()
	for b.Loop() {
		feld.Commit(c)
	}
}

func BenchmarkAt(b *testing.B) {
	l, x := found(api.MaxCoeffs, 1), mixed(1, 1)[0]
	b.ReportAllocs()
	for b.Loop() {
		feld.At(l, x)
	}
}

func BenchmarkAtSmall(b *testing.B) {
	l := found(api.MaxCoeffs, 1)
	b.ReportAllocs()
	for b.Loop() {
		feld.At(l, api.Num{7})
	}
}

func BenchmarkSum(b *testing.B) {
	l := slices.Repeat([][]api.Point{found(api.MaxCoeffs, 1)}, api.MaxDealers)
	b.ReportAllocs()
	for b.Loop() {
		feld.Sum(l)
	}
}
