package curve_test

import (
	"bytes"
	"math"
	"math/big"
	"testing"

	"witan/api"
	"witan/curve"
)

const full = math.MaxUint64

var (
	whole = api.Num{full, full, full, full}
	inf   = api.Point{Inf: true}
)

func hexBig(s string) *big.Int {
	n, ok := new(big.Int).SetString(s, 16)
	if !ok {
		panic(s)
	}
	return n
}

var (
	prime  = hexBig("fffffffffffffffffffffffffffffffffffffffffffffffffffffffefffffc2f")
	points = hexBig("fffffffffffffffffffffffffffffffebaaedce6af48a03bbfd25e8cd0364141")
	g      = api.Point{
		X: numOf(hexBig("79be667ef9dcbbac55a06295ce870b07029bfcdb2dce28d959f2815b16f81798")),
		Y: numOf(hexBig("483ada7726a3c4655da4fbfc0e1108a8fd17b448a68554199c47d08ffb10d4b8")),
	}
)

// bigOf is made digit by digit, so that it leans on no call of the program.
func bigOf(a api.Num) *big.Int {
	n := new(big.Int)
	for i := 3; i >= 0; i-- {
		n.Lsh(n, 64).Or(n, new(big.Int).SetUint64(a[i]))
	}
	return n
}

func numOf(n *big.Int) api.Num {
	var a api.Num
	rest, mask := new(big.Int).Set(n), new(big.Int).SetUint64(full)
	for i := range a {
		a[i] = new(big.Int).And(rest, mask).Uint64()
		rest.Rsh(rest, 64)
	}
	return a
}

func left(n *big.Int) *big.Int { return n.Mod(n, prime) }

func product(a, b *big.Int) *big.Int { return left(new(big.Int).Mul(a, b)) }

func minus(a, b *big.Int) *big.Int { return left(new(big.Int).Sub(a, b)) }

// equation tells x x x + 7.
func equation(x *big.Int) *big.Int {
	return left(new(big.Int).Add(product(x, product(x, x)), big.NewInt(7)))
}

// fits asks the chapter's words for a point.
func fits(p api.Point) bool {
	if p.Inf {
		return p.X == api.Num{} && p.Y == api.Num{}
	}
	x, y := bigOf(p.X), bigOf(p.Y)
	return x.Cmp(prime) < 0 && y.Cmp(prime) < 0 && product(y, y).Cmp(equation(x)) == 0
}

func turned(p api.Point) api.Point {
	if p.Inf {
		return p
	}
	return api.Point{X: p.X, Y: numOf(minus(new(big.Int), bigOf(p.Y)))}
}

// sum is the chapter's sum, step by step.
func sum(p, q api.Point) api.Point {
	if p.Inf {
		return q
	}
	if q.Inf {
		return p
	}
	if p.X == q.X && p == turned(q) {
		return inf
	}
	x1, y1, x2, y2 := bigOf(p.X), bigOf(p.Y), bigOf(q.X), bigOf(q.Y)
	rise, run := minus(y2, y1), minus(x2, x1)
	if p == q {
		rise, run = product(big.NewInt(3), product(x1, x1)), product(big.NewInt(2), y1)
	}
	k := product(rise, new(big.Int).ModInverse(run, prime))
	x := minus(minus(product(k, k), x1), x2)
	y := minus(product(k, minus(x1, x)), y1)
	return api.Point{X: numOf(x), Y: numOf(y)}
}

type multiple struct {
	n api.Num
	p api.Point
}

// told keeps what times has told: a multiple takes hundreds of slow sums.
var told = map[multiple]api.Point{}

// times goes from the lowest bit up, the other way round than the program.
func times(n *big.Int, p api.Point) api.Point {
	key := multiple{numOf(n), p}
	if was, ok := told[key]; ok {
		return was
	}
	all := inf
	for i := 0; i < n.BitLen(); i++ {
		if n.Bit(i) == 1 {
			all = sum(all, p)
		}
		p = sum(p, p)
	}
	told[key] = all
	return all
}

// mixed are numbers without a pattern that a test could lean on; they are the same in every run.
func mixed(count int) []api.Num {
	l, x := make([]api.Num, count), uint64(1)
	for i := range l {
		for j := range l[i] {
			x = x*0x5851f42d4c957f2d + 0x14057b7ef767814f
			l[i][j] = x ^ x>>29
		}
	}
	return l
}

// counts are multiples at the edges, and others.
func counts() []api.Num {
	l := []api.Num{{}, {1}, {2}, {3}, {4}, {full}, {0, 1}, {0, 0, 0, 1 << 63}, whole, numOf(prime)}
	for d := int64(-3); d <= 3; d++ {
		l = append(l, numOf(new(big.Int).Add(points, big.NewInt(d))))
	}
	half := new(big.Int).Rsh(points, 1)
	l = append(l, numOf(half), numOf(new(big.Int).Add(half, big.NewInt(1))))
	return append(l, mixed(6)...)
}

// some are Inf, small multiples of G, others, and the counterparts of all.
func some() []api.Point {
	l := []api.Point{inf, g}
	for n := int64(2); n < 6; n++ {
		l = append(l, times(big.NewInt(n), g))
	}
	for _, n := range mixed(4) {
		l = append(l, times(bigOf(n), g))
	}
	for _, p := range l {
		l = append(l, turned(p))
	}
	return l
}

// smallX tells a point whose X is so small that X and p are below 2^256.
func smallX() api.Point {
	for x := int64(1); ; x++ {
		y := new(big.Int).ModSqrt(equation(big.NewInt(x)), prime)
		if y != nil {
			return api.Point{X: api.Num{uint64(x)}, Y: numOf(y)}
		}
	}
}

// smallY tells a point whose Y is so small that Y and p are below 2^256. As p is 7 modulo 9, a cube's root is its power (p + 2) / 9.
func smallY() api.Point {
	power := new(big.Int).Add(prime, big.NewInt(2))
	power.Div(power, big.NewInt(9))
	for y := int64(1); ; y++ {
		x := new(big.Int).Exp(minus(big.NewInt(y*y), big.NewInt(7)), power, prime)
		p := api.Point{X: numOf(x), Y: api.Num{uint64(y)}}
		if fits(p) {
			return p
		}
	}
}

func above(a api.Num) api.Num { return numOf(new(big.Int).Add(bigOf(a), prime)) }

// wrong are no points.
func wrong() []api.Point {
	l := []api.Point{
		{}, {X: api.Num{1}}, {Y: api.Num{1}}, {X: whole, Y: whole},
		{Inf: true, X: api.Num{1}}, {Inf: true, Y: api.Num{1}}, {Inf: true, X: api.Num{0, 0, 0, 1}}, {Inf: true, Y: api.Num{0, 0, 0, 1}}, {Inf: true, X: g.X, Y: g.Y},
		{X: g.X, Y: whole}, {X: whole, Y: g.Y}, {X: g.X, Y: numOf(prime)}, {X: numOf(prime), Y: g.Y}, {X: g.Y, Y: g.X}, {X: g.X}, {Y: g.Y},
		{X: above(smallX().X), Y: smallX().Y}, {X: smallY().X, Y: above(smallY().Y)},
	}
	for i := range g.X {
		x, y := g, g
		x.X[i] ^= 1
		y.Y[i] ^= 1
		l = append(l, x, y)
	}
	return l
}

func is(t *testing.T, call string, got api.Point, e api.Errno, want api.Point, given ...any) {
	t.Helper()
	if got != want || e != api.OK {
		t.Errorf("%s of %v = %v, %d, not %v", call, given, got, e, want)
	}
}

// The chapter's own points and the test's are what they should be.
func TestReference(t *testing.T) {
	for _, p := range append(some(), smallX(), smallY()) {
		if !fits(p) {
			t.Error(p)
		}
	}
	for _, p := range wrong() {
		if fits(p) {
			t.Error(p)
		}
	}
	if times(points, g) != inf {
		t.Error("G")
	}
}

// P3.1: Check.
func TestCheck(t *testing.T) {
	for _, p := range append(some(), smallX(), smallY()) {
		if e := curve.Check(p); e != api.OK {
			t.Errorf("Check(%v) = %d", p, e)
		}
	}
	for _, p := range wrong() {
		if e := curve.Check(p); e != api.ErrPoint {
			t.Errorf("Check(%v) = %d", p, e)
		}
	}
}

// P3.1: Neg.
func TestNeg(t *testing.T) {
	for _, p := range append(some(), smallX(), smallY()) {
		got, e := curve.Neg(p)
		is(t, "Neg", got, e, turned(p), p)
	}
}

// P3.1: Add, of all pairs: Inf on either side, a point and itself, a point and its counterpart.
func TestAdd(t *testing.T) {
	for _, p := range some() {
		for _, q := range some() {
			got, e := curve.Add(p, q)
			is(t, "Add", got, e, sum(p, q), p, q)
		}
	}
}

// P3.1: Times.
func TestTimes(t *testing.T) {
	for _, n := range counts() {
		for _, p := range []api.Point{inf, g, turned(g), smallX(), some()[7]} {
			got, e := curve.Times(n, p)
			is(t, "Times", got, e, times(bigOf(n), p), n, p)
		}
	}
}

// P3.1: Times of 0, 1, n less one, n, n and one.
func TestTimesEdges(t *testing.T) {
	for _, p := range some() {
		for d, want := range map[int64]api.Point{-1: turned(p), 0: inf, 1: p} {
			got, e := curve.Times(numOf(new(big.Int).Add(points, big.NewInt(d))), p)
			is(t, "Times of n", got, e, want, d, p)
		}
		got, e := curve.Times(api.Num{}, p)
		is(t, "Times", got, e, inf, 0, p)
		got, e = curve.Times(api.Num{1}, p)
		is(t, "Times", got, e, p, 1, p)
	}
}

// P3.1: Base, and the chapter's example.
func TestBase(t *testing.T) {
	is(t, "Base", curve.Base(api.Num{1}), api.OK, g, 1)
	is(t, "Base", curve.Base(numOf(points)), api.OK, inf, "n")
	for _, n := range append(counts(), mixed(20)...) {
		is(t, "Base", curve.Base(n), api.OK, times(bigOf(n), g), n)
	}
	p := inf
	for n := uint64(0); n < 70; n++ {
		is(t, "Base", curve.Base(api.Num{n}), api.OK, p, n)
		p = sum(p, g)
	}
}

// P3.1: Two, also where both parts are the same, or one takes away what the other tells.
func TestTwo(t *testing.T) {
	l := some()[:4]
	for i, n := range counts() {
		for j, m := range counts() {
			p := l[(i+j)%4]
			q := [3]api.Point{p, turned(p), l[j%4]}[(i+j)%3]
			got, e := curve.Two(n, p, m, q)
			is(t, "Two", got, e, sum(times(bigOf(n), p), times(bigOf(m), q)), n, p, m, q)
		}
	}
}

// P3.1: Two of small multiples, of which sums along the way meet.
func TestTwoSmall(t *testing.T) {
	for a := int64(0); a < 12; a++ {
		for b := int64(0); b < 12; b++ {
			p, q := times(big.NewInt(3), g), times(big.NewInt(7), turned(g))
			all := new(big.Int).Mod(big.NewInt(3*a-7*b), points)
			got, e := curve.Two(api.Num{uint64(a)}, p, api.Num{uint64(b)}, q)
			is(t, "Two", got, e, times(all, g), a, b)
		}
	}
}

// P3.1, P3.2: each call that is handed points asks for them first; beside the error stands nothing.
func TestWrongPoints(t *testing.T) {
	for _, p := range wrong() {
		for _, n := range []api.Num{{}, {1}, {5}, numOf(points)} {
			for _, other := range []api.Point{inf, g, p} {
				none(t, "Neg", p)(curve.Neg(p))
				none(t, "Add", p)(curve.Add(p, other))
				none(t, "Add", p)(curve.Add(other, p))
				none(t, "Times", p)(curve.Times(n, p))
				none(t, "Two", p)(curve.Two(n, p, api.Num{1}, other))
				none(t, "Two", p)(curve.Two(api.Num{1}, other, n, p))
			}
		}
		if b, e := curve.Bytes(p); len(b) != 0 || e != api.ErrPoint {
			t.Errorf("Bytes(%v) = %x, %d", p, b, e)
		}
	}
}

func none(t *testing.T, call string, p api.Point) func(api.Point, api.Errno) {
	return func(got api.Point, e api.Errno) {
		t.Helper()
		if got != (api.Point{}) || e != api.ErrPoint {
			t.Errorf("%s(%v) = %v, %d", call, p, got, e)
		}
	}
}

// laid tells the bytes of a point by the chapter's words.
func laid(p api.Point) []byte {
	if p.Inf {
		return []byte{0}
	}
	b := make([]byte, 33)
	b[0] = byte(2 + p.Y[0]%2)
	bigOf(p.X).FillBytes(b[1:])
	return b
}

// P3.2, P3.3: Bytes and Read, of Inf, of even and of odd Y, there and back.
func TestBytes(t *testing.T) {
	first := [4]int{}
	for _, p := range append(some(), smallX(), turned(smallX()), smallY(), turned(smallY())) {
		b, e := curve.Bytes(p)
		if !bytes.Equal(b, laid(p)) || e != api.OK {
			t.Errorf("Bytes(%v) = %x, %d", p, b, e)
		}
		first[b[0]]++
		got, e := curve.Read(laid(p))
		is(t, "Read", got, e, p, laid(p))
		again, e := curve.Bytes(got)
		if !bytes.Equal(again, laid(p)) || e != api.OK {
			t.Errorf("Bytes of Read of %x = %x, %d", laid(p), again, e)
		}
	}
	if first[0] == 0 || first[1] != 0 || first[2] == 0 || first[3] == 0 {
		t.Error(first)
	}
}

// P3.2: each answer is new memory, and what is handed in stays as it was, with its spare room.
func TestBytesMemory(t *testing.T) {
	for _, p := range []api.Point{inf, g} {
		one, _ := curve.Bytes(p)
		two, _ := curve.Bytes(p)
		for i := range one[:cap(one)] {
			one[:cap(one)][i] = 0xaa
		}
		if !bytes.Equal(two, laid(p)) {
			t.Errorf("%x", two)
		}
		room := append(laid(p), 9, 9, 9)
		given := room[:len(room)-3]
		curve.Read(given)
		if !bytes.Equal(room, append(laid(p), 9, 9, 9)) {
			t.Errorf("%x", room)
		}
	}
}

func with(first byte, x *big.Int) []byte {
	b := make([]byte, 33)
	b[0] = first
	x.FillBytes(b[1:])
	return b
}

func unread(t *testing.T, b []byte, want api.Errno) {
	t.Helper()
	if p, e := curve.Read(b); p != (api.Point{}) || e != want {
		t.Errorf("Read(%x) = %v, %d, not %d", b, p, e, want)
	}
}

// P3.2: Read tells ErrBytes ahead of all.
func TestReadBytes(t *testing.T) {
	unread(t, nil, api.ErrBytes)
	for first := 0; first < 256; first++ {
		f := byte(first)
		if first != 0 {
			unread(t, []byte{f}, api.ErrBytes)
		}
		if first != 2 && first != 3 {
			for _, x := range []*big.Int{bigOf(g.X), prime, new(big.Int), bigOf(whole)} {
				unread(t, with(f, x), api.ErrBytes)
			}
		}
	}
	for n := 2; n < 70; n++ {
		for first := byte(0); n != 33 && first < 5; first++ {
			unread(t, append([]byte{first}, make([]byte, n-1)...), api.ErrBytes)
			unread(t, append([]byte{first}, bytes.Repeat([]byte{255}, n-1)...), api.ErrBytes)
		}
	}
	unread(t, laid(g)[:32], api.ErrBytes)
	unread(t, append(laid(g), 0), api.ErrBytes)
	unread(t, laid(g)[:1], api.ErrBytes)
}

// P3.2: Read tells ErrRange from p on, whether or not what is left of X has a point.
func TestReadRange(t *testing.T) {
	for first := byte(2); first < 4; first++ {
		for d := int64(0); d < 20; d++ {
			unread(t, with(first, new(big.Int).Add(prime, big.NewInt(d))), api.ErrRange)
		}
		unread(t, with(first, bigOf(above(smallX().X))), api.ErrRange)
		unread(t, with(first, bigOf(whole)), api.ErrRange)
	}
}

// P3.2: Read tells the point of each X below p that has one, ErrPoint of each other.
func TestReadPoint(t *testing.T) {
	l := []*big.Int{}
	for d := int64(0); d < 40; d++ {
		l = append(l, big.NewInt(d), new(big.Int).Sub(prime, big.NewInt(d+1)))
	}
	for _, n := range mixed(20) {
		l = append(l, left(bigOf(n)))
	}
	seen := map[bool]int{}
	for _, x := range l {
		y := new(big.Int).ModSqrt(equation(x), prime)
		seen[y != nil]++
		for first := uint(2); first < 4; first++ {
			b := with(byte(first), x)
			if y == nil {
				unread(t, b, api.ErrPoint)
				continue
			}
			if y.Bit(0) != first-2 {
				y = minus(prime, y)
			}
			got, e := curve.Read(b)
			is(t, "Read", got, e, api.Point{X: numOf(x), Y: numOf(y)}, b)
		}
	}
	if seen[true] < 10 || seen[false] < 10 {
		t.Error(seen)
	}
}

// added is Add where nothing may be wrong.
func added(t *testing.T, p, q api.Point) api.Point {
	t.Helper()
	s, e := curve.Add(p, q)
	if e != api.OK || curve.Check(s) != api.OK {
		t.Errorf("Add(%v, %v) = %v, %d", p, q, s, e)
	}
	return s
}

// P3.3: points are a group.
func TestGroup(t *testing.T) {
	l := some()[:8]
	for _, p := range l {
		back, _ := curve.Neg(p)
		if added(t, p, inf) != p || added(t, inf, p) != p || added(t, p, back) != inf || added(t, back, p) != inf {
			t.Error(p)
		}
		for _, q := range l {
			if added(t, p, q) != added(t, q, p) {
				t.Error(p, q)
			}
			for _, r := range l {
				if added(t, added(t, p, q), r) != added(t, p, added(t, q, r)) {
					t.Error(p, q, r)
				}
			}
		}
	}
}

// P3.3: multiples of multiples, sums of multiples, and n times each point.
func TestMultiples(t *testing.T) {
	for _, n := range mixed(5) {
		p := curve.Base(n)
		got, e := curve.Times(numOf(points), p)
		is(t, "Times of n", got, e, inf, p)
		for _, m := range counts() {
			both := new(big.Int).Mul(bigOf(n), bigOf(m))
			got, e := curve.Times(m, p)
			is(t, "Times", got, e, curve.Base(numOf(both.Mod(both, points))), m, n)
			both.Add(bigOf(n), bigOf(m))
			is(t, "Add", added(t, p, curve.Base(m)), api.OK, curve.Base(numOf(both.Mod(both, points))), m, n)
		}
	}
	for _, p := range []api.Point{smallX(), smallY()} {
		got, e := curve.Times(numOf(points), p)
		is(t, "Times of n", got, e, inf, p)
	}
}
