package field_test

import (
	"math"
	"math/big"
	"testing"

	"witan/api"
	"witan/field"
)

const full = math.MaxUint64

var whole = api.Num{full, full, full, full}

// bigOf is made digit by digit, so that it leans on no call of the program.
func bigOf(a api.Num) *big.Int {
	n := new(big.Int)
	for i := 3; i >= 0; i-- {
		n.Lsh(n, 64).Or(n, new(big.Int).SetUint64(a[i]))
	}
	return n
}

func numOf(n *big.Int) api.Num {
	var a api.Num
	rest, mask := new(big.Int).Set(n), new(big.Int).SetUint64(full)
	for i := range a {
		a[i] = new(big.Int).And(rest, mask).Uint64()
		rest.Rsh(rest, 64)
	}
	return a
}

func bytesOf(a api.Num) (b [32]byte) {
	bigOf(a).FillBytes(b[:])
	return b
}

func power(n uint) *big.Int { return new(big.Int).Lsh(big.NewInt(1), n) }

// primes are worked out as the chapter writes them.
func primes() map[int]*big.Int {
	p := power(256)
	p.Sub(p, power(32)).Sub(p, big.NewInt(977))
	less, _ := new(big.Int).SetString("432420386565659656852420866394968145599", 10)
	return map[int]*big.Int{api.P: p, api.N: less.Sub(power(256), less)}
}

// edges are 0, 1, and the neighbours of where digits, a modulus, or what is left of 2^256 turn.
func edges() []api.Num {
	l := []api.Num{{}, {1}, {2}, {3}, {full}, {0, 1}, {0, full, 0, full}, {full, 0, full}, {0, 0, 0, 1 << 63}, whole}
	for _, m := range primes() {
		gap := new(big.Int).Sub(power(256), m)
		for d := int64(-2); d <= 2; d++ {
			l = append(l, numOf(new(big.Int).Add(m, big.NewInt(d))), numOf(new(big.Int).Add(gap, big.NewInt(d))))
		}
		l = append(l, numOf(new(big.Int).Rsh(m, 1)), numOf(new(big.Int).Rsh(m, 2)))
	}
	return l
}

// mixed are numbers of all lengths without a pattern that a test could lean on; they are the same in every run.
func mixed(count int) []api.Num {
	l, x := make([]api.Num, count), uint64(1)
	for i := range l {
		for j := range l[i] {
			x = x*0x5851f42d4c957f2d + 0x14057b7ef767814f
			l[i][j] = x ^ x>>29
		}
		for j := 3; j > 3-i%5 && j > 0; j-- {
			l[i][j] = 0
		}
	}
	return l
}

func samples() []api.Num { return append(edges(), mixed(25)...) }

func is(t *testing.T, call string, which int, got api.Num, want *big.Int, given ...api.Num) {
	t.Helper()
	if bigOf(got).Cmp(want) != 0 {
		t.Fatalf("%s modulo %d of %x = %x, not %x", call, which, given, got, numOf(want))
	}
}

// P2.1: Prime.
func TestPrime(t *testing.T) {
	for which, m := range primes() {
		is(t, "Prime", which, field.Prime(which), m)
		if !m.ProbablyPrime(40) {
			t.Error(which, "the test's own modulus is no prime")
		}
	}
}

// P2.1: Read.
func TestRead(t *testing.T) {
	for which, m := range primes() {
		for _, a := range samples() {
			got, e := field.Read(which, bytesOf(a))
			if bigOf(a).Cmp(m) < 0 && (e != api.OK || got != a) || bigOf(a).Cmp(m) >= 0 && (e != api.ErrRange || got != api.Num{}) {
				t.Errorf("Read(%d, %x) = %x, %d", which, a, got, e)
			}
		}
	}
}

// P2.1: Read takes the highest byte first.
func TestReadOrder(t *testing.T) {
	for which := range primes() {
		low, e := field.Read(which, [32]byte{31: 7})
		high, f := field.Read(which, [32]byte{0: 7})
		if low != (api.Num{7}) || e != api.OK || high != (api.Num{0, 0, 0, 7 << 56}) || f != api.OK {
			t.Error(which, low, e, high, f)
		}
	}
}

// P2.1: Red.
func TestRed(t *testing.T) {
	for which, m := range primes() {
		for _, a := range samples() {
			is(t, "Red", which, field.Red(which, a), new(big.Int).Mod(bigOf(a), m), a)
		}
	}
}

// P2.1: Add, Sub, Mul of all pairs of samples, those that are not below the modulus among them.
func TestSumsAndProducts(t *testing.T) {
	for which, m := range primes() {
		for _, a := range samples() {
			for _, b := range samples() {
				x, y := bigOf(a), bigOf(b)
				want := new(big.Int)
				is(t, "Add", which, field.Add(which, a, b), want.Mod(want.Add(x, y), m), a, b)
				is(t, "Sub", which, field.Sub(which, a, b), want.Mod(want.Sub(x, y), m), a, b)
				is(t, "Mul", which, field.Mul(which, a, b), want.Mod(want.Mul(x, y), m), a, b)
			}
		}
	}
}

// P2.1: Mul where the product lies just at a multiple of the modulus, or of 2^256: what is left is near an edge.
func TestMulNearEdges(t *testing.T) {
	for which, m := range primes() {
		for _, a := range mixed(150) {
			x := bigOf(a)
			back := new(big.Int).ModInverse(x, m)
			for _, left := range edges() {
				want := new(big.Int).Mod(bigOf(left), m)
				b := new(big.Int).Mul(back, want)
				b.Mod(b, m)
				is(t, "Mul", which, field.Mul(which, a, numOf(b)), want, a, numOf(b))
			}
		}
	}
}

// P2.1: the modulus and its neighbours, 2^256 - 1.
func TestAtTheModulus(t *testing.T) {
	for which, m := range primes() {
		p, less := numOf(m), numOf(new(big.Int).Sub(m, big.NewInt(1)))
		rest := numOf(new(big.Int).Sub(bigOf(whole), m))
		for k, c := range []struct{ got, want api.Num }{
			{field.Red(which, p), api.Num{}},
			{field.Red(which, less), less},
			{field.Red(which, whole), rest},
			{field.Add(which, less, api.Num{1}), api.Num{}},
			{field.Add(which, p, p), api.Num{}},
			{field.Sub(which, api.Num{}, api.Num{1}), less},
			{field.Sub(which, p, p), api.Num{}},
			{field.Sub(which, p, api.Num{}), api.Num{}},
			{field.Sub(which, whole, p), rest},
			{field.Mul(which, less, less), api.Num{1}},
			{field.Mul(which, p, whole), api.Num{}},
			{field.Inv(which, less), less},
			{field.Inv(which, p), api.Num{}},
			{field.Pow(which, p, api.Num{1}), api.Num{}},
			{field.Pow(which, whole, api.Num{1}), rest},
		} {
			if c.got != c.want {
				t.Errorf("%d, modulo %d: %x, not %x", k, which, c.got, c.want)
			}
		}
	}
}

// P2.1: Pow. The power is a count: that of the modulus leads back to a, that of 0 to 1.
func TestPow(t *testing.T) {
	for which, m := range primes() {
		for _, a := range samples() {
			for _, e := range samples() {
				is(t, "Pow", which, field.Pow(which, a, e), new(big.Int).Exp(bigOf(a), bigOf(e), m), a, e)
			}
			left := field.Red(which, a)
			if field.Pow(which, a, api.Num{}) != (api.Num{1}) || field.Pow(which, a, api.Num{1}) != left || field.Pow(which, a, numOf(m)) != left {
				t.Errorf("powers of %x modulo %d", a, which)
			}
		}
	}
}

// P2.1: Inv.
func TestInv(t *testing.T) {
	for which, m := range primes() {
		for _, a := range samples() {
			want := new(big.Int).ModInverse(bigOf(a), m)
			if want == nil {
				want = new(big.Int)
			}
			is(t, "Inv", which, field.Inv(which, a), want, a)
		}
		if got := field.Inv(which, api.Num{}); got != (api.Num{}) {
			t.Errorf("of 0: %x", got)
		}
	}
}

// P2.1: where which is neither, each answers 0, and Read ErrArg, ahead of ErrRange.
func TestNeither(t *testing.T) {
	for _, which := range []int{-1, 2, 3, 256, 1 << 32, math.MinInt, math.MaxInt} {
		for _, a := range edges() {
			if got, e := field.Read(which, bytesOf(a)); got != (api.Num{}) || e != api.ErrArg {
				t.Fatalf("Read(%d, %x) = %x, %d", which, a, got, e)
			}
			for k, got := range []api.Num{
				field.Prime(which),
				field.Red(which, a),
				field.Add(which, a, api.Num{1}),
				field.Sub(which, a, api.Num{1}),
				field.Mul(which, a, a),
				field.Pow(which, a, a),
				field.Pow(which, a, api.Num{}),
				field.Inv(which, a),
			} {
				if got != (api.Num{}) {
					t.Fatalf("%d, which %d, of %x: %x", k, which, a, got)
				}
			}
		}
	}
}

// P2.2: Root, against big's, of samples, of squares, and of what is no square.
func TestRoot(t *testing.T) {
	p := primes()[api.P]
	roots, none := 0, 0
	for _, a := range append(samples(), mixed(200)...) {
		n := new(big.Int).Mod(bigOf(a), p)
		got, ok := field.Root(a)
		want := new(big.Int).ModSqrt(n, p)
		if want == nil {
			none++
			if ok || got != (api.Num{}) {
				t.Fatalf("Root(%x) = %x, %v", a, got, ok)
			}
			continue
		}
		roots++
		if want.Bit(0) == 1 {
			want.Sub(p, want)
		}
		if !ok || bigOf(got).Cmp(want) != 0 {
			t.Fatalf("Root(%x) = %x, %v", a, got, ok)
		}
	}
	if roots < 50 || none < 50 {
		t.Errorf("too few of one kind: %d, %d", roots, none)
	}
}

// P2.2: Root at its edges, with the chapter's example.
func TestRootEdges(t *testing.T) {
	p := primes()[api.P]
	at := func(d int64) api.Num { return numOf(new(big.Int).Add(p, big.NewInt(d))) }
	for _, c := range []struct {
		a, want api.Num
		ok      bool
	}{
		{api.Num{}, api.Num{}, true},
		{at(0), api.Num{}, true},
		{api.Num{1}, at(-1), true},
		{at(1), at(-1), true},
		{api.Num{4}, api.Num{2}, true},
		{at(4), api.Num{2}, true},
		{api.Num{9}, at(-3), true},
		{api.Num{16}, api.Num{4}, true},
		{at(-1), api.Num{}, false},
		{at(-4), api.Num{}, false},
	} {
		if got, ok := field.Root(c.a); got != c.want || ok != c.ok {
			t.Errorf("Root(%x) = %x, %v", c.a, got, ok)
		}
	}
}

// P2.3: the laws of a field.
func TestFields(t *testing.T) {
	for which := range primes() {
		add := func(a, b api.Num) api.Num { return field.Add(which, a, b) }
		mul := func(a, b api.Num) api.Num { return field.Mul(which, a, b) }
		for _, a := range samples() {
			left := field.Red(which, a)
			if add(a, api.Num{}) != left || mul(a, api.Num{1}) != left || add(a, field.Sub(which, api.Num{}, a)) != (api.Num{}) {
				t.Fatalf("nought and one, at %x", a)
			}
			if left != (api.Num{}) && mul(a, field.Inv(which, a)) != (api.Num{1}) {
				t.Fatalf("Inv of %x", a)
			}
			for _, b := range samples() {
				if add(a, b) != add(b, a) || mul(a, b) != mul(b, a) || add(field.Sub(which, a, b), b) != left {
					t.Fatalf("%x and %x", a, b)
				}
				for _, c := range mixed(5) {
					if add(add(a, b), c) != add(a, add(b, c)) || mul(mul(a, b), c) != mul(a, mul(b, c)) || mul(a, add(b, c)) != add(mul(a, b), mul(a, c)) {
						t.Fatalf("%x, %x, %x", a, b, c)
					}
				}
			}
		}
	}
}
