package limb_test

import (
	"math"
	"math/big"
	"testing"

	"witan/api"
	"witan/limb"
)

const full = math.MaxUint64

var whole = api.Num{full, full, full, full}

// bigOf is made digit by digit, so that it leans on none of the calls that are tested.
func bigOf(a api.Num) *big.Int {
	n := new(big.Int)
	for i := 3; i >= 0; i-- {
		n.Lsh(n, 64).Or(n, new(big.Int).SetUint64(a[i]))
	}
	return n
}

func bigTwo(hi, lo api.Num) *big.Int {
	n := bigOf(hi)
	return n.Lsh(n, 256).Add(n, bigOf(lo))
}

func power(n uint) *big.Int { return new(big.Int).Lsh(big.NewInt(1), n) }

// edges are numbers at which carries, borrows and digits turn.
func edges() []api.Num {
	return []api.Num{
		{}, {1}, {2}, {3}, {full}, {full - 1}, {0, 1}, {1, 1}, {full, full}, {0, 0, 1}, {0, full},
		{full, full, full}, {0, 0, 0, 1}, {full, 0, full}, {0, full, 0, full}, {0, 0, 0, full},
		{full, full, full, 1<<63 - 1}, {0, 0, 0, 1 << 63}, {1, 0, 0, 1 << 63},
		{full - 1, full, full, full}, whole,
		{0xfffffffefffffc2f, full, full, full},
		{0xbfd25e8cd0364141, 0xbaaedce6af48a03b, full - 1, full},
	}
}

// mixed are numbers of all lengths without a pattern that a test could lean on; they are the same in every run.
func mixed(count int) []api.Num {
	l, x := make([]api.Num, count), uint64(1)
	for i := range l {
		for j := range l[i] {
			x = x*0x5851f42d4c957f2d + 0x14057b7ef767814f
			l[i][j] = x ^ x>>29
		}
		for j := 3; j > 3-i%5 && j > 0; j-- {
			l[i][j] = 0
		}
	}
	return l
}

func samples() []api.Num { return append(edges(), mixed(25)...) }

// P1.1: Add.
func TestAdd(t *testing.T) {
	for _, a := range samples() {
		for _, b := range samples() {
			sum, carry := limb.Add(a, b)
			want := new(big.Int).Add(bigOf(a), bigOf(b))
			if carry > 1 || bigTwo(api.Num{carry}, sum).Cmp(want) != 0 {
				t.Fatalf("Add(%x, %x) = %x, %d", a, b, sum, carry)
			}
		}
	}
	if sum, carry := limb.Add(whole, api.Num{1}); sum != (api.Num{}) || carry != 1 {
		t.Errorf("2^256: %x, %d", sum, carry)
	}
	if sum, carry := limb.Add(whole, api.Num{}); sum != whole || carry != 0 {
		t.Errorf("2^256 - 1: %x, %d", sum, carry)
	}
}

// P1.1: Sub.
func TestSub(t *testing.T) {
	for _, a := range samples() {
		for _, b := range samples() {
			rest, borrow := limb.Sub(a, b)
			want, owed := new(big.Int).Sub(bigOf(a), bigOf(b)), uint64(0)
			if want.Sign() < 0 {
				want.Add(want, power(256))
				owed = 1
			}
			if borrow != owed || bigOf(rest).Cmp(want) != 0 {
				t.Fatalf("Sub(%x, %x) = %x, %d", a, b, rest, borrow)
			}
		}
	}
	if rest, borrow := limb.Sub(api.Num{}, api.Num{1}); rest != whole || borrow != 1 {
		t.Errorf("0 - 1: %x, %d", rest, borrow)
	}
	if rest, borrow := limb.Sub(whole, whole); rest != (api.Num{}) || borrow != 0 {
		t.Errorf("the same: %x, %d", rest, borrow)
	}
}

// P1.1: Mul, with the chapter's example.
func TestMul(t *testing.T) {
	for _, a := range samples() {
		for _, b := range samples() {
			lo, hi := limb.Mul(a, b)
			want := new(big.Int).Mul(bigOf(a), bigOf(b))
			if bigTwo(hi, lo).Cmp(want) != 0 {
				t.Fatalf("Mul(%x, %x) = %x, %x", a, b, lo, hi)
			}
		}
	}
	if lo, hi := limb.Mul(api.Num{0, 0, 0, 1 << 63}, api.Num{2}); lo != (api.Num{}) || hi != (api.Num{1}) {
		t.Errorf("2^255 times 2: %x, %x", lo, hi)
	}
	if lo, hi := limb.Mul(whole, whole); lo != (api.Num{1}) || hi != (api.Num{full - 1, full, full, full}) {
		t.Errorf("the greatest: %x, %x", lo, hi)
	}
}

// P1.1: Cmp.
func TestCmp(t *testing.T) {
	for _, a := range samples() {
		for _, b := range samples() {
			if got, want := limb.Cmp(a, b), bigOf(a).Cmp(bigOf(b)); got != want {
				t.Fatalf("Cmp(%x, %x) = %d", a, b, got)
			}
		}
	}
	if got := limb.Cmp(api.Num{full, full, full, 1}, api.Num{0, 0, 0, 2}); got != -1 {
		t.Errorf("the highest digit counts first: %d", got)
	}
}

// P1.1: Bit.
func TestBit(t *testing.T) {
	for _, a := range samples() {
		n := bigOf(a)
		for i := range 256 {
			if got, want := limb.Bit(a, i), int(n.Bit(i)); got != want {
				t.Fatalf("Bit(%x, %d) = %d", a, i, got)
			}
		}
	}
	for _, i := range []int{-1, -64, -256, math.MinInt, 256, 257, 320, 1 << 32, math.MaxInt} {
		if got := limb.Bit(whole, i); got != 0 {
			t.Errorf("Bit(whole, %d) = %d", i, got)
		}
	}
}

// P1.1: Len.
func TestLen(t *testing.T) {
	for _, a := range samples() {
		if got, want := limb.Len(a), bigOf(a).BitLen(); got != want {
			t.Fatalf("Len(%x) = %d", a, got)
		}
	}
	if got := limb.Len(api.Num{}); got != 0 {
		t.Errorf("Len(0) = %d", got)
	}
	for i := range 256 {
		var a api.Num
		a[i/64] = 1 << (i % 64)
		below, _ := limb.Sub(a, api.Num{1})
		if limb.Len(a) != i+1 || limb.Len(below) != i {
			t.Errorf("at 2^%d: %d, %d", i, limb.Len(a), limb.Len(below))
		}
	}
}

// P1.2: Of, Bytes.
func TestBytes(t *testing.T) {
	for _, a := range samples() {
		var want [32]byte
		bigOf(a).FillBytes(want[:])
		if got := limb.Bytes(a); got != want {
			t.Fatalf("Bytes(%x) = %x", a, got)
		}
		if got := limb.Of(want); got != a {
			t.Fatalf("Of(%x) = %x", want, got)
		}
	}
	for i := range 32 {
		b := [32]byte{}
		b[i] = 0x81
		want := new(big.Int).SetBytes(b[:])
		if got := limb.Of(b); bigOf(got).Cmp(want) != 0 || limb.Bytes(got) != b {
			t.Errorf("byte %d: %x", i, got)
		}
	}
}

// P1.2: Mod, of all pairs of samples and all moduli, numbers of 512 bits among them.
func TestMod(t *testing.T) {
	l := samples()
	for _, hi := range l {
		for _, lo := range l {
			n := bigTwo(hi, lo)
			for _, m := range l[1:] {
				got, e := limb.Mod(hi, lo, m)
				want := new(big.Int).Mod(n, bigOf(m))
				if e != api.OK || bigOf(got).Cmp(want) != 0 {
					t.Fatalf("Mod(%x, %x, %x) = %x, %d", hi, lo, m, got, e)
				}
			}
		}
	}
}

// P1.2: Mod at its edges, with the chapter's example.
func TestModEdges(t *testing.T) {
	top, below := api.Num{0, 0, 0, 1 << 63}, api.Num{full, full, full, 1<<63 - 1}
	for k, c := range []struct{ hi, lo, m, want api.Num }{
		{api.Num{1}, api.Num{}, api.Num{3}, api.Num{1}},
		{api.Num{}, api.Num{}, api.Num{1}, api.Num{}},
		{api.Num{}, api.Num{}, whole, api.Num{}},
		{whole, whole, api.Num{1}, api.Num{}},
		{whole, whole, api.Num{2}, api.Num{1}},
		{whole, whole, whole, api.Num{}},
		{whole, whole, top, below},
		{api.Num{}, whole, whole, api.Num{}},
		{api.Num{full - 1, full, full, full}, whole, whole, api.Num{full - 1, full, full, full}},
	} {
		if got, e := limb.Mod(c.hi, c.lo, c.m); got != c.want || e != api.OK {
			t.Errorf("%d: %x, %d", k, got, e)
		}
	}
}

// P1.2: Mod of the modulus 0 tells ErrArg, and 0 beside it (R4).
func TestModOfNought(t *testing.T) {
	for _, hi := range edges() {
		for _, lo := range edges() {
			if got, e := limb.Mod(hi, lo, api.Num{}); got != (api.Num{}) || e != api.ErrArg {
				t.Fatalf("Mod(%x, %x, 0) = %x, %d", hi, lo, got, e)
			}
		}
	}
}

// P1.3: what was added and taken away again is what it was, and so the other way round; what was carried is borrowed.
func TestThereAndBack(t *testing.T) {
	for _, a := range samples() {
		for _, b := range samples() {
			sum, carry := limb.Add(a, b)
			if back, borrow := limb.Sub(sum, b); back != a || borrow != carry {
				t.Fatalf("%x and %x: %x, %d", a, b, back, borrow)
			}
			rest, borrow := limb.Sub(a, b)
			if back, carry := limb.Add(rest, b); back != a || carry != borrow {
				t.Fatalf("%x less %x: %x, %d", a, b, back, carry)
			}
		}
	}
}
