package poly_test

import (
	"encoding/binary"
	"math/big"
	"slices"
	"sync"
	"testing"

	"witan/api"
	"witan/field"
	"witan/poly"
)

var points = number("fffffffffffffffffffffffffffffffebaaedce6af48a03bbfd25e8cd0364141")

func number(s string) *big.Int {
	n, ok := new(big.Int).SetString(s, 16)
	if !ok {
		panic(s)
	}
	return n
}

func numOf(n *big.Int) (a api.Num) {
	var b [32]byte
	n.FillBytes(b[:])
	for i := range a {
		a[3-i] = binary.BigEndian.Uint64(b[8*i:])
	}
	return a
}

func bigOf(a api.Num) *big.Int {
	var b [32]byte
	for i := range a {
		binary.BigEndian.PutUint64(b[8*i:], a[3-i])
	}
	return new(big.Int).SetBytes(b[:])
}

func hex(l ...string) (a []api.Num) {
	for _, s := range l {
		a = append(a, numOf(number(s)))
	}
	return a
}

// left tells what is left of a number, which may be below 0, modulo n.
func left(n *big.Int) *big.Int { return new(big.Int).Mod(n, points) }

func small(l ...int64) (a []api.Num) {
	for _, n := range l {
		a = append(a, numOf(left(big.NewInt(n))))
	}
	return a
}

// raised tells a number above n that stands for the small number.
func raised(n int64) api.Num { return numOf(new(big.Int).Add(points, big.NewInt(n))) }

// mixed are numbers below 2^256 without a pattern that a test could lean on; they are the same in every run.
func mixed(count int, seed uint64) []api.Num {
	l, x := make([]api.Num, count), seed
	for i := range l {
		for k := range l[i] {
			x = x*0x5851f42d4c957f2d + 0x14057b7ef767814f
			l[i][k] = x ^ x>>29
		}
	}
	return l
}

// edges are the numbers at which something may change: they stand for numbers that are not the same, but for the last ones.
func edges() []api.Num {
	top := api.Num{1<<64 - 1, 1<<64 - 1, 1<<64 - 1, 1<<64 - 1}
	l := small(0, 1, 2, 3, -1, -2, -3)
	l = append(l, top, api.Num{1<<64 - 1}, api.Num{0, 1}, api.Num{0, 0, 0, 1 << 63}, field.Inv(api.N, api.Num{2}))
	return append(l, raised(0), raised(1), raised(2))
}

// apart are the first edges, no two of which are the same modulo n.
func apart() []api.Num { return edges()[:12] }

// lists are places that are not the same modulo n, small, great, above n, mixed, with a 0 and without.
func lists() [][]api.Num {
	var up, down []api.Num
	for i := range int64(api.MaxCoeffs) {
		up = append(up, small(i+1)...)
		down = append(down, small(-i)...)
	}
	return [][]api.Num{
		small(0), small(1), small(-1), {raised(0)}, {raised(7)}, small(1, 2), small(2, 1), small(0, 1), small(1, 0), small(-1, 1),
		small(1, 2, 3), small(3, 1, 2), small(5, 0, 9), {raised(5), raised(0), raised(9)}, {raised(1), {2}, raised(3), {4}},
		apart(), edges()[3:], mixed(2, 1), mixed(3, 2), mixed(8, 3), mixed(63, 4), mixed(64, 5), up, down, up[:63], down[:8],
	}
}

func wantEval(c []api.Num, x api.Num) api.Num {
	sum := new(big.Int)
	for i, a := range c {
		power := new(big.Int).Exp(bigOf(x), big.NewInt(int64(i)), points)
		sum.Add(sum, power.Mul(power, bigOf(a)))
	}
	return numOf(left(sum))
}

func wantWeight(xs []api.Num, i int) *big.Int {
	w := big.NewInt(1)
	for j := range xs {
		if j != i {
			gap := new(big.Int).Sub(bigOf(xs[j]), bigOf(xs[i]))
			w.Mul(w, bigOf(xs[j]))
			w.Mul(w, gap.ModInverse(left(gap), points))
			w.Mod(w, points)
		}
	}
	return w
}

func wantWeights(xs []api.Num) (l []api.Num) {
	for i := range xs {
		l = append(l, numOf(wantWeight(xs, i)))
	}
	return l
}

func wantZero(l []api.Share) api.Num {
	sum := new(big.Int)
	for i, share := range l {
		w := wantWeight(places(l), i)
		sum.Add(sum, w.Mul(w, bigOf(share.Y)))
	}
	return numOf(left(sum))
}

func places(l []api.Share) (xs []api.Num) {
	for _, share := range l {
		xs = append(xs, share.X)
	}
	return xs
}

func sharesOf(xs, ys []api.Num) (l []api.Share) {
	for i := range xs {
		l = append(l, api.Share{X: xs[i], Y: ys[i]})
	}
	return l
}

// sharesAt are those of the polynomial c at the places.
func sharesAt(c, xs []api.Num) (l []api.Share) {
	for _, x := range xs {
		l = append(l, api.Share{X: x, Y: wantEval(c, x)})
	}
	return l
}

func isEval(t *testing.T, want api.Num, c []api.Num, x api.Num) {
	t.Helper()
	if got := poly.Eval(c, x); got != want {
		t.Errorf("Eval(%.3x, %x) = %x, not %x", c, x, got, want)
	}
}

func areWeights(t *testing.T, want, xs []api.Num) {
	t.Helper()
	if got, e := poly.Weights(xs); !slices.Equal(got, want) || e != api.OK {
		t.Errorf("Weights(%x) = %x, %d, not %x", xs, got, e, want)
	}
}

func isZero(t *testing.T, want api.Num, l []api.Share) {
	t.Helper()
	if got, e := poly.Zero(l); got != want || e != api.OK {
		t.Errorf("Zero(%x) = %x, %d, not %x", l, got, e, want)
	}
}

func isThrough(t *testing.T, want []api.Num, l []api.Share) {
	t.Helper()
	if got, e := poly.Through(l); !slices.Equal(got, want) || e != api.OK {
		t.Errorf("Through(%x) = %x, %d, not %x", l, got, e, want)
	}
}

// refused asks Weights, Zero and Through of those places: all tell that error, and nothing beside it.
func refused(t *testing.T, want api.Errno, xs []api.Num) {
	t.Helper()
	l := sharesOf(xs, mixed(len(xs), 1))
	if got, e := poly.Weights(xs); len(got) != 0 || e != want {
		t.Errorf("Weights of %d = %x, %d, not %d", len(xs), got, e, want)
	}
	if got, e := poly.Zero(l); got != (api.Num{}) || e != want {
		t.Errorf("Zero of %d = %x, %d, not %d", len(l), got, e, want)
	}
	if got, e := poly.Through(l); len(got) != 0 || e != want {
		t.Errorf("Through of %d = %x, %d, not %d", len(l), got, e, want)
	}
}

// P6.2: the chapter's example: 2 + 3x.
func TestExample(t *testing.T) {
	l := []api.Share{{X: api.Num{1}, Y: api.Num{5}}, {X: api.Num{2}, Y: api.Num{8}}}
	isZero(t, api.Num{2}, l)
	isThrough(t, small(2, 3), l)
}

// P6.1, P6.2: answers that were worked out by another program, the coefficients by elimination.
func TestKnown(t *testing.T) {
	xs := hex("b70a14ee1e15d7aa94bd810ec06f4cb77a346e8f33aef6bfeae3d7c4442d7a93", "ec31682fde561917952ff78a7a8adeffd0febc372dd26871916c46c630381b45", "844ecc08164e2eab27634a9adee1afa6599e589570e719784e080ce747fc0e45", "844b69c4d54cc264bc2dadb6bb70f53bc123beafc0f58d81ed8cd4a07c24a5a7")
	ys := hex("ea29aff4f763a1dbbe46bc514fcb1b30a3242b07a477117fc79e2e476c94e449", "03e0769b10886aef0ff2170851dd67d41755c87037c4319d9901e7fdf518c485", "ad4063bd788deb6e33c38277838197a09aea6c4c94ead7fb948da1f6bac447ee", "ab67eec2395b9f39493bac6d9b3fb81c7c4ba7fbd7f0c73bd84e7970352d3553")
	c := hex("a7d6cd896833b75cdf06d994e0de082dc97207dd494469e4e97b2f2763bb6dbf", "f2504e29f80b407dfcf2029d549d4b21c1916f37b13f0b09f655adf5a207c118", "66b469a9a78dee3bb0e735a3ef7e74c8471f847a7e880ce911f23d94501b050f", "ec288bd888fbb106a823268f3ab59600707f2679c54c453f2a60fc8af32bf825")
	isEval(t, hex("9b7095a667681eca80e86fe0c9760cf39159783aa40741a4cdf2e08056ff36e9")[0], ys, xs[0])
	areWeights(t, hex("38400919b1cc119b6a83d8f4618b61549f4dc32ef3504e0fb1494da6ef01f0f8", "28e5e8896a4c2d8ec5a8ac9c99911ed99c960667a9aec621f0d439cd44a5a150", "321d435ac400b4bca34b0b99097a773a569289341bf5b1b7451bb4006283a7b0", "6cbccb021fe70c192c886ed5fb69089628388a1bf653da52d89923183a0b074a"), xs)
	isZero(t, c[0], sharesOf(xs, ys))
	isThrough(t, c, sharesOf(xs, ys))
	for i, x := range xs {
		isEval(t, ys[i], c, x)
	}
	areWeights(t, hex("55555555555555555555555555555554e8e4f44ce51835693ff0ca2ef01215c2", "aaaaaaaaaaaaaaaaaaaaaaaaaaaaaaa9d1c9e899ca306ad27fe1945de0242b80"), small(2, 5))
}

// P6.1: Eval of no coefficients, of one, of small ones, at 0, at 1, below 0.
func TestEvalSmall(t *testing.T) {
	for _, x := range edges() {
		isEval(t, api.Num{}, nil, x)
		isEval(t, api.Num{}, []api.Num{}, x)
		isEval(t, api.Num{}, make([]api.Num, 5), x)
		isEval(t, api.Num{7}, small(7), x)
		isEval(t, api.Num{7}, []api.Num{raised(7)}, x)
		isEval(t, numOf(left(bigOf(x))), small(0, 1), x)
	}
	isEval(t, api.Num{321}, small(1, 2, 3), api.Num{10})
	isEval(t, api.Num{1}, small(1, 2, 3), api.Num{})
	isEval(t, api.Num{1}, small(1, 2, 3), raised(0))
	isEval(t, api.Num{6}, small(1, 2, 3), api.Num{1})
	isEval(t, api.Num{2}, small(1, 2, 3), small(-1)[0])
	isEval(t, small(-1)[0], small(3, -2), api.Num{2})
	isEval(t, api.Num{}, []api.Num{raised(0), raised(0), raised(0)}, api.Num{9})
	isEval(t, api.Num{}, small(-8, 0, 0, 1), api.Num{2})
}

// P6.1: Eval of all numbers of coefficients, of more than MaxCoeffs too, and of coefficients and places above n.
func TestEval(t *testing.T) {
	for n := range api.MaxCoeffs + 10 {
		c := mixed(n, uint64(n))
		for _, x := range append(edges(), mixed(3, 7)...) {
			isEval(t, wantEval(c, x), c, x)
		}
	}
	for _, a := range edges() {
		for _, b := range edges() {
			for _, x := range edges() {
				isEval(t, wantEval([]api.Num{a, b, a}, x), []api.Num{a, b, a}, x)
			}
		}
	}
}

// P6.1: Eval has no bound: of very many ones it is worth their number at 1, and at -1 nothing, or 1.
func TestEvalOfMany(t *testing.T) {
	c := slices.Repeat(small(1), 1<<17+1)
	isEval(t, api.Num{1<<17 + 1}, c, api.Num{1})
	isEval(t, api.Num{1}, c, small(-1)[0])
	isEval(t, api.Num{}, c[1:], small(-1)[0])
}

// P6.1: Weights that can be worked out by hand: those of the first numbers are binomials with signs; at a 0 that one counts alone.
func TestWeightsSmall(t *testing.T) {
	areWeights(t, small(1), small(9))
	areWeights(t, small(1), small(0))
	areWeights(t, small(1), []api.Num{raised(0)})
	areWeights(t, small(2, -1), small(1, 2))
	areWeights(t, small(-1, 2), small(2, 1))
	areWeights(t, small(3, -3, 1), small(1, 2, 3))
	areWeights(t, small(5, -10, 10, -5, 1), small(1, 2, 3, 4, 5))
	areWeights(t, small(1, 0), small(0, 4))
	areWeights(t, small(0, 1, 0), small(4, 0, 7))
	areWeights(t, small(0, 0, 1), []api.Num{{4}, {7}, raised(0)})
	areWeights(t, small(3, -3, 1), []api.Num{raised(1), raised(2), raised(3)})
}

// P6.1: Weights as the chapter writes them; they stand in the order of the places, are below n, and sum up to 1.
func TestWeights(t *testing.T) {
	for _, xs := range lists() {
		areWeights(t, wantWeights(xs), xs)
		got, _ := poly.Weights(xs)
		sum := new(big.Int)
		for _, w := range got {
			sum.Add(sum, bigOf(w))
			if bigOf(w).Cmp(points) >= 0 {
				t.Errorf("Weights(%x): %x is not below n", xs, w)
			}
		}
		if left(sum).Cmp(big.NewInt(1)) != 0 {
			t.Errorf("Weights(%x) sum up to %x", xs, sum)
		}
		slices.Reverse(got)
		turned := slices.Clone(xs)
		slices.Reverse(turned)
		areWeights(t, got, turned)
	}
}

// P6.1, P6.2: none, and more than MaxCoeffs, are refused, whether or not two are the same; just MaxCoeffs are not.
func TestLength(t *testing.T) {
	refused(t, api.ErrLen, nil)
	refused(t, api.ErrLen, []api.Num{})
	many := mixed(1<<16, 3)
	for _, n := range []int{api.MaxCoeffs + 1, api.MaxCoeffs + 2, 2 * api.MaxCoeffs, 256, 257, 1 << 16} {
		refused(t, api.ErrLen, many[:n])
		refused(t, api.ErrLen, make([]api.Num, n))
	}
	same := slices.Clone(many[:api.MaxCoeffs+1])
	same[1] = same[0]
	refused(t, api.ErrLen, same)
	same[1], same[api.MaxCoeffs] = many[1], many[0]
	refused(t, api.ErrLen, same)
	areWeights(t, wantWeights(same[:api.MaxCoeffs]), same[:api.MaxCoeffs])
}

// P6.1, P6.2: two that are the same modulo n are refused, at whatever places of the list, as numbers above n too.
func TestTwice(t *testing.T) {
	for _, n := range []int{2, 3, 8, api.MaxCoeffs} {
		for i := range n {
			for j := range i {
				if n == api.MaxCoeffs && i != n-1 && j != 0 && i != j+1 {
					continue
				}
				xs := mixed(n, uint64(n))
				xs[i] = xs[j]
				refused(t, api.ErrTwice, xs)
				xs[i], xs[j] = raised(5), api.Num{5}
				refused(t, api.ErrTwice, xs)
				xs[i], xs[j] = xs[j], xs[i]
				refused(t, api.ErrTwice, xs)
			}
		}
	}
	for _, x := range apart() {
		refused(t, api.ErrTwice, []api.Num{x, x})
		refused(t, api.ErrTwice, []api.Num{x, x, x})
	}
	refused(t, api.ErrTwice, []api.Num{{}, raised(0)})
	refused(t, api.ErrTwice, []api.Num{raised(1), {7}, {1}})
	refused(t, api.ErrTwice, make([]api.Num, api.MaxCoeffs))
}

// P6.2: two shares at one place are refused whatever they are worth there, the same too.
func TestSharesTwice(t *testing.T) {
	for _, y := range small(0, 1, 5) {
		l := []api.Share{{X: api.Num{3}, Y: api.Num{5}}, {X: api.Num{3}, Y: y}}
		if got, e := poly.Zero(l); got != (api.Num{}) || e != api.ErrTwice {
			t.Errorf("Zero(%x) = %x, %d", l, got, e)
		}
		if got, e := poly.Through(l); len(got) != 0 || e != api.ErrTwice {
			t.Errorf("Through(%x) = %x, %d", l, got, e)
		}
	}
}

// P6.2: shares that are worth the same at places that are not the same are taken.
func TestSameWorth(t *testing.T) {
	for _, xs := range lists() {
		for _, y := range []api.Num{{}, {1}, raised(0), raised(1)} {
			l := sharesOf(xs, slices.Repeat([]api.Num{y}, len(xs)))
			want := make([]api.Num, len(xs))
			want[0] = numOf(left(bigOf(y)))
			isZero(t, want[0], l)
			isThrough(t, want, l)
		}
	}
}

// P6.2: Through of shares of a polynomial with as many coefficients tells these, below n; Zero tells the first.
func TestThroughShares(t *testing.T) {
	for i, xs := range lists() {
		c := mixed(len(xs), uint64(i))
		for k := range c {
			c[k] = numOf(left(bigOf(c[k])))
		}
		l := sharesAt(c, xs)
		isThrough(t, c, l)
		isZero(t, c[0], l)
		slices.Reverse(l)
		isThrough(t, c, l)
		isZero(t, c[0], l)
	}
}

// P6.2: through any shares, also those with Y above n, goes what Through tells, and Zero is its first coefficient, also at a place that is 0.
func TestThroughAny(t *testing.T) {
	for i, xs := range lists() {
		for _, ys := range [][]api.Num{mixed(len(xs), uint64(i)), slices.Repeat([]api.Num{{1<<64 - 1, 1<<64 - 1, 1<<64 - 1, 1<<64 - 1}, {}, {1}}, 22)[:len(xs)]} {
			l := sharesOf(xs, ys)
			c, e := poly.Through(l)
			if e != api.OK || len(c) != len(l) {
				t.Fatalf("Through(%x) = %x, %d", l, c, e)
			}
			for k, share := range l {
				isEval(t, numOf(left(bigOf(ys[k]))), c, share.X)
			}
			for _, a := range c {
				if bigOf(a).Cmp(points) >= 0 {
					t.Errorf("Through(%x): %x is not below n", l, a)
				}
			}
			isZero(t, wantZero(l), l)
			isZero(t, c[0], l)
		}
	}
}

// P6.2: as many coefficients as shares, the last ones 0 where the degree is less.
func TestLeastDegree(t *testing.T) {
	for d := range 6 {
		c := small(4, -3, 9, 1, 1, -7)[:d+1]
		for n := d + 1; n <= api.MaxCoeffs; n += 7 {
			want := append(slices.Clone(c), make([]api.Num, n-d-1)...)
			l := sharesAt(c, mixed(n, uint64(n)))
			isThrough(t, want, l)
			isZero(t, c[0], l)
		}
	}
}

// P6.3: any shares of a polynomial, more than its degree, tell what it is worth at 0: each choice of 8 shares.
func TestAnyShares(t *testing.T) {
	for d := range 8 {
		c := mixed(d+1, uint64(d))
		at0 := poly.Eval(c, api.Num{})
		for _, xs := range [][]api.Num{small(1, 2, 3, 4, 5, 6, 7, 8), small(5, -1, 0, 9, -4, 100, 2, 77), mixed(8, 5)} {
			for choice := range 256 {
				var l []api.Share
				for i, x := range xs {
					if choice>>i&1 == 1 {
						l = append(l, api.Share{X: x, Y: poly.Eval(c, x)})
					}
				}
				if len(l) > d {
					isZero(t, at0, l)
				}
			}
		}
	}
	for _, d := range []int{0, 1, 31, 62, 63} {
		c := mixed(d+1, uint64(d))
		isZero(t, poly.Eval(c, api.Num{}), sharesAt(c, mixed(64, 9)))
	}
}

// P6.3: as many shares as the degree do not tell it, nor do shares one of which is another one's.
func TestTooFewShares(t *testing.T) {
	for d := 1; d < 8; d++ {
		c := mixed(d+1, uint64(d))
		at0 := poly.Eval(c, api.Num{})
		l := sharesAt(c, small(1, 2, 3, 4, 5, 6, 7, 8))
		if got, e := poly.Zero(l[:d]); got == at0 || e != api.OK {
			t.Errorf("degree %d: %d shares tell %x, %d", d, d, got, e)
		}
		for i := range d + 1 {
			bad := slices.Clone(l[:d+1])
			bad[i].Y[0] ^= 1
			if got, e := poly.Zero(bad); got == at0 || e != api.OK {
				t.Errorf("degree %d: a bad share %d tells %x, %d", d, i, got, e)
			}
		}
	}
}

// room is a memory with l in the middle of it.
func room[T any](l []T, fill T) []T {
	around := slices.Repeat([]T{fill}, 70)
	return slices.Concat(around, l, around)
}

// P6.1, P6.2: what lies ahead of and behind a slice is neither read nor written, and its own numbers stay as they were.
func TestNothingElseMatters(t *testing.T) {
	for i, xs := range lists() {
		n, ys := len(xs), mixed(len(xs), uint64(i))
		shares := sharesOf(xs, ys)
		weights, zero, value := wantWeights(xs), wantZero(shares), wantEval(xs, ys[0])
		through, _ := poly.Through(shares)
		for _, fill := range []api.Num{{}, {1}, xs[0], raised(1)} {
			nums, all := room(xs, fill), room(shares, api.Share{X: fill, Y: fill})
			numsBefore, allBefore := slices.Clone(nums), slices.Clone(all)
			for _, end := range []int{70 + n, len(nums)} {
				c, l := nums[70:70+n:end], all[70:70+n:end]
				isEval(t, value, c, ys[0])
				areWeights(t, weights, c)
				isZero(t, zero, l)
				isThrough(t, through, l)
			}
			if !slices.Equal(nums, numsBefore) || !slices.Equal(all, allBefore) {
				t.Fatalf("%d numbers beside %x: memory is written to", n, fill)
			}
			refused(t, api.ErrLen, nums[70:70])
		}
	}
}

// P6.1, P6.2: each answer is new memory, its spare room too, also where an earlier answer is handed in.
func TestNewMemory(t *testing.T) {
	for i, xs := range lists() {
		l := sharesOf(xs, mixed(len(xs), uint64(i)))
		before := slices.Clone(l)
		weights := wantWeights(xs)
		own := slices.Clone(xs)
		oneWeights, _ := poly.Weights(own)
		twoWeights, _ := poly.Weights(own)
		one, _ := poly.Through(l)
		two, _ := poly.Through(l)
		want := slices.Clone(one)
		for _, spoilt := range [][]api.Num{one[:cap(one)], oneWeights[:cap(oneWeights)]} {
			for k := range spoilt {
				spoilt[k] = api.Num{99, 99, 99, 99}
			}
		}
		if !slices.Equal(two, want) || !slices.Equal(twoWeights, weights) || !slices.Equal(l, before) || !slices.Equal(own, xs) {
			t.Errorf("%x: another answer, or what was handed in, has changed", xs)
		}
		areWeights(t, weights, own)
		isThrough(t, want, l)
		for _, more := range [][]api.Num{two[len(xs):cap(two)], twoWeights[len(xs):cap(twoWeights)]} {
			for _, a := range more {
				if a != (api.Num{}) {
					t.Errorf("%x: more than the answer is handed out", xs)
				}
			}
		}
		poly.Eval(two, xs[0])
		poly.Weights(two)
		if !slices.Equal(two, want) {
			t.Errorf("%x: an answer that was handed in has changed", xs)
		}
	}
}

// P6.1, P6.2: what is handed in is not kept, and whatever is asked between them, two calls with the same arguments answer the same.
func TestNothingIsKept(t *testing.T) {
	xs, ys := mixed(8, 1), mixed(8, 2)
	l := sharesOf(xs, ys)
	weights, zero, value := wantWeights(xs), wantZero(l), wantEval(ys, xs[0])
	through, _ := poly.Through(l)
	for i := range 8 {
		isEval(t, value, ys, xs[0])
		areWeights(t, weights, xs)
		isZero(t, zero, l)
		isThrough(t, through, l)
		xs[i][0] ^= 1
		l[i].X[0] ^= 1
		areWeights(t, wantWeights(xs), xs)
		isZero(t, wantZero(l), l)
		xs[i][0] ^= 1
		l[i].X[0] ^= 1
		refused(t, api.ErrLen, mixed(65, 1))
		refused(t, api.ErrTwice, append(xs[:8:8], xs[i]))
	}
}

// P6.1, P6.2: calls side by side answer as calls one behind the other.
func TestSideBySide(t *testing.T) {
	xs, ys := mixed(16, 1), mixed(16, 2)
	l := sharesOf(xs, ys)
	through, _ := poly.Through(l)
	var wait sync.WaitGroup
	for i := range 8 {
		wait.Go(func() {
			for n := range 10 {
				own := mixed(n+1, uint64(i))
				isEval(t, wantEval(ys, own[0]), ys, own[0])
				areWeights(t, wantWeights(own), own)
				isZero(t, wantZero(l), l)
				isThrough(t, through, l)
			}
		})
	}
	wait.Wait()
}

func BenchmarkEval(b *testing.B) {
	c := mixed(api.MaxCoeffs, 1)
	b.ReportAllocs()
	for b.Loop() {
		poly.Eval(c, c[0])
	}
}

func BenchmarkWeights(b *testing.B) {
	xs := mixed(api.MaxCoeffs, 1)
	b.ReportAllocs()
	for b.Loop() {
		poly.Weights(xs)
	}
}

func BenchmarkThrough(b *testing.B) {
	l := sharesOf(mixed(api.MaxCoeffs, 1), mixed(api.MaxCoeffs, 2))
	b.ReportAllocs()
	for b.Loop() {
		poly.Through(l)
	}
}
