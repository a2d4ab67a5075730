package pair_test

import (
	"crypto/hmac"
	"crypto/sha256"
	"encoding/hex"
	"math"
	"math/big"
	"sync"
	"testing"

	"witan/api"
	"witan/curve"
	"witan/pair"
)

const full = 1<<64 - 1

var (
	inf    = api.Point{Inf: true}
	g      = curve.Base(api.Num{1})
	whole  = api.Num{full, full, full, full}
	points = number("fffffffffffffffffffffffffffffffebaaedce6af48a03bbfd25e8cd0364141")
)

func unhex(s string) []byte {
	b, err := hex.DecodeString(s)
	if err != nil {
		panic(err)
	}
	return b
}

func bigOf(a api.Num) *big.Int {
	n := new(big.Int)
	for i := 3; i >= 0; i-- {
		n.Lsh(n, 64).Or(n, new(big.Int).SetUint64(a[i]))
	}
	return n
}

func numOf(n *big.Int) (a api.Num) {
	for i := range a {
		a[i] = new(big.Int).Rsh(n, uint(64*i)).Uint64()
	}
	return a
}

func number(s string) api.Num { return numOf(new(big.Int).SetBytes(unhex(s))) }

func bytesOf(a api.Num) (b [32]byte) {
	bigOf(a).FillBytes(b[:])
	return b
}

// raised tells n and d: of d below 0 a number below n, else one that stands for d.
func raised(d int64) api.Num { return numOf(new(big.Int).Add(bigOf(points), big.NewInt(d))) }

func read(s string) api.Point {
	p, e := curve.Read(unhex(s))
	if e != api.OK {
		panic(s)
	}
	return p
}

func sealOf(s string) [32]byte { return [32]byte(unhex(s)) }

// mixed are numbers below 2^256 without a pattern that a test could lean on; they are the same in every run.
func mixed(count int, seed uint64) []api.Num {
	l, x := make([]api.Num, count), seed
	for i := range l {
		for k := range l[i] {
			x = x*0x5851f42d4c957f2d + 0x14057b7ef767814f
			l[i][k] = x ^ x>>29
		}
	}
	return l
}

// nums are numbers around 0, the number of points, and 2^256, those with one digit only, and mixed ones: secrets, and shares.
func nums() []api.Num {
	l := []api.Num{{}, {1}, {2}, {255}, {256}, {full}, {0, 1}, {0, 0, 1}, {0, 0, 0, 1}, {0, 0, 0, 1 << 63}, {0, full}, {0, 0, 0, full}}
	for d := int64(-2); d <= 2; d++ {
		l = append(l, raised(d))
	}
	return append(append(l, whole, api.Num{full - 1, full, full, full}, api.Num{1, 2, 3, 1 << 63}), mixed(4, 1)...)
}

// keys are Inf, points and those with Y turned, one whose X begins with a nought, and ones of which nobody knows what multiples of G they are.
func keys() []api.Point {
	l := []api.Point{inf, g, curve.Base(raised(-1)), curve.Base(api.Num{2}), curve.Base(api.Num{153}), curve.Base(raised(-153))}
	for x := byte(1); len(l) < 10; x++ {
		b := make([]byte, 33)
		b[0], b[32] = 2+x%2, x
		if p, e := curve.Read(b); e == api.OK {
			l = append(l, p)
		}
	}
	return l
}

// wrong are what are no points, each in a way of its own.
func wrong() []api.Point {
	prime := number("fffffffffffffffffffffffffffffffffffffffffffffffffffffffefffffc2f")
	// Its X is so small that X and p is below 2^256: it stands for the X of a point, but is not below p.
	low := read("020000000000000000000000000000000000000000000000000000000000000001")
	raisedX := numOf(new(big.Int).Add(bigOf(low.X), bigOf(prime)))
	return []api.Point{
		{}, {X: g.X}, {Y: g.Y}, {X: g.Y, Y: g.X}, {Inf: true, X: g.X, Y: g.Y}, {Inf: true, X: api.Num{1}}, {Inf: true, Y: api.Num{1}},
		{X: whole, Y: whole}, {X: raisedX, Y: low.Y}, {X: g.X, Y: api.Num{g.Y[0] ^ 1, g.Y[1], g.Y[2], g.Y[3]}},
	}
}

// strange are what no dealer has as its number, some of which would be one if they were cut to 8, 16 or 32 bits.
func strange() []int {
	return []int{0, -1, -2, -8, api.MaxDealers + 1, api.MaxDealers + 2, 16, 255, 256, 257, 264, -255, -248, 1<<16 + 1, 1<<32 + 1, 1<<32 + 8, -1<<32 + 1, math.MaxInt32, math.MinInt32, math.MaxInt, math.MinInt, math.MinInt + 1}
}

// wantSeal is the seal in the chapter's words, by the library's HMAC.
func wantSeal(key api.Point, from, to int, share api.Num) [32]byte {
	b := []byte{0}
	if !key.Inf {
		x := bytesOf(key.X)
		b = append([]byte{byte(2 + key.Y[0]%2)}, x[:]...)
	}
	mac := hmac.New(sha256.New, append(b, byte(from), byte(to)))
	mac.Write(make([]byte, 8))
	stream, plain := mac.Sum(nil), bytesOf(share)
	for i := range plain {
		plain[i] ^= stream[i]
	}
	return plain
}

func isKey(t *testing.T, want api.Point, secret api.Num, other api.Point) {
	t.Helper()
	if k, e := pair.Key(secret, other); k != want || e != api.OK {
		t.Errorf("Key(%x, %v) = %v, %d, not %v", secret, other, k, e, want)
	}
}

func noKey(t *testing.T, secret api.Num, other api.Point) {
	t.Helper()
	if k, e := pair.Key(secret, other); k != (api.Point{}) || e != api.ErrPoint {
		t.Errorf("Key(%x, %v) = %v, %d", secret, other, k, e)
	}
}

func isSeal(t *testing.T, want [32]byte, key api.Point, from, to int, share api.Num) {
	t.Helper()
	if s, e := pair.Seal(key, from, to, share); s != want || e != api.OK {
		t.Errorf("Seal(%v, %d, %d, %x) = %x, %d, not %x", key, from, to, share, s, e, want)
	}
}

func isOpen(t *testing.T, want api.Num, key api.Point, from, to int, seal [32]byte) {
	t.Helper()
	if a, e := pair.Open(key, from, to, seal); a != want || e != api.OK {
		t.Errorf("Open(%v, %d, %d, %x) = %x, %d, not %x", key, from, to, seal, a, e, want)
	}
}

// refused asks Seal and Open of all kinds of shares and seals: they tell that error, and nothing beside it.
func refused(t *testing.T, want api.Errno, key api.Point, from, to int) {
	t.Helper()
	for _, a := range []api.Num{{}, {1}, whole, mixed(1, 5)[0]} {
		if s, e := pair.Seal(key, from, to, a); s != [32]byte{} || e != want {
			t.Errorf("Seal(%v, %d, %d, %x) = %x, %d, not %d", key, from, to, a, s, e, want)
		}
		if b, e := pair.Open(key, from, to, bytesOf(a)); b != (api.Num{}) || e != want {
			t.Errorf("Open(%v, %d, %d, %x) = %x, %d, not %d", key, from, to, a, b, e, want)
		}
	}
}

// known is a key, and a share that was sealed with it, which were worked out by another program.
type known struct {
	key      api.Point
	from, to int
	share    api.Num
	seal     [32]byte
}

func knowns() []known {
	k := read("02436429e94eaa4f59f72ea250916a9858a199580fe42ebd32e615c305ab7881ed")
	share := number("c3bc45ac352fe43ff8f0a1cc26d6cc29f71f536dc417906f8513ea44ed4bb161")
	return []known{
		{k, 1, 2, share, sealOf("d318cef5f1ccbfc851796da9abeacc6d4c23e2d9ade16393f3bb197a253ea91f")},
		{k, 2, 1, share, sealOf("7ee0cb0244611383b2722bb9a6aef8767dee0cad5f979bda1ef49f933f3a530f")},
		{k, 8, 8, share, sealOf("e2c296a696cdf707fa2fd9662f296f5ea0c5c68eaa51eb2f41e39add090d3291")},
		{inf, 1, 8, api.Num{}, sealOf("d931dd9c3a6fb213717ac3b1b2389c9ccdb98f634fcbcca63172a3e8b6f4dad5")},
		{g, 3, 4, whole, sealOf("e61bcde32d53814eab1de55cfdf7fd9be67efab8e97934dce6d261242bf937ee")},
		{g, 3, 4, api.Num{1}, sealOf("19e4321cd2ac7eb154e21aa302080264198105471686cb23192d9edbd406c810")},
		{curve.Base(raised(-1)), 3, 4, api.Num{1}, sealOf("0e63e6b903976600ebd3534b2d0b839803ad11c8f4f1306b357e41f72f99c3be")},
		{read("0200e3ae1974566ca06cc516d47e0fb165a674a3dabcfca15e722f0e3450f45889"), 5, 6, api.Num{1}, sealOf("f5dae4f20d21ca96bcb9fce46dc289d5efac9d12b29bd5755ac3abefa0f5eb1e")},
	}
}

// P8.2: the chapter's example, with the key of two secrets.
func TestExample(t *testing.T) {
	k, e := pair.Key(api.Num{77, 5}, curve.Base(api.Num{99, 0, 0, 8}))
	if e != api.OK {
		t.Fatal(e)
	}
	for _, s := range nums() {
		seal, e := pair.Seal(k, 1, 2, s)
		if e != api.OK {
			t.Fatal(e)
		}
		isOpen(t, s, k, 1, 2, seal)
	}
}

// P8.1, P8.2: a key that was worked out by another program, from both sides.
func TestKnownKey(t *testing.T) {
	a := number("ca978112ca1bbdcafac231b39a23dc4da786eff8147c4e72b9807785afee48bb")
	b := number("3e23e8160039594a33894f6564e1b1348bbd7a0088d42c4acb73eeaed59c009d")
	k := read("02436429e94eaa4f59f72ea250916a9858a199580fe42ebd32e615c305ab7881ed")
	isKey(t, k, a, read("0310c283aac7b35b4ae6fab201d36e8322c3408331149982e16013a5bcb917081c"))
	isKey(t, k, b, read("034da006f958beba78ec54443df4a3f52237253f7ae8cbdb17dccf3feaa57f3126"))
}

// P8.1: seals that were worked out by another program.
func TestKnownSeals(t *testing.T) {
	for _, c := range knowns() {
		isSeal(t, c.seal, c.key, c.from, c.to, c.share)
		isOpen(t, c.share, c.key, c.from, c.to, c.seal)
	}
}

// P8.1: Key is that many times the point, also of Inf, of secrets 0 and n, and of those above n.
func TestKey(t *testing.T) {
	for _, p := range keys() {
		isKey(t, inf, api.Num{}, p)
		isKey(t, p, api.Num{1}, p)
		isKey(t, inf, raised(0), p)
		isKey(t, p, raised(1), p)
		minus, _ := curve.Neg(p)
		isKey(t, minus, raised(-1), p)
		twice, _ := curve.Add(p, p)
		isKey(t, twice, api.Num{2}, p)
		isKey(t, twice, raised(2), p)
		for _, secret := range nums() {
			want, _ := curve.Times(secret, p)
			isKey(t, want, secret, p)
		}
	}
	for _, secret := range nums() {
		isKey(t, inf, secret, inf)
		isKey(t, curve.Base(secret), secret, g)
	}
}

// P8.1: Key of what is no point is refused, whatever the secret, also one that would make it Inf.
func TestKeyOfNoPoint(t *testing.T) {
	for _, bad := range wrong() {
		for _, secret := range nums() {
			noKey(t, secret, bad)
		}
	}
}

// P8.2: both dealers have one key, and no third one has it.
func TestOneKey(t *testing.T) {
	for _, a := range nums() {
		for _, b := range append(mixed(3, 9), api.Num{}, api.Num{7}, raised(-1), raised(3), whole) {
			k, e := pair.Key(a, curve.Base(b))
			if e != api.OK {
				t.Fatalf("Key(%x, G times %x): %d", a, b, e)
			}
			isKey(t, k, b, curve.Base(a))
		}
	}
	k, _ := pair.Key(api.Num{11}, curve.Base(api.Num{12}))
	for _, c := range [][2]uint64{{11, 13}, {13, 12}, {11, 11}, {12, 12}, {1, 11}, {1, 12}} {
		if other, e := pair.Key(api.Num{c[0]}, curve.Base(api.Num{c[1]})); other == k || e != api.OK {
			t.Errorf("Key of %d and %d = %v, %d", c[0], c[1], other, e)
		}
	}
}

// P8.1: Seal and Open as the chapter writes them, with all keys, of all numbers of dealers, also where both are one.
func TestSealAndOpen(t *testing.T) {
	for _, key := range keys() {
		for from := 1; from <= api.MaxDealers; from++ {
			for to := 1; to <= api.MaxDealers; to++ {
				for _, a := range append(mixed(2, uint64(8*from+to)), api.Num{}, whole) {
					seal := wantSeal(key, from, to, a)
					isSeal(t, seal, key, from, to, a)
					isOpen(t, a, key, from, to, seal)
				}
			}
		}
	}
}

// P8.1, P8.2: numbers that are not below n are sealed and told as they are, not what is left of them.
func TestNothingIsLowered(t *testing.T) {
	for _, key := range keys() {
		for _, a := range nums() {
			seal := wantSeal(key, 1, 8, a)
			isSeal(t, seal, key, 1, 8, a)
			isOpen(t, a, key, 1, 8, seal)
			// Any bytes are a seal.
			back, _ := pair.Open(key, 1, 8, bytesOf(a))
			isSeal(t, bytesOf(a), key, 1, 8, back)
		}
	}
}

// P8.1: each bit of a share is one of its seal, at its place: the highest byte first.
func TestEachBit(t *testing.T) {
	share := mixed(1, 3)[0]
	seal := wantSeal(g, 2, 7, share)
	for i := range 256 {
		one, other := share, seal
		one[i/64] ^= 1 << (i % 64)
		other[31-i/8] ^= 1 << (i % 8)
		isSeal(t, other, g, 2, 7, one)
		isOpen(t, one, g, 2, 7, other)
	}
}

// P8.1: another key, another from or another to makes another seal of the same share, and opens to another number.
func TestEachCounts(t *testing.T) {
	type asked struct {
		key      api.Point
		from, to int
	}
	share := mixed(1, 6)[0]
	own := wantSeal(g, 1, 2, share)
	seen := map[[32]byte]asked{}
	for _, key := range keys() {
		for from := 1; from <= api.MaxDealers; from++ {
			for to := 1; to <= api.MaxDealers; to++ {
				a := asked{key, from, to}
				s, e := pair.Seal(key, from, to, share)
				if before, is := seen[s]; is || e != api.OK {
					t.Errorf("%v and %v seal to %x, %d", a, before, s, e)
				}
				seen[s] = a
				back, e := pair.Open(key, from, to, own)
				if (back == share) != (a == asked{g, 1, 2}) || e != api.OK {
					t.Errorf("%v opens it to %x, %d", a, back, e)
				}
			}
		}
	}
}

// P8.1: numbers of dealers that may not be are refused, whichever of both it is, and ahead of ErrPoint.
func TestWrongNumbers(t *testing.T) {
	for _, key := range append(wrong(), inf, g) {
		for _, i := range strange() {
			for _, good := range []int{1, 2, api.MaxDealers} {
				refused(t, api.ErrArg, key, i, good)
				refused(t, api.ErrArg, key, good, i)
			}
			refused(t, api.ErrArg, key, i, i)
			refused(t, api.ErrArg, key, i, 0)
			refused(t, api.ErrArg, key, 0, i)
		}
	}
}

// P8.1: a key that is no point is refused, of all numbers of dealers.
func TestWrongKeys(t *testing.T) {
	for _, bad := range wrong() {
		for from := 1; from <= api.MaxDealers; from++ {
			for to := 1; to <= api.MaxDealers; to++ {
				refused(t, api.ErrPoint, bad, from, to)
			}
		}
	}
}

// P8.2: between each two of eight dealers what one seals with the key that it can tell, the other opens with that which it can tell.
func TestDealers(t *testing.T) {
	secrets := append(mixed(api.MaxDealers-2, 20), api.Num{1}, raised(4))
	for i, mine := range secrets {
		for j, theirs := range secrets {
			share := mixed(1, uint64(100*i+j))[0]
			k, e := pair.Key(mine, curve.Base(theirs))
			seal, f := pair.Seal(k, i+1, j+1, share)
			if e != api.OK || f != api.OK {
				t.Fatalf("%d to %d: %d, %d", i+1, j+1, e, f)
			}
			m, e := pair.Key(theirs, curve.Base(mine))
			if e != api.OK {
				t.Fatalf("%d to %d: %d", i+1, j+1, e)
			}
			isOpen(t, share, m, i+1, j+1, seal)
		}
	}
}

// P8.1, R3: whatever is asked between them, two calls with the same arguments answer the same.
func TestNothingIsKept(t *testing.T) {
	for range 3 {
		for _, c := range knowns() {
			isSeal(t, c.seal, c.key, c.from, c.to, c.share)
			refused(t, api.ErrArg, c.key, c.from, 0)
			isOpen(t, c.share, c.key, c.from, c.to, c.seal)
			refused(t, api.ErrPoint, api.Point{}, c.from, c.to)
			noKey(t, c.share, api.Point{})
			isKey(t, c.key, api.Num{1}, c.key)
		}
	}
}

// P8.1, R3: calls side by side answer as calls one behind the other.
func TestSideBySide(t *testing.T) {
	var wait sync.WaitGroup
	for i := range 8 {
		wait.Go(func() {
			for n, c := range knowns() {
				own := mixed(1, uint64(8*n+i))[0]
				isSeal(t, wantSeal(c.key, i+1, n+1, own), c.key, i+1, n+1, own)
				isOpen(t, own, c.key, i+1, n+1, wantSeal(c.key, i+1, n+1, own))
				isSeal(t, c.seal, c.key, c.from, c.to, c.share)
				isOpen(t, c.share, c.key, c.from, c.to, c.seal)
				isKey(t, curve.Base(own), own, g)
			}
		})
	}
	wait.Wait()
}

func BenchmarkKey(b *testing.B) {
	secret, p := mixed(1, 1)[0], keys()[9]
	b.ReportAllocs()
	for b.Loop() {
		pair.Key(secret, p)
	}
}

func BenchmarkSeal(b *testing.B) {
	share, p := mixed(1, 1)[0], keys()[9]
	b.ReportAllocs()
	for b.Loop() {
		pair.Seal(p, 1, 2, share)
	}
}
