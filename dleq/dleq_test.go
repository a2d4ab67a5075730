package dleq_test

import (
	"crypto/sha256"
	"encoding/hex"
	"math/big"
	"sync"
	"testing"

	"witan/api"
	"witan/curve"
	"witan/dleq"
	"witan/pair"
)

const full = 1<<64 - 1

var (
	inf    = api.Point{Inf: true}
	g      = curve.Base(api.Num{1})
	whole  = api.Num{full, full, full, full}
	points = number("fffffffffffffffffffffffffffffffebaaedce6af48a03bbfd25e8cd0364141")
	// gap is 2^256 less n: the numbers below it have another one below 2^256 that stands for the same.
	gap = number("000000000000000000000000000000014551231950b75fc4402da1732fc9bebf")
)

func unhex(s string) []byte {
	b, err := hex.DecodeString(s)
	if err != nil {
		panic(err)
	}
	return b
}

func bigOf(a api.Num) *big.Int {
	n := new(big.Int)
	for i := 3; i >= 0; i-- {
		n.Lsh(n, 64).Or(n, new(big.Int).SetUint64(a[i]))
	}
	return n
}

func numOf(n *big.Int) (a api.Num) {
	for i := range a {
		a[i] = new(big.Int).Rsh(n, uint(64*i)).Uint64()
	}
	return a
}

func number(s string) api.Num { return numOf(new(big.Int).SetBytes(unhex(s))) }

// raised tells n and d: of d below 0 a number below n, else one that stands for d.
func raised(d int64) api.Num { return plus(points, d) }

// plus tells a and d, which is below 2^256.
func plus(a api.Num, d int64) api.Num { return numOf(new(big.Int).Add(bigOf(a), big.NewInt(d))) }

func read(s string) api.Point {
	p, e := curve.Read(unhex(s))
	if e != api.OK {
		panic(s)
	}
	return p
}

func times(n api.Num, p api.Point) api.Point {
	q, e := curve.Times(n, p)
	if e != api.OK {
		panic("no point")
	}
	return q
}

func add(p, q api.Point) api.Point {
	sum, e := curve.Add(p, q)
	if e != api.OK {
		panic("no point")
	}
	return sum
}

// mixed are numbers below 2^256 without a pattern that a test could lean on; they are the same in every run.
func mixed(count int, seed uint64) []api.Num {
	l, x := make([]api.Num, count), seed
	for i := range l {
		for k := range l[i] {
			x = x*0x5851f42d4c957f2d + 0x14057b7ef767814f
			l[i][k] = x ^ x>>29
		}
	}
	return l
}

// nums are numbers around 0, n, and 2^256, those with one digit only, and mixed ones: secrets, and nonces.
func nums() []api.Num {
	l := []api.Num{{}, {1}, {2}, {full}, {0, 1}, {0, 0, 1}, {0, 0, 0, 1}, {0, 0, 0, 1 << 63}}
	for d := int64(-2); d <= 2; d++ {
		l = append(l, raised(d))
	}
	return append(append(l, whole, plus(whole, -1)), mixed(3, 1)...)
}

// bases are Inf, G, others and one with Y turned, one whose X begins with a nought, and ones of which nobody knows what multiples of G they are.
func bases() []api.Point {
	l := []api.Point{inf, g, curve.Base(raised(-1)), curve.Base(api.Num{3}), curve.Base(raised(-153))}
	for x := byte(1); len(l) < 8; x++ {
		b := make([]byte, 33)
		b[0], b[32] = 2+x%2, x
		if p, e := curve.Read(b); e == api.OK {
			l = append(l, p)
		}
	}
	return l
}

// wrong are what are no points, each in a way of its own.
func wrong() []api.Point {
	prime := number("fffffffffffffffffffffffffffffffffffffffffffffffffffffffefffffc2f")
	// Its X is so small that X and p is below 2^256: it stands for the X of a point, but is not below p.
	low := read("020000000000000000000000000000000000000000000000000000000000000001")
	raisedX := numOf(new(big.Int).Add(bigOf(low.X), bigOf(prime)))
	return []api.Point{
		{}, {X: g.X}, {Y: g.Y}, {X: g.Y, Y: g.X}, {Inf: true, X: g.X, Y: g.Y}, {Inf: true, X: api.Num{1}}, {Inf: true, Y: api.Num{1}},
		{X: whole, Y: whole}, {X: raisedX, Y: low.Y}, {X: g.X, Y: api.Num{g.Y[0] ^ 1, g.Y[1], g.Y[2], g.Y[3]}},
	}
}

// bytesOf are a point's bytes in the words of chapter 3.
func bytesOf(p api.Point) []byte {
	if p.Inf {
		return []byte{0}
	}
	b := make([]byte, 33)
	b[0] = byte(2 + p.Y[0]%2)
	bigOf(p.X).FillBytes(b[1:])
	return b
}

// wantChallenge is the challenge in the words of chapters 5 and 9, by the library's sums.
func wantChallenge(five ...api.Point) api.Num {
	j := append([]byte{0, 0, 0, 4}, "dleq"...)
	for _, p := range five {
		b := bytesOf(p)
		j = append(append(j, 0, 0, 0, byte(len(b))), b...)
	}
	hi, lo := sha256.Sum256(append(j, 0)), sha256.Sum256(append(j, 1))
	n := new(big.Int).SetBytes(append(hi[:], lo[:]...))
	return numOf(n.Mod(n, bigOf(points)))
}

// answer is the nonce less the challenge times the secret, modulo n.
func answer(secret, nonce, c api.Num) api.Num {
	n := new(big.Int).Mul(bigOf(c), bigOf(secret))
	n.Sub(bigOf(nonce), n)
	return numOf(n.Mod(n, bigOf(points)))
}

// wantProof is the proof in the chapter's words.
func wantProof(secret, nonce api.Num, b api.Point) api.Proof {
	c := wantChallenge(curve.Base(secret), b, times(secret, b), curve.Base(nonce), times(nonce, b))
	return api.Proof{C: c, R: answer(secret, nonce, c)}
}

func isProof(t *testing.T, want api.Proof, secret, nonce api.Num, b api.Point) {
	t.Helper()
	if p, e := dleq.Prove(secret, nonce, b); p != want || e != api.OK {
		t.Errorf("Prove(%x, %x, %v) = %x, %d, not %x", secret, nonce, b, p, e, want)
	}
}

func noProof(t *testing.T, secret, nonce api.Num, b api.Point) {
	t.Helper()
	if p, e := dleq.Prove(secret, nonce, b); p != (api.Proof{}) || e != api.ErrPoint {
		t.Errorf("Prove(%x, %x, %v) = %x, %d", secret, nonce, b, p, e)
	}
}

func holds(t *testing.T, want bool, a, b, k api.Point, p api.Proof) {
	t.Helper()
	if is, e := dleq.Holds(a, b, k, p); is != want || e != api.OK {
		t.Errorf("Holds(%v, %v, %v, %x) = %v, %d, not %v", a, b, k, p, is, e, want)
	}
}

func noPoint(t *testing.T, a, b, k api.Point, p api.Proof) {
	t.Helper()
	if is, e := dleq.Holds(a, b, k, p); is || e != api.ErrPoint {
		t.Errorf("Holds(%v, %v, %v, %x) = %v, %d", a, b, k, p, is, e)
	}
}

// statement is what was proved, and how.
type statement struct {
	secret, nonce api.Num
	a, b, k       api.Point
	proof         api.Proof
}

// knowns were worked out by another program.
func knowns() (l []statement) {
	for _, s := range [][7]string{
		{"2bb80d537b1da3e38bd30361aa855686bde0eacd7162fef6a25fe97bf527a25b", "78377b525757b494427f89014f97d79928f3938d14eb51e20fb5dec9834eb304", "02a14161a9939f03d3ff760f62b5d3fa2cdb719ef2fba32feb5cae07ef51126448", "03a02b9d5fdd1307c2ee4652ba54d492d1fd11a7d1bb3f3a44c4a05e79f19de933", "02ee6625f9562118a6ff4f408891773c78d6cf372a82f672cc66cf66898c820dcd", "1043ba3e95f74216791d09f125df45ea514f847d3f246786358906218540a194", "244a9cc64b5cd5e446ca04bc6fdacbfc7e1b80f779db078a627a061058b0215f"},
		{"ca978112ca1bbdcafac231b39a23dc4da786eff8147c4e72b9807785afee48bb", "3e23e8160039594a33894f6564e1b1348bbd7a0088d42c4acb73eeaed59c009d", "020000000000000000000000000000000000000000000000000000000000000001", "034da006f958beba78ec54443df4a3f52237253f7ae8cbdb17dccf3feaa57f3126", "03d21363b8928195060584664974d04e20497c805ee871b9f98f2305340ce15367", "b084a9ce56648d18f76740e37c29f08550dac14c8a11ea03b453a481350e85b7", "938623b95fd221cc7a5935295684ed892eb1603171be4fe5a76742b4a562d5a8"},
		{"0000000000000000000000000000000000000000000000000000000000000000", "78377b525757b494427f89014f97d79928f3938d14eb51e20fb5dec9834eb304", "02f9308a019258c31049344f85f89d5229b531c845836f99b08601f113bce036f9", "00", "00", "769d32089bfd2df26ad73c0539fd4324b19b971af0f749f97993904f18f4efd2", "78377b525757b494427f89014f97d79928f3938d14eb51e20fb5dec9834eb304"},
		{"2bb80d537b1da3e38bd30361aa855686bde0eacd7162fef6a25fe97bf527a25b", "0000000000000000000000000000000000000000000000000000000000000000", "02f9308a019258c31049344f85f89d5229b531c845836f99b08601f113bce036f9", "03a02b9d5fdd1307c2ee4652ba54d492d1fd11a7d1bb3f3a44c4a05e79f19de933", "03c57446487572943f384e31dfe746074d43a8fa53f4486260a0246671e3a66e1c", "291f2400920dd1e74e8cebc1996b205597d73c2aa4b5db9bd13c3109ab332b16", "7ed9697bdd6a0f1af55d0b9636ef7e44343faa975730604078f5a6c54eac781c"},
		{"0000000000000000000000000000000000000000000000000000000000000000", "0000000000000000000000000000000000000000000000000000000000000000", "00", "00", "00", "468041a13373996fa104cd2dae4747665496443db7f60efe496520cb8191e886", "0000000000000000000000000000000000000000000000000000000000000000"},
		{"0000000000000000000000000000000000000000000000000000000000000005", "0000000000000000000000000000000000000000000000000000000000000007", "00", "022f8bde4d1a07209355b4a7250a5c5128e88b84bddc619ab7cba8d569b240efe4", "00", "ef4186c9a784897955984eb0848e61e0362851447d418783adb01fca26682dc5", "53b85e0fba6950a15406768d6938169896a0ba2afa237b985aab39cd51066173"},
		{"ffffffffffffffffffffffffffffffffffffffffffffffffffffffffffffffff", "ffffffffffffffffffffffffffffffffffffffffffffffffffffffffffffffff", "0279be667ef9dcbbac55a06295ce870b07029bfcdb2dce28d959f2815b16f81798", "039166c289b9f905e55f9e3df9f69d7f356b4a22095f894f4715714aa4b56606af", "039166c289b9f905e55f9e3df9f69d7f356b4a22095f894f4715714aa4b56606af", "dee4f386456d4a14c5cdce82dc6c97dc1cd41e8a607f1ce2b14796d79a10f716", "0d30cf60fba90b97a9dfa2ffe4784d74db5b143abf78cfbcff114ed7097b0275"},
		{"fffffffffffffffffffffffffffffffebaaedce6af48a03bbfd25e8cd0364141", "fffffffffffffffffffffffffffffffebaaedce6af48a03bbfd25e8cd0364142", "02c6047f9441ed7d6d3045406e95c07cd85c778e4b8cef3ca7abac09b95c709ee5", "00", "00", "aff8eec838e41ddf0a8ba467c9b3daf356fdb7dbedddf1beef74d4ca3cc9cbd7", "0000000000000000000000000000000000000000000000000000000000000001"},
		{"fffffffffffffffffffffffffffffffebaaedce6af48a03bbfd25e8cd0364140", "0000000000000000000000000000000000000000000000000000000000000001", "0379be667ef9dcbbac55a06295ce870b07029bfcdb2dce28d959f2815b16f81798", "0379be667ef9dcbbac55a06295ce870b07029bfcdb2dce28d959f2815b16f81798", "0279be667ef9dcbbac55a06295ce870b07029bfcdb2dce28d959f2815b16f81798", "e4b77afbea7a6bb0503f2241bca1e925ba005ab4f332c9eba4731e85a2e27cec", "e4b77afbea7a6bb0503f2241bca1e925ba005ab4f332c9eba4731e85a2e27ced"},
		{"0000000000000000000000000000000000000000000000000000000000000001", "fffffffffffffffffffffffffffffffebaaedce6af48a03bbfd25e8cd0364140", "020000000000000000000000000000000000000000000000000000000000000002", "0279be667ef9dcbbac55a06295ce870b07029bfcdb2dce28d959f2815b16f81798", "020000000000000000000000000000000000000000000000000000000000000002", "d384d20556372efa5d9f096cb4dbac0a7b9b3f88303e5aac5a5c5a581eb2141e", "2c7b2dfaa9c8d105a260f6934b2453f43f139d5e7f0a458f65760434b1842d22"},
	} {
		l = append(l, statement{number(s[0]), number(s[1]), read(s[3]), read(s[2]), read(s[4]), api.Proof{C: number(s[5]), R: number(s[6])}})
	}
	return l
}

// proved tells what Prove proves, with its proof.
func proved(t *testing.T, secret, nonce api.Num, b api.Point) statement {
	t.Helper()
	p, e := dleq.Prove(secret, nonce, b)
	if e != api.OK {
		t.Fatalf("Prove(%x, %x, %v): %d", secret, nonce, b, e)
	}
	return statement{secret, nonce, curve.Base(secret), b, times(secret, b), p}
}

// P9.3: the chapter's example, also with n, which stands for 0.
func TestExample(t *testing.T) {
	for _, secret := range []api.Num{{}, points} {
		for _, nonce := range nums() {
			for _, b := range bases() {
				s := proved(t, secret, nonce, b)
				if s.a != inf || s.k != inf {
					t.Fatal(s)
				}
				holds(t, true, inf, b, inf, s.proof)
			}
		}
	}
}

// P9.1, P9.2: proofs that were worked out by another program.
func TestKnown(t *testing.T) {
	for _, s := range knowns() {
		isProof(t, s.proof, s.secret, s.nonce, s.b)
		holds(t, true, s.a, s.b, s.k, s.proof)
	}
}

// P9.1, P9.3: Prove as the chapter writes it, of secrets and nonces below n and not below it, and of all bases; all of it holds.
func TestProve(t *testing.T) {
	for i, secret := range nums() {
		for j, nonce := range nums() {
			// A third of all pairs is asked, with each secret and each nonce among them.
			if (i+j)%3 != 0 {
				continue
			}
			b := bases()[(i+j/3)%len(bases())]
			want := wantProof(secret, nonce, b)
			isProof(t, want, secret, nonce, b)
			holds(t, true, curve.Base(secret), b, times(secret, b), want)
		}
	}
	for i, b := range bases() {
		l := mixed(2, uint64(i))
		isProof(t, wantProof(l[0], l[1], b), l[0], l[1], b)
	}
}

// P9.1: what is told is below n, and hangs on what is left of the secret and of the nonce alone.
func TestProofIsLow(t *testing.T) {
	for d := range int64(4) {
		for _, b := range bases() {
			for _, a := range mixed(2, uint64(d)) {
				one := proved(t, plus(api.Num{}, d), a, b).proof
				isProof(t, one, raised(d), a, b)
				two := proved(t, a, plus(api.Num{}, d), b).proof
				isProof(t, two, a, raised(d), b)
				for _, n := range []api.Num{one.C, one.R, two.C, two.R} {
					if bigOf(n).Cmp(bigOf(points)) >= 0 {
						t.Errorf("%x is not below n", n)
					}
				}
			}
		}
	}
}

// P9.1: Prove of what is no point is refused, whatever secret and nonce, also those that would make Inf of it.
func TestProveOfNoPoint(t *testing.T) {
	for _, bad := range wrong() {
		for _, secret := range nums() {
			for _, nonce := range nums() {
				noProof(t, secret, nonce, bad)
			}
		}
	}
}

// P9.2: Holds of what is no point is refused, whichever of the three it is, also beside a proof whose numbers are not below n.
func TestHoldsOfNoPoint(t *testing.T) {
	s := knowns()[0]
	proofs := []api.Proof{s.proof, {}, {C: points}, {R: points}, {C: points, R: points}, {C: whole, R: whole}, {C: s.proof.C, R: whole}}
	for _, bad := range wrong() {
		for _, p := range proofs {
			for _, good := range []api.Point{inf, g, s.a} {
				noPoint(t, bad, good, good, p)
				noPoint(t, good, bad, good, p)
				noPoint(t, good, good, bad, p)
				noPoint(t, good, bad, bad, p)
				noPoint(t, bad, good, bad, p)
				noPoint(t, bad, bad, good, p)
			}
			noPoint(t, bad, s.b, s.k, p)
			noPoint(t, s.a, bad, s.k, p)
			noPoint(t, s.a, s.b, bad, p)
			noPoint(t, bad, bad, bad, p)
		}
	}
}

// P9.2: a number that stands for that of a proof is none, up to the last one below 2^256. Of the secret 0 the answer is the nonce, which may be as small as that takes.
func TestNotBelow(t *testing.T) {
	for _, nonce := range []api.Num{{}, {1}, {2}, {full}, {0, 1}, plus(gap, -2), plus(gap, -1)} {
		for _, b := range bases() {
			s := proved(t, api.Num{}, nonce, b)
			if s.proof.R != nonce {
				t.Fatal(s)
			}
			more := numOf(new(big.Int).Add(bigOf(nonce), bigOf(points)))
			holds(t, true, inf, b, inf, s.proof)
			holds(t, false, inf, b, inf, api.Proof{C: s.proof.C, R: more})
		}
	}
	// n - 1 is below n, n is not.
	s := proved(t, api.Num{}, raised(-1), g)
	holds(t, true, inf, g, inf, api.Proof{C: s.proof.C, R: raised(-1)})
	for _, s := range knowns() {
		for _, n := range []api.Num{points, raised(1), plus(whole, -1), whole} {
			holds(t, false, s.a, s.b, s.k, api.Proof{C: s.proof.C, R: n})
			holds(t, false, s.a, s.b, s.k, api.Proof{C: n, R: s.proof.R})
			holds(t, false, s.a, s.b, s.k, api.Proof{C: n, R: n})
		}
	}
}

// P9.2: each bit of a proof counts.
func TestEachBit(t *testing.T) {
	s := knowns()[0]
	for i := range 256 {
		one, other := s.proof, s.proof
		one.C[i/64] ^= 1 << (i % 64)
		other.R[i/64] ^= 1 << (i % 64)
		holds(t, false, s.a, s.b, s.k, one)
		holds(t, false, s.a, s.b, s.k, other)
	}
}

// P9.2: numbers that are near those of a proof, or both in each other's place, do not hold.
func TestOtherNumbers(t *testing.T) {
	for _, s := range knowns() {
		c, r := s.proof.C, s.proof.R
		for _, p := range []api.Proof{
			{}, {C: c}, {R: r}, {C: r, R: c}, {C: c, R: c}, {C: plus(c, 1), R: r}, {C: c, R: plus(r, 1)}, {C: plus(c, 1), R: plus(r, 1)},
			{C: answer(api.Num{1}, api.Num{}, c), R: r}, {C: plus(c, -1), R: r}, {C: c, R: plus(answer(api.Num{1}, api.Num{}, r), 5)},
		} {
			if p != s.proof {
				holds(t, false, s.a, s.b, s.k, p)
			}
		}
	}
}

// P9.2: each point counts: no other one, not the same with Y turned either, holds in its place, nor do two in each other's.
func TestOtherPoints(t *testing.T) {
	s := knowns()[0]
	others := append(bases(), curve.Base(s.nonce), times(s.nonce, s.b))
	for _, p := range []api.Point{s.a, s.b, s.k} {
		turned, _ := curve.Neg(p)
		others = append(others, p, turned, add(p, p))
	}
	for _, p := range others {
		holds(t, p == s.a, p, s.b, s.k, s.proof)
		holds(t, p == s.b, s.a, p, s.k, s.proof)
		holds(t, p == s.k, s.a, s.b, p, s.proof)
	}
	holds(t, false, s.b, s.a, s.k, s.proof)
	holds(t, false, s.k, s.b, s.a, s.proof)
	holds(t, false, s.a, s.k, s.b, s.proof)
	holds(t, false, s.b, s.k, s.a, s.proof)
	holds(t, false, s.k, s.a, s.b, s.proof)
}

// P9.2: where the logarithms are not the same, a proof by either of both, with the challenge of just these points, does not hold.
func TestFalseStatements(t *testing.T) {
	l := mixed(3, 7)
	for _, b := range bases() {
		for _, secret := range []api.Num{{}, {1}, raised(-1), l[0]} {
			a, k, nonce := curve.Base(secret), times(secret, b), l[1]
			u, v := curve.Base(nonce), times(nonce, b)
			for _, by := range []api.Point{g, curve.Base(raised(-1)), curve.Base(l[2])} {
				lie := add(k, by)
				c := wantChallenge(a, b, lie, u, v)
				holds(t, false, a, b, lie, api.Proof{C: c, R: answer(secret, nonce, c)})
				if b == inf {
					continue
				}
				lie = add(a, by)
				c = wantChallenge(lie, b, k, u, v)
				holds(t, false, lie, b, k, api.Proof{C: c, R: answer(secret, nonce, c)})
			}
		}
	}
}

// P9.2: one nonce for G and another one for the base prove nothing, though the statement is true.
func TestTwoNonces(t *testing.T) {
	l := mixed(3, 8)
	for _, b := range bases()[1:] {
		a, k := curve.Base(l[0]), times(l[0], b)
		for _, both := range [][2]api.Num{{l[1], l[2]}, {{}, l[2]}, {l[1], {}}} {
			c := wantChallenge(a, b, k, curve.Base(both[0]), times(both[1], b))
			holds(t, false, a, b, k, api.Proof{C: c, R: answer(l[0], both[0], c)})
			holds(t, false, a, b, k, api.Proof{C: c, R: answer(l[0], both[1], c)})
		}
	}
}

// P9.2: to the base Inf all logarithms tell Inf, and nothing but Inf.
func TestBaseInf(t *testing.T) {
	for _, secret := range nums() {
		s := proved(t, secret, mixed(1, 9)[0], inf)
		holds(t, true, s.a, inf, inf, s.proof)
		holds(t, false, s.a, inf, g, s.proof)
		if s.a != inf {
			holds(t, false, s.a, inf, s.a, s.proof)
			holds(t, false, inf, inf, inf, s.proof)
		}
	}
}

// P9.3: what was proved holds, and hangs on secret, nonce and base, each of them.
func TestProvedHolds(t *testing.T) {
	seen := map[api.Proof]statement{}
	for i, secret := range mixed(5, 10) {
		for j, nonce := range mixed(5, 11) {
			b := bases()[(5*i+j)%len(bases())]
			for _, base := range []api.Point{b, curve.Base(mixed(1, uint64(5*i+j))[0])} {
				s := proved(t, secret, nonce, base)
				holds(t, true, s.a, s.b, s.k, s.proof)
				if before, is := seen[s.proof]; is {
					t.Errorf("%v and %v have one proof", before, s)
				}
				seen[s.proof] = s
			}
		}
	}
}

// P9.3: of each two dealers either proves to everybody which key they have, by its own secret, and no other key.
func TestDealers(t *testing.T) {
	secrets := mixed(4, 12)
	for i, mine := range secrets {
		for j, theirs := range secrets {
			other := curve.Base(theirs)
			key, e := pair.Key(theirs, curve.Base(mine))
			if e != api.OK {
				t.Fatal(e)
			}
			p := proved(t, mine, mixed(1, uint64(4*i+j))[0], other).proof
			holds(t, true, curve.Base(mine), other, key, p)
			if i != j {
				holds(t, false, other, curve.Base(mine), key, p)
			}
			for n := range secrets {
				third, _ := pair.Key(secrets[n], other)
				holds(t, n == i, curve.Base(mine), other, third, p)
			}
		}
	}
}

// P9.1, P9.2, R3: whatever is asked between them, two calls with the same arguments answer the same.
func TestNothingIsKept(t *testing.T) {
	for range 3 {
		for _, s := range knowns() {
			isProof(t, s.proof, s.secret, s.nonce, s.b)
			noProof(t, s.secret, s.nonce, api.Point{})
			holds(t, true, s.a, s.b, s.k, s.proof)
			holds(t, false, s.a, s.b, s.k, api.Proof{})
			noPoint(t, api.Point{}, s.b, s.k, s.proof)
			holds(t, true, s.a, s.b, s.k, s.proof)
			isProof(t, s.proof, s.secret, s.nonce, s.b)
		}
	}
}

// P9.1, P9.2, R3: calls side by side answer as calls one behind the other.
func TestSideBySide(t *testing.T) {
	var wait sync.WaitGroup
	for i := range 8 {
		wait.Go(func() {
			for n, s := range knowns() {
				l := mixed(2, uint64(8*n+i))
				isProof(t, wantProof(l[0], l[1], s.b), l[0], l[1], s.b)
				isProof(t, s.proof, s.secret, s.nonce, s.b)
				holds(t, true, s.a, s.b, s.k, s.proof)
				holds(t, false, s.a, s.b, s.k, api.Proof{C: l[0], R: l[1]})
			}
		})
	}
	wait.Wait()
}

func BenchmarkProve(b *testing.B) {
	l, p := mixed(2, 1), bases()[7]
	b.ReportAllocs()
	for b.Loop() {
		dleq.Prove(l[0], l[1], p)
	}
}

func BenchmarkHolds(b *testing.B) {
	s := knowns()[0]
	b.ReportAllocs()
	for b.Loop() {
		dleq.Holds(s.a, s.b, s.k, s.proof)
	}
}
