package act_test

import (
	"bytes"
	"encoding/hex"
	"math"
	"math/big"
	"slices"
	"strings"
	"sync"
	"testing"

	"witan/act"
	"witan/api"
	"witan/curve"
)

const full = 1<<64 - 1

var (
	inf   = api.Point{Inf: true}
	whole = api.Num{full, full, full, full}
	count = number("fffffffffffffffffffffffffffffffebaaedce6af48a03bbfd25e8cd0364141") // of points
	prime = number("fffffffffffffffffffffffffffffffffffffffffffffffffffffffefffffc2f") // of coordinates
	g     = curve.Base(api.Num{1})
	proof = api.Proof{C: api.Num{1, 2, 3, 4}, R: api.Num{5, 0, 0, 6}}
)

func unhex(s string) []byte {
	b, err := hex.DecodeString(s)
	if err != nil {
		panic(err)
	}
	return b
}

func number(s string) api.Num { return numOf(new(big.Int).SetBytes(unhex(s))) }

func bigOf(a api.Num) *big.Int {
	n := new(big.Int)
	for i := 3; i >= 0; i-- {
		n.Lsh(n, 64).Or(n, new(big.Int).SetUint64(a[i]))
	}
	return n
}

func numOf(n *big.Int) (a api.Num) {
	for i := range a {
		a[i] = new(big.Int).Rsh(n, uint(64*i)).Uint64()
	}
	return a
}

// more tells a and n, of which the sum is below 2^256.
func more(a api.Num, n int64) api.Num { return numOf(new(big.Int).Add(bigOf(a), big.NewInt(n))) }

// mixed are bytes without a pattern that a test could lean on; they are the same in every run.
func mixed(count int, seed uint64) []byte {
	b, x := make([]byte, count), seed
	for i := range b {
		x = x*0x5851f42d4c957f2d + 0x14057b7ef767814f
		b[i] = byte((x ^ x>>29) >> 40)
	}
	return b
}

// some are points other than Inf, of different Y.
func some(count int, seed uint64) (l []api.Point) {
	for i := range count {
		l = append(l, curve.Base(numOf(new(big.Int).SetBytes(mixed(32, seed+uint64(i))))))
	}
	return l
}

func seals(count int) [][32]byte {
	var l [][32]byte
	for i := range count {
		l = append(l, [32]byte(mixed(32, uint64(900+i))))
	}
	return l
}

// wrong are what are no points, each in a way of its own.
func wrong() []api.Point {
	return []api.Point{
		{}, {X: g.X}, {Y: g.Y}, {X: g.Y, Y: g.X}, {Inf: true, X: g.X, Y: g.Y}, {Inf: true, X: api.Num{1}}, {Inf: true, Y: api.Num{1}},
		{X: whole, Y: whole}, {X: api.Num{1}, Y: api.Num{1}}, {X: g.X, Y: more(g.Y, 1)},
	}
}

// strange are numbers that are not below n.
func strange() []api.Num {
	return []api.Num{count, more(count, 1), prime, whole, {0, 0, full, full}}
}

func join(l ...[]byte) []byte { return slices.Concat(l...) }

func wantNum(a api.Num) []byte { return bigOf(a).FillBytes(make([]byte, 32)) }

// wantPoint is a point's bytes, by math/big.
func wantPoint(p api.Point) []byte {
	if p.Inf {
		return []byte{0}
	}
	return join([]byte{byte(2 + bigOf(p.Y).Bit(0))}, wantNum(p.X))
}

func wantLabel(s string) []byte {
	return join(big.NewInt(int64(len(s))).FillBytes(make([]byte, 4)), []byte(s))
}

// wantBytes are an act's bytes, in the chapter's words.
func wantBytes(a api.Act) []byte {
	b := []byte{byte(a.Kind)}
	switch a.Kind {
	case 1:
		return join(b, wantPoint(a.Key), wantLabel(a.Label))
	case 2:
		b = append(b, byte(len(a.Seals)))
		for i := range a.Seals {
			b = join(b, a.Seals[i][:])
		}
		b = append(b, byte(len(a.Commits)))
		for i := range a.Commits {
			b = join(b, wantPoint(a.Commits[i]))
		}
		return b
	case 3:
		return join(b, []byte{byte(a.Against)}, wantPoint(a.Key), wantNum(a.Proof.C), wantNum(a.Proof.R))
	case 4:
		return join(b, wantPoint(a.Key), wantNum(a.Proof.C), wantNum(a.Proof.R))
	}
	return b
}

func register(key api.Point, label string) api.Act {
	return api.Act{Kind: api.Register, Key: key, Label: label}
}

func post(seals [][32]byte, commits ...api.Point) api.Act {
	return api.Act{Kind: api.Post, Seals: seals, Commits: commits}
}

func dispute(against int, key api.Point, p api.Proof) api.Act {
	return api.Act{Kind: api.Dispute, Against: against, Key: key, Proof: p}
}

func submit(key api.Point, p api.Proof) api.Act {
	return api.Act{Kind: api.Submit, Key: key, Proof: p}
}

// rights are right acts of all Kinds, at all edges.
func rights() []api.Act {
	l := []api.Act{{Kind: api.Withdraw}, {Kind: api.Withdraw, Seals: [][32]byte{}, Commits: []api.Point{}}}
	keys := some(4, 1)
	for _, s := range []string{"x", "Ada", "Ada L.", "Zoë", "a  b", "ÿ", "\u00a0", "世界", "\U0010ffff", "\ufffc", "\ufffe", "\uffff", strings.Repeat("x", 24), strings.Repeat("ë", 24), strings.Repeat("\U0001f600", 24)} {
		l = append(l, register(keys[0], s), register(keys[1], s))
	}
	for _, n := range []int{0, 1, 2, 7, 8} {
		l = append(l, post(seals(n), keys[n%4]), post(seals(n), keys[0], inf), post(seals(n), keys[0], inf, keys[1], inf, inf), post(make([][32]byte, n), g, g))
	}
	l = append(l, post(nil, some(63, 20)...), post(seals(8), some(64, 90)...))
	for i := range 8 {
		l = append(l, dispute(i+1, keys[i%4], proof))
	}
	for _, c := range []api.Num{{}, {1}, {full}, {0, 0, 0, 1}, more(count, -1), numOf(new(big.Int).SetBytes(mixed(31, 7)))} {
		for _, r := range []api.Num{{}, {9}, {0, full}, more(count, -1), numOf(new(big.Int).SetBytes(mixed(31, 8)))} {
			l = append(l, dispute(8, keys[2], api.Proof{C: c, R: r}), submit(keys[3], api.Proof{C: c, R: r}))
		}
	}
	return l
}

// least tells one right act of each Kind, at that place.
func least() []api.Act {
	return []api.Act{{}, register(g, "x"), post(nil, g), dispute(1, g, api.Proof{}), submit(g, api.Proof{}), {Kind: api.Withdraw}}
}

// isSame tells whether both are one act: an empty list and none mean the same.
func isSame(a, b api.Act) bool {
	return a.Kind == b.Kind && a.Key == b.Key && a.Label == b.Label && slices.Equal(a.Seals, b.Seals) && slices.Equal(a.Commits, b.Commits) && a.Against == b.Against && a.Proof == b.Proof
}

// isRight is for acts that may be: all three calls must tell so.
func isRight(t *testing.T, a api.Act) {
	t.Helper()
	if e := act.Check(a); e != api.OK {
		t.Errorf("Check(%v) = %d", a, e)
	}
	b, e := act.Bytes(a)
	if want := wantBytes(a); !bytes.Equal(b, want) || e != api.OK {
		t.Errorf("Bytes(%v) = %x, %d, not %x", a, b, e, want)
	}
	isRead(t, a, b)
}

// isWrong is for acts that may not be: it asks for that error.
func isWrong(t *testing.T, want api.Errno, a api.Act) {
	t.Helper()
	if e := act.Check(a); e != want {
		t.Errorf("Check(%v) = %d, not %d", a, e, want)
	}
	if b, e := act.Bytes(a); len(b) != 0 || e != want {
		t.Errorf("Bytes(%v) = %x, %d, not %d", a, b, e, want)
	}
}

func isRead(t *testing.T, want api.Act, b []byte) {
	t.Helper()
	if a, e := act.Read(b); !isSame(a, want) || e != api.OK {
		t.Errorf("Read(%x) = %v, %d, not %v", b, a, e, want)
	}
}

func noRead(t *testing.T, b []byte) {
	t.Helper()
	if a, e := act.Read(b); !isSame(a, api.Act{}) || e != api.ErrBytes {
		t.Errorf("Read(%x) = %v, %d", b, a, e)
	}
}

// P12.2: the chapter's examples.
func TestExamples(t *testing.T) {
	isRead(t, api.Act{Kind: api.Withdraw}, []byte{5})
	noRead(t, []byte{5, 0})
}

// P12.1, P12.2: bytes that are written out here.
func TestKnown(t *testing.T) {
	const point = "0279be667ef9dcbbac55a06295ce870b07029bfcdb2dce28d959f2815b16f81798"
	const twice = "02c6047f9441ed7d6d3045406e95c07cd85c778e4b8cef3ca7abac09b95c709ee5"
	const turned = "0379be667ef9dcbbac55a06295ce870b07029bfcdb2dce28d959f2815b16f81798"
	c, r := strings.Repeat("00", 30)+"0102", strings.Repeat("00", 23)+"030000000000000004"
	p := api.Proof{C: api.Num{258}, R: api.Num{4, 3}}
	two, back := curve.Base(api.Num{2}), curve.Base(more(count, -1))
	for _, x := range []struct {
		text string
		a    api.Act
	}{
		{"01" + point + "00000003416461", register(g, "Ada")},
		{"01" + turned + "000000045a6fc3ab", register(back, "Zoë")},
		{"020001" + point, post(nil, g)},
		{"0202" + strings.Repeat("11", 32) + strings.Repeat("22", 32) + "03" + twice + "00" + turned, post([][32]byte{[32]byte(bytes.Repeat([]byte{0x11}, 32)), [32]byte(bytes.Repeat([]byte{0x22}, 32))}, two, inf, back)},
		{"0308" + twice + c + r, dispute(8, two, p)},
		{"04" + point + c + r, submit(g, p)},
		{"05", api.Act{Kind: api.Withdraw}},
	} {
		if b, e := act.Bytes(x.a); hex.EncodeToString(b) != x.text || e != api.OK {
			t.Errorf("Bytes(%v) = %x, %d, not %s", x.a, b, e, x.text)
		}
		isRead(t, x.a, unhex(x.text))
	}
}

// P12.1, P12.3: right acts of all Kinds, at all edges, have their bytes, and these are read as that act.
func TestRight(t *testing.T) {
	for _, a := range rights() {
		isRight(t, a)
	}
}

// P12.1: a Kind that is none is refused ahead of all else, also one of which the lowest byte would be one.
func TestWrongKinds(t *testing.T) {
	l := append(rights(), api.Act{Key: wrong()[1], Label: " ", Against: 99, Proof: api.Proof{C: count}})
	for _, kind := range []int{0, -1, -2, -5, -256, -255, -251, 6, 7, 8, 127, 128, 255, 256, 257, 258, 259, 260, 261, 1 << 16, 1<<32 + 1, 1<<32 + 5, math.MaxInt, math.MinInt, math.MinInt + 1, math.MinInt + 5} {
		for _, a := range l {
			a.Kind = kind
			isWrong(t, api.ErrKind, a)
		}
	}
}

// A field sets one field of an act to something that is not 0: named tells of which Kinds it is.
type field struct {
	named string
	set   func(a *api.Act)
}

func fields() []field {
	l := []field{
		{"134", func(a *api.Act) { a.Key = g }},
		{"134", func(a *api.Act) { a.Key = inf }},
		{"134", func(a *api.Act) { a.Key.X = api.Num{0, 0, 0, 1} }},
		{"134", func(a *api.Act) { a.Key.Y = api.Num{0, 1} }},
		{"1", func(a *api.Act) { a.Label = "Ada" }},
		{"1", func(a *api.Act) { a.Label = " " }},
		{"1", func(a *api.Act) { a.Label = "\x00" }},
		{"1", func(a *api.Act) { a.Label = "\xff" }},
		{"2", func(a *api.Act) { a.Seals = make([][32]byte, 1) }},
		{"2", func(a *api.Act) { a.Seals = make([][32]byte, 9) }},
		{"2", func(a *api.Act) { a.Commits = []api.Point{g} }},
		{"2", func(a *api.Act) { a.Commits = make([]api.Point, 1) }},
		{"2", func(a *api.Act) { a.Commits = make([]api.Point, 65) }},
		{"34", func(a *api.Act) { a.Proof.C = whole }},
		{"34", func(a *api.Act) { a.Proof.R = whole }},
	}
	for _, n := range []int{1, 8, 9, -1, 256, math.MaxInt, math.MinInt} {
		l = append(l, field{"3", func(a *api.Act) { a.Against = n }})
	}
	for i := range 4 {
		l = append(l, field{"34", func(a *api.Act) { a.Proof.C[i] = 1 }}, field{"34", func(a *api.Act) { a.Proof.R[i] = 1 << 63 }})
	}
	return l
}

// P12.1: a field that the Kind does not name and that is not 0 is refused, whatever it is; an empty list is none.
func TestFieldsThatAreNotNamed(t *testing.T) {
	for kind, a := range least() {
		if kind == 0 {
			continue
		}
		isRight(t, a)
		for _, f := range fields() {
			if strings.ContainsRune(f.named, rune('0'+kind)) {
				continue
			}
			b := a
			f.set(&b)
			isWrong(t, api.ErrArg, b)
		}
		if kind != api.Post {
			a.Seals, a.Commits = [][32]byte{}, []api.Point{}
			isRight(t, a)
			a.Seals, a.Commits = seals(3)[:0], []api.Point{g, g}[:0]
			isRight(t, a)
		}
	}
}

// P12.1, R4: a field that is not named is told ahead of whatever is wrong with those that are.
func TestFieldsThatAreNotNamedFirst(t *testing.T) {
	for _, no := range append(wrong(), inf) {
		a, b, c := register(no, " "), dispute(9, no, api.Proof{C: count}), submit(no, api.Proof{R: whole})
		a.Against, b.Seals, c.Label = 1, seals(1), "x"
		isWrong(t, api.ErrArg, a)
		isWrong(t, api.ErrArg, b)
		isWrong(t, api.ErrArg, c)
		d := post(seals(9), no)
		d.Proof.C[3] = 1
		isWrong(t, api.ErrArg, d)
	}
}

// noLabels are texts that are no labels.
func noLabels() []string {
	return []string{"", " ", " x", "x ", "\x00", "a\nb", "\x7f", "\u0080", "\u009f", "\ufffd", "\xff", "x\xc3", "\xc0\xaf", "\xed\xa0\x80", "\xf4\x90\x80\x80", strings.Repeat("x", 25), strings.Repeat("ë", 25), strings.Repeat("x", 1000), strings.Repeat("x", api.MaxPart), strings.Repeat("x", api.MaxPart+1), strings.Repeat("\xff", 24)}
}

// P12.1: of Register a Key that may not be is ErrPoint, ahead of a label that may not be: ErrLabel.
func TestRegister(t *testing.T) {
	for _, no := range append(wrong(), inf) {
		isWrong(t, api.ErrPoint, register(no, "Ada"))
		for _, s := range noLabels() {
			isWrong(t, api.ErrPoint, register(no, s))
		}
	}
	for _, s := range noLabels() {
		isWrong(t, api.ErrLabel, register(g, s))
	}
}

// P12.1: of Post too many Seals, too many Commits, or none, are ErrLen, ahead of what is no point.
func TestPostLengths(t *testing.T) {
	many := make([]api.Point, 300)
	for i := range many {
		many[i] = g
	}
	for _, n := range []int{9, 10, 255, 256, 257, 264, 1000} {
		isWrong(t, api.ErrLen, post(make([][32]byte, n), g))
		isWrong(t, api.ErrLen, post(make([][32]byte, n)))
		isWrong(t, api.ErrLen, post(make([][32]byte, n), inf))
		isWrong(t, api.ErrLen, post(make([][32]byte, n), g, api.Point{}))
		isWrong(t, api.ErrLen, post(make([][32]byte, n), many[:65]...))
	}
	for _, n := range []int{65, 66, 128, 255, 256, 257, 300} {
		isWrong(t, api.ErrLen, post(nil, many[:n]...))
		isWrong(t, api.ErrLen, post(seals(8), many[:n]...))
		isWrong(t, api.ErrLen, post(seals(8), make([]api.Point, n)...))
	}
	for n := range 9 {
		isWrong(t, api.ErrLen, post(seals(n)))
		isRight(t, post(seals(n), many[:n+1]...))
	}
	isRight(t, post(nil, many[:64]...))
}

// P12.1: of Post what is no point is ErrPoint, wherever it stands, and so is Inf, if it stands first.
func TestPostPoints(t *testing.T) {
	for _, no := range wrong() {
		isWrong(t, api.ErrPoint, post(nil, no))
		for _, n := range []int{2, 3, 64} {
			for _, at := range []int{0, 1, n / 2, n - 1} {
				l := slices.Repeat([]api.Point{g}, n)
				l[at] = no
				isWrong(t, api.ErrPoint, post(seals(n%9), l...))
			}
		}
	}
	isWrong(t, api.ErrPoint, post(nil, inf))
	isWrong(t, api.ErrPoint, post(seals(8), inf, g))
	isWrong(t, api.ErrPoint, post(seals(8), inf, inf))
	isRight(t, post(nil, slices.Concat([]api.Point{g}, slices.Repeat([]api.Point{inf}, 63))...))
}

// P12.1: of Dispute Against that may not be is ErrArg, ahead of a Key that may not be: ErrPoint, ahead of a Proof that may not be: ErrRange.
func TestDispute(t *testing.T) {
	for _, n := range []int{0, -1, -8, 9, 10, 255, 256, 257, 264, 1<<32 + 1, math.MaxInt, math.MinInt, math.MinInt + 1} {
		isWrong(t, api.ErrArg, dispute(n, g, proof))
		isWrong(t, api.ErrArg, dispute(n, inf, api.Proof{C: count}))
		isWrong(t, api.ErrArg, dispute(n, api.Point{}, proof))
		isWrong(t, api.ErrArg, dispute(n, g, api.Proof{R: count}))
	}
	for i := range 8 {
		testProven(t, func(key api.Point, p api.Proof) api.Act { return dispute(i+1, key, p) })
	}
}

// P12.1: of Submit a Key that may not be is ErrPoint, ahead of a Proof that may not be: ErrRange.
func TestSubmit(t *testing.T) { testProven(t, submit) }

func testProven(t *testing.T, made func(api.Point, api.Proof) api.Act) {
	t.Helper()
	for _, no := range append(wrong(), inf) {
		isWrong(t, api.ErrPoint, made(no, proof))
		isWrong(t, api.ErrPoint, made(no, api.Proof{}))
		isWrong(t, api.ErrPoint, made(no, api.Proof{C: count, R: whole}))
	}
	last := more(count, -1)
	for _, n := range strange() {
		for _, p := range []api.Proof{{C: n}, {R: n}, {C: n, R: n}, {C: last, R: n}, {C: n, R: last}} {
			isWrong(t, api.ErrRange, made(g, p))
		}
	}
	isRight(t, made(g, api.Proof{C: last, R: last}))
}

// P12.2: of what is written, none of the beginnings are an act's bytes, nor is it with more bytes behind it, whatever lies in the spare room.
func TestReadTooFewAndTooMany(t *testing.T) {
	for _, a := range rights() {
		b := wantBytes(a)
		for cut := range b {
			if len(b) < 400 || cut < 300 || cut%97 == 0 {
				noRead(t, b[:cut])
			}
		}
		for _, behind := range [][]byte{{0}, {1}, {5}, {255}, {0, 0, 0, 0}, b, mixed(33, 30)} {
			noRead(t, join(b, behind))
		}
		noRead(t, join([]byte{0}, b))
		noRead(t, join([]byte{byte(a.Kind)}, b))
	}
	noRead(t, nil)
	noRead(t, []byte{})
}

// P12.2: a first byte that is no Kind is refused, whatever follows.
func TestReadWrongKinds(t *testing.T) {
	for _, a := range rights()[:20] {
		b := wantBytes(a)
		for kind := range 256 {
			if kind < api.Register || kind > api.Withdraw {
				b[0] = byte(kind)
				noRead(t, b)
				noRead(t, b[:1])
			}
		}
	}
	// What is of one Kind is of no other one.
	for _, a := range rights() {
		b := wantBytes(a)
		for kind := api.Register; kind <= api.Withdraw; kind++ {
			if kind != a.Kind {
				b[0] = byte(kind)
				noRead(t, b)
			}
		}
	}
}

// wrongPoints are bytes that are no point's.
func wrongPoints() [][]byte {
	key := wantPoint(g)
	l := [][]byte{{1}, {2}, {3}, {4}, key[1:], key[:32]}
	for _, first := range []byte{1, 4, 5, 6, 7, 128, 255} {
		l = append(l, join([]byte{first}, key[1:]))
	}
	l = append(l, join([]byte{4}, wantNum(g.X), wantNum(g.Y)))
	for _, x := range []api.Num{{5}, {}, prime, more(prime, 1), whole} {
		// No point has 0 or 5 as its X; that of p and 1 would be 1, which some point has.
		l = append(l, join([]byte{2}, wantNum(x)), join([]byte{3}, wantNum(x)))
	}
	return l
}

// P12.2: what is written as an act, but with a point that may not be, is refused.
func TestReadWrongPoints(t *testing.T) {
	end := join(wantNum(proof.C), wantNum(proof.R))
	zeroed := join([]byte{0}, make([]byte, 32))
	for _, p := range append(wrongPoints(), zeroed) {
		noRead(t, join([]byte{1}, p, wantLabel("Ada")))
		noRead(t, join([]byte{2, 0, 1}, p))
		noRead(t, join([]byte{2, 0, 2}, wantPoint(g), p))
		noRead(t, join([]byte{2, 0, 3}, wantPoint(g), p, wantPoint(g)))
		noRead(t, join([]byte{3, 1}, p, end))
		noRead(t, join([]byte{4}, p, end))
	}
	none := []byte{0}
	noRead(t, join([]byte{1}, none, wantLabel("Ada")))
	noRead(t, join([]byte{2, 0, 1}, none))
	noRead(t, join([]byte{2, 0, 2}, none, wantPoint(g)))
	noRead(t, join([]byte{3, 1}, none, end))
	noRead(t, join([]byte{4}, none, end))
}

// P12.2: what is written as Register, but with a text that is no label, or with another length than that text has, is refused.
func TestReadWrongLabels(t *testing.T) {
	head := join([]byte{1}, wantPoint(g))
	for _, s := range noLabels() {
		noRead(t, join(head, wantLabel(s)))
	}
	for _, s := range []string{"x", "Ada", "Zoë", strings.Repeat("\U0001f600", 24)} {
		isRead(t, register(g, s), join(head, wantLabel(s)))
		for _, n := range []int64{0, 1, 2, 3, 4, 5, 95, 96, 97, 98, 255, 256, 1 << 14, 1<<14 + 1, 1 << 16, 1 << 24, 1<<31 - 1, 1 << 31, 1<<32 - 1} {
			if int(n) != len(s) {
				noRead(t, join(head, big.NewInt(n).FillBytes(make([]byte, 4)), []byte(s)))
			}
		}
		for n := range 4 {
			noRead(t, join(head, wantLabel(s)[4-n:]))
		}
	}
}

// P12.2: what is written as Post, but with too many Seals or Commits, or none of these, is refused.
func TestReadWrongLengths(t *testing.T) {
	for n := range 256 {
		b := join([]byte{2, byte(n)}, bytes.Repeat([]byte{7}, 32*n), []byte{1}, wantPoint(g))
		c := join([]byte{2, 0, byte(n)}, bytes.Repeat(wantPoint(g), n))
		d := join([]byte{2, 0, byte(n)}, wantPoint(g), make([]byte, max(1, n)-1))
		if n > 8 {
			noRead(t, b)
		} else {
			isRead(t, post(slices.Repeat([][32]byte{[32]byte(bytes.Repeat([]byte{7}, 32))}, n), g), b)
		}
		if n < 1 || n > 64 {
			noRead(t, c)
			noRead(t, d)
		} else {
			isRead(t, post(nil, slices.Repeat([]api.Point{g}, n)...), c)
			isRead(t, post(nil, slices.Concat([]api.Point{g}, slices.Repeat([]api.Point{inf}, n-1))...), d)
		}
	}
}

// P12.2: what is written as Dispute or Submit, but with a number that may not be, is refused.
func TestReadWrongNumbers(t *testing.T) {
	key, zero, last := wantPoint(g), make([]byte, 32), wantNum(more(count, -1))
	for n := range 256 {
		b := join([]byte{3, byte(n)}, key, zero, last)
		if n < 1 || n > 8 {
			noRead(t, b)
		} else {
			isRead(t, dispute(n, g, api.Proof{R: more(count, -1)}), b)
		}
	}
	for _, head := range [][]byte{{3, 1}, {3, 8}, {4}} {
		for _, n := range strange() {
			noRead(t, join(head, key, wantNum(n), zero))
			noRead(t, join(head, key, zero, wantNum(n)))
			noRead(t, join(head, key, last, wantNum(n)))
		}
	}
}

// isReadBack is for any bytes: they are none of an act, or those of the act that they are read as.
func isReadBack(t *testing.T, b []byte) {
	t.Helper()
	a, e := act.Read(b)
	if e == api.ErrBytes && isSame(a, api.Act{}) {
		return
	}
	if c := act.Check(a); c != api.OK || e != api.OK {
		t.Fatalf("Read(%x) = %v, %d, of which Check tells %d", b, a, e, c)
	}
	if got, e := act.Bytes(a); !bytes.Equal(got, b) || e != api.OK || !bytes.Equal(wantBytes(a), b) {
		t.Fatalf("Bytes(%v) = %x, %d, not %x", a, got, e, b)
	}
}

// P12.3: whichever byte of what is written is another one, what is read is written as those bytes, or it is none.
func TestReadOtherBytes(t *testing.T) {
	for i, a := range rights() {
		b := wantBytes(a)
		for at := range b {
			if len(b) > 400 && at%111 != 0 {
				continue
			}
			for _, x := range []byte{1, byte(1 + (i+7*at)%255)} {
				b[at] ^= x
				isReadBack(t, b)
				b[at] ^= x
			}
		}
	}
	for i := range 3000 {
		b := mixed(i%200, uint64(i))
		isReadBack(t, b)
		if len(b) > 0 {
			b[0] = byte(i % 7)
			isReadBack(t, b)
		}
	}
}

// P12.2, R1: of many bytes that are none of an act, none makes a call panic, or take long.
func TestReadLong(t *testing.T) {
	for kind := range 7 {
		for _, x := range []byte{0, 1, 2, 3, 8, 64, 255} {
			b := bytes.Repeat([]byte{x}, 1<<20)
			b[0] = byte(kind)
			noRead(t, b)
			noRead(t, b[:api.MaxBytes])
		}
	}
}

// P12.1, R1: nor does an act with long lists, or a long text.
func TestCheckLong(t *testing.T) {
	long := strings.Repeat("x", 1<<24)
	isWrongLong(t, api.ErrLabel, register(g, long))
	isWrongLong(t, api.ErrArg, api.Act{Kind: api.Withdraw, Label: long})
	isWrongLong(t, api.ErrLen, post(make([][32]byte, 1<<18), g))
	isWrongLong(t, api.ErrLen, post(nil, make([]api.Point, 1<<18)...))
	isWrongLong(t, api.ErrKind, api.Act{Label: long, Seals: make([][32]byte, 1<<18)})
}

// isWrongLong is isWrong of what is too long to be told.
func isWrongLong(t *testing.T, want api.Errno, a api.Act) {
	t.Helper()
	b, f := act.Bytes(a)
	if e := act.Check(a); e != want || f != want || len(b) != 0 {
		t.Errorf("of Kind %d: %d, %d, not %d", a.Kind, e, f, want)
	}
}

// spoil writes all over the lists of an act, their spare room too.
func spoil(a api.Act) {
	for i := range a.Seals[:cap(a.Seals)] {
		a.Seals[:cap(a.Seals)][i][3] ^= 0x5a
	}
	for i := range a.Commits[:cap(a.Commits)] {
		a.Commits[:cap(a.Commits)][i].X[0] ^= 0x5a
	}
}

func spoilBytes(b []byte) {
	b = b[:cap(b)]
	for i := range b {
		b[i] ^= 0x5a
	}
}

// twin is an act like a in memory of its own, with spare room that is somebody else's.
func twin(a api.Act) api.Act {
	a.Seals = append(slices.Clone(a.Seals), seals(3)...)[:len(a.Seals)]
	a.Commits = append(slices.Clone(a.Commits), g, g, g)[:len(a.Commits)]
	return a
}

// isWhole tells whether an act that twin told is as it was, its spare room too.
func isWhole(t *testing.T, a, was api.Act) {
	t.Helper()
	behind, before := a.Seals[len(a.Seals):len(a.Seals)+3], a.Commits[len(a.Commits):len(a.Commits)+3]
	if !isSame(a, was) || !slices.Equal(behind, seals(3)) || !slices.Equal(before, []api.Point{g, g, g}) {
		t.Errorf("what was handed in is changed: %v, not %v", a, was)
	}
}

// P12.1, R2, R6: what is handed to Check and Bytes is not changed, and the bytes are new memory each time.
func TestBytesMemory(t *testing.T) {
	for _, a := range rights() {
		h, want := twin(a), wantBytes(a)
		if e := act.Check(h); e != api.OK {
			t.Errorf("Check(%v) = %d", h, e)
		}
		one, _ := act.Bytes(h)
		two, _ := act.Bytes(h)
		isWhole(t, h, a)
		if !bytes.Equal(one[:cap(one)][len(one):], make([]byte, cap(one)-len(one))) {
			t.Errorf("spare room is told: %x", one[:cap(one)])
		}
		spoilBytes(one)
		isWhole(t, h, a)
		spoil(h)
		if !bytes.Equal(two, want) {
			t.Errorf("memory is not the answer's own: %x, not %x", two, want)
		}
	}
}

// P12.2, R2, R6: bytes that are read are not changed, nor is what lies behind them looked at, and what is told is new memory each time.
func TestReadMemory(t *testing.T) {
	for _, a := range rights() {
		want := wantBytes(a)
		all := join(want, bytes.Repeat([]byte{77}, 64))
		before := slices.Clone(all)
		one, _ := act.Read(all[:len(want)])
		two, _ := act.Read(all[:len(want)])
		if !bytes.Equal(all, before) {
			t.Errorf("what was handed in is changed: %x, not %x", all, before)
		}
		spoil(one)
		if !bytes.Equal(all, before) {
			t.Errorf("what was handed in is changed: %x, not %x", all, before)
		}
		spoilBytes(all)
		if !isSame(two, a) {
			t.Errorf("memory is not the answer's own: %v, not %v", two, a)
		}
	}
}

// P12.1, P12.2, R3: whatever is asked between them, two calls with the same arguments answer the same.
func TestNothingIsKept(t *testing.T) {
	for range 3 {
		for _, a := range least()[1:] {
			isRight(t, a)
			isWrong(t, api.ErrKind, api.Act{Against: 1})
			isWrong(t, api.ErrPoint, register(inf, " "))
			noRead(t, []byte{byte(a.Kind), 9})
		}
	}
}

// P12.1, P12.2, R3: calls side by side answer as calls one behind the other, also where they are handed the same lists.
func TestSideBySide(t *testing.T) {
	a := post(seals(5), some(3, 60)...)
	b := wantBytes(a)
	var wait sync.WaitGroup
	for range 8 {
		wait.Go(func() {
			for range 5 {
				isRight(t, a)
				isRead(t, a, b)
				isWrong(t, api.ErrLen, post(a.Seals))
				noRead(t, b[1:])
			}
		})
	}
	wait.Wait()
}

// P12.3: whatever bytes are read, they are none of an act, or its bytes.
func FuzzRead(f *testing.F) {
	for _, a := range rights() {
		f.Add(wantBytes(a))
	}
	f.Fuzz(func(t *testing.T, b []byte) { isReadBack(t, b) })
}

// P12.1, P12.3: whatever an act is, it is refused as the chapter's words say, or its bytes are read as it.
func FuzzAct(f *testing.F) {
	f.Add(1, 1, "Ada", 0, 0, 0, []byte{}, []byte{})
	f.Add(2, 0, "", 8, 64, 0, []byte{}, []byte{})
	f.Add(3, 2, "", 0, 0, 8, []byte{5}, wantNum(count))
	f.Add(4, 3, " ", 0, 0, 0, wantNum(more(count, -1)), []byte{1, 2})
	f.Fuzz(func(t *testing.T, kind, key int, label string, sealed, committed, against int, c, r []byte) {
		points := append(wrong(), inf, g, curve.Base(api.Num{2}), api.Point{})
		at := func(i int) api.Point { return points[uint(i)%uint(len(points))] }
		a := api.Act{Kind: kind, Key: at(key), Label: label, Against: against, Seals: make([][32]byte, uint(sealed)%12)}
		a.Proof = api.Proof{C: numOf(new(big.Int).SetBytes(c)), R: numOf(new(big.Int).SetBytes(r))}
		for i := range uint(committed) % 70 {
			a.Commits = append(a.Commits, at(key+int(i)*against))
		}
		e := act.Check(a)
		if e != api.OK {
			isWrong(t, e, a)
		} else {
			isRight(t, a)
		}
	})
}

func BenchmarkBytes(b *testing.B) {
	a := post(seals(8), some(64, 90)...)
	for b.Loop() {
		act.Bytes(a)
	}
}

func BenchmarkRead(b *testing.B) {
	c := wantBytes(post(seals(8), some(64, 90)...))
	for b.Loop() {
		act.Read(c)
	}
}
