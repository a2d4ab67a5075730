package draw_test

import (
	"bytes"
	"crypto/hmac"
	"crypto/sha256"
	"encoding/binary"
	"encoding/hex"
	"math"
	"math/big"
	"slices"
	"strings"
	"sync"
	"testing"

	"witan/api"
	"witan/curve"
	"witan/draw"
)

var (
	prime  = number("fffffffffffffffffffffffffffffffffffffffffffffffffffffffefffffc2f")
	points = number("fffffffffffffffffffffffffffffffebaaedce6af48a03bbfd25e8cd0364141")
)

func number(s string) *big.Int {
	n, ok := new(big.Int).SetString(s, 16)
	if !ok {
		panic(s)
	}
	return n
}

func numOf(n *big.Int) (a api.Num) {
	var b [32]byte
	n.FillBytes(b[:])
	for i := range a {
		a[3-i] = binary.BigEndian.Uint64(b[8*i:])
	}
	return a
}

// mixed are bytes without a pattern that a test could lean on; they are the same in every run.
func mixed(count int, seed uint64) []byte {
	l, x := make([]byte, count), seed
	for i := range l {
		x = x*0x5851f42d4c957f2d + 0x14057b7ef767814f
		l[i] = byte(x >> 56)
	}
	return l
}

// joined, wantScalar, wantPoint and wantStream go by the chapter's words, with the library's hashes and numbers.
func joined(tag string, parts ...[]byte) []byte {
	j := binary.BigEndian.AppendUint32(nil, uint32(len(tag)))
	j = append(j, tag...)
	for _, part := range parts {
		j = binary.BigEndian.AppendUint32(j, uint32(len(part)))
		j = append(j, part...)
	}
	return j
}

func hashed(j []byte, behind ...byte) *big.Int {
	sum := sha256.Sum256(slices.Concat(j, behind))
	return new(big.Int).SetBytes(sum[:])
}

func wantScalar(tag string, parts ...[]byte) api.Num {
	j := joined(tag, parts...)
	all := new(big.Int).Lsh(hashed(j, 0), 256)
	all.Add(all, hashed(j, 1))
	return numOf(all.Mod(all, points))
}

// evenRoot tells the even Y of the points with that X, or nil.
func evenRoot(x *big.Int) *big.Int {
	square := new(big.Int).Exp(x, big.NewInt(3), prime)
	square.Add(square, big.NewInt(7))
	y := new(big.Int).ModSqrt(square, prime)
	if y != nil && y.Bit(0) == 1 {
		y.Sub(prime, y)
	}
	return y
}

func wantPoint(tag string, seed []byte) (api.Point, int) {
	j := joined(tag, seed)
	for c := range uint32(api.MaxTries) {
		x := hashed(j, binary.BigEndian.AppendUint32(nil, c)...)
		if x.Cmp(prime) >= 0 {
			continue
		}
		if y := evenRoot(x); y != nil {
			return api.Point{X: numOf(x), Y: numOf(y)}, int(c) + 1
		}
	}
	return api.Point{}, 0
}

func wantStream(key []byte, n int) []byte {
	b := []byte{}
	for c := uint64(0); len(b) < n; c++ {
		h := hmac.New(sha256.New, key)
		h.Write(binary.BigEndian.AppendUint64(nil, c))
		b = h.Sum(b)
	}
	return b[:n]
}

func isScalar(t *testing.T, want api.Num, tag string, parts ...[]byte) {
	t.Helper()
	if got, e := draw.Scalar(tag, parts...); got != want || e != api.OK {
		t.Errorf("Scalar(%.20q, %.20x) = %x, %d, not %x", tag, parts, got, e, want)
	}
}

func isPoint(t *testing.T, want api.Point, tries int, tag string, seed []byte) {
	t.Helper()
	if p, n, e := draw.Point(tag, seed); p != want || n != tries || e != api.OK {
		t.Errorf("Point(%.20q, %.20x) = %v, %d, %d, not %v, %d", tag, seed, p, n, e, want, tries)
	}
}

func isStream(t *testing.T, want []byte, key []byte, n int) {
	t.Helper()
	if b, e := draw.Stream(key, n); !bytes.Equal(b, want) || e != api.OK {
		t.Errorf("Stream(%.20x, %d) = %.40x, %d, not %.40x", key, n, b, e, want)
	}
}

func noScalar(t *testing.T, tag string, parts ...[]byte) {
	t.Helper()
	if got, e := draw.Scalar(tag, parts...); got != (api.Num{}) || e != api.ErrLen {
		t.Errorf("Scalar of a tag of %d bytes and %d parts = %x, %d", len(tag), len(parts), got, e)
	}
}

func noPoint(t *testing.T, tag string, seed []byte) {
	t.Helper()
	if p, n, e := draw.Point(tag, seed); p != (api.Point{}) || n != 0 || e != api.ErrLen {
		t.Errorf("Point of a tag of %d bytes and a seed of %d = %v, %d, %d", len(tag), len(seed), p, n, e)
	}
}

func noStream(t *testing.T, key []byte, n int) {
	t.Helper()
	if b, e := draw.Stream(key, n); len(b) != 0 || e != api.ErrLen {
		t.Errorf("Stream(%.20x, %d) = %d bytes, %d", key, n, len(b), e)
	}
}

// lengths are those of keys and parts around a block of the hash, and others.
func lengths() []int {
	return []int{0, 1, 2, 31, 32, 33, 46, 47, 48, 55, 56, 63, 64, 65, 66, 127, 128, 255, 256, 257, 1000}
}

// tags are empty, of one byte, of runes of several, of bytes that are none, of noughts, long.
func tags() []string {
	return []string{"", "a", "witan", "þing", "\xff\x80", "\x00", "\x00\x00\x00\x00", strings.Repeat("tag", 100)}
}

// cuts are lists of parts, many of which are the same bytes, cut in other ways.
func cuts() [][][]byte {
	return [][][]byte{
		{}, {{}}, {{}, {}}, {{}, {}, {}}, {{0}}, {{0, 0, 0, 0}}, {{0, 0, 0, 0, 0, 0, 0, 0}},
		{{1, 2}}, {{1}, {2}}, {{2}, {1}}, {{}, {1, 2}}, {{1, 2}, {}}, {{1}, {}, {2}}, {{1, 0, 0, 0, 1, 2}}, {{0, 0, 0, 2, 1, 2}},
		{bytes.Repeat([]byte{255}, 256)}, {mixed(300, 1), mixed(70, 2), mixed(1, 3)}, {mixed(371, 1)},
	}
}

// P5.1: the chapter's example.
func TestExample(t *testing.T) {
	hi, lo := hashed(make([]byte, 4), 0), hashed(make([]byte, 4), 1)
	all := hi.Add(hi.Lsh(hi, 256), lo)
	isScalar(t, numOf(all.Mod(all, points)), "")
}

// P5.1: scalars that were worked out by another program.
func TestKnownScalars(t *testing.T) {
	isScalar(t, numOf(number("44c258df3402abac8eb4b71028ed68e3da187556fd74723d611ab82967f6b51e")), "")
	isScalar(t, numOf(number("c0a4f243773f9eda285fe48cfd8438c9018b631439bd1636a2048a4d47ff13af")), "", nil)
	isScalar(t, numOf(number("87d5bd29a2936df38324212ad47996d4678ca76d44ca555329b8e52d70c6e8ac")), "hi")
	isScalar(t, numOf(number("371df1e8fd28606d9bf9c27e73ddb34d611f278000a8395f9b5acfa3558deffb")), "hi", nil, []byte{1, 2, 3})
	isScalar(t, numOf(number("0ecd79bed847f0ebd726e68c3a43fe670b785f3090a3824ad8e3e51984c9f0f5")), "þing", []byte("witan"))
	isScalar(t, numOf(number("5f905ca50d10b9403da26a79d1489c965e229916c3826ac66b2185b76225c371")), strings.Repeat("a", 300), make([]byte, 300), bytes.Repeat([]byte{255}, 700))
}

// P5.1: Scalar of all tags and cuts, and of parts at all lengths.
func TestScalar(t *testing.T) {
	for _, tag := range tags() {
		for _, parts := range cuts() {
			isScalar(t, wantScalar(tag, parts...), tag, parts...)
		}
	}
	for _, n := range lengths() {
		isScalar(t, wantScalar("t", mixed(n, 4)), "t", mixed(n, 4))
		isScalar(t, wantScalar("t", mixed(n, 5), mixed(n, 6)), "t", mixed(n, 5), mixed(n, 6))
		isScalar(t, wantScalar(string(mixed(n, 7))), string(mixed(n, 7)))
	}
}

// P5.1: the same bytes, cut in other ways, are not the same; nor are those of a tag and a part.
func TestCuts(t *testing.T) {
	seen, count := map[api.Num]int{}, 0
	for _, parts := range cuts() {
		one, _ := draw.Scalar("t", parts...)
		two, _ := draw.Scalar("", append([][]byte{[]byte("t")}, parts...)...)
		seen[one]++
		seen[two]++
		count += 2
	}
	if len(seen) != count {
		t.Errorf("%d scalars of %d cuts", len(seen), count)
	}
	one, _ := draw.Scalar("ab", []byte("c"))
	two, _ := draw.Scalar("a", []byte("bc"))
	if one == two {
		t.Error("a tag and a part are not told apart")
	}
	first, _, _ := draw.Point("ab", []byte("c"))
	second, _, _ := draw.Point("a", []byte("bc"))
	if first == second {
		t.Error("a tag and a seed are not told apart")
	}
}

// P5.1: joined parts of just MaxBytes bytes are taken, those of one more are not: in the tag, in a part, in many.
func TestScalarLength(t *testing.T) {
	const most = api.MaxBytes
	for over := range 2 {
		for _, c := range []struct {
			tag   string
			parts [][]byte
		}{
			{strings.Repeat("t", most-4+over), nil},
			{strings.Repeat("t", most-8+over), [][]byte{nil}},
			{"", [][]byte{mixed(most-8+over, 1)}},
			{"tag", [][]byte{mixed(most-11+over, 2)}},
			{"", [][]byte{mixed(most/2, 3), mixed(most/2-12+over, 4)}},
			{"tag", [][]byte{mixed(most-15+over, 5), nil}},
			{"tag", [][]byte{nil, mixed(most-15+over, 6)}},
			{strings.Repeat("t", over), make([][]byte, most/4-1)},
			{"", slices.Concat(make([][]byte, most/4-2), [][]byte{make([]byte, over)})},
			{"", append(slices.Repeat([][]byte{mixed(12, 7)}, most/16-1), mixed(8+over, 8))},
		} {
			if n := len(joined(c.tag, c.parts...)); n != most+over {
				t.Errorf("the test itself joins %d bytes", n)
			}
			if over == 1 {
				noScalar(t, c.tag, c.parts...)
			} else {
				isScalar(t, wantScalar(c.tag, c.parts...), c.tag, c.parts...)
			}
		}
	}
}

// P5.1: parts that are far too many or too long are refused.
func TestScalarFarTooLong(t *testing.T) {
	noScalar(t, "", make([][]byte, api.MaxBytes/4)...)
	noScalar(t, "", make([][]byte, 1<<20)...)
	noScalar(t, "", make([]byte, 1<<15), make([]byte, 1<<15))
	big := make([]byte, 1<<24)
	noScalar(t, "", big)
	noScalar(t, "", slices.Repeat([][]byte{big}, 1<<16)...)
	noScalar(t, string(big))
	noScalar(t, string(big), nil, nil)
	noScalar(t, string(big), big)
	noScalar(t, "", big, nil)
	noScalar(t, "", nil, big, nil)
}

// P5.2: points that were worked out by another program.
func TestKnownPoints(t *testing.T) {
	for _, c := range []struct {
		tag, seed, x, y string
		tries           int
	}{
		{"", "", "15ec7bf0b50732b49f8228e07d24365338f9e3ab994b00af08e5a3bffe55fd8b", "f18284d7c087cbac7a06904f2acc36697df2d5a706dab820396ee3793087f008", 1},
		{"seed", "", "cebe2991765ae790a3ec8d63e6d24c0a0867020ccc68fdd0fbaca1533defc25d", "96c5287a67009f8e74fea9c6db4f55027b0490fc8938d52a7caa37599c8855ba", 3},
		{"", "seed", "63c005bb50dd75941088a4575cad6ced0e8b4e0365766ba1249848032cfa20a4", "0043da92eb149064174d4590f8a406e21ccf5a851c19c6a0d8cf9826c3a0ef82", 1},
		{"witan", "\x00", "14715eaceb79f6377fe7805757e87af6dc71f3b5b12264594a50e2921088e63f", "957bc3c3e186a52c125bb8797a3e2e0ce87be3b999ae3ed2e5a17383a5b7eb9e", 1},
		{"witan", "\x01", "cac2012c1cbbbfde9df75dc4a3abc9cf159ba6a00c20aa15c558c8cb3101c1cd", "a134e7453913ce963b33388911eaf9441a2eafb69225007b501456ff9bf24d98", 1},
		{"H", strings.Repeat("\x00", 1000), "ba8b9ced93ace18b1593a76146bad52c1657947269006efb939bf9025a3800ed", "b77ea3204d08bd65520b252bedcbc1ed4c8feb433faece165a7431289ca15742", 2},
	} {
		isPoint(t, api.Point{X: numOf(number(c.x)), Y: numOf(number(c.y))}, c.tries, c.tag, []byte(c.seed))
	}
}

// P5.2: how many are tried, of seeds that take many; they were looked for by another program.
func TestManyTries(t *testing.T) {
	for seed, tries := range map[string]int{"\x00\x00": 5, "\x00\x02": 6, "\x00\x08": 7, "\x00\xac": 8, "\x00\xe6": 10, "\x04\x00": 11, "\x10\x77": 13} {
		p, n := wantPoint("many", []byte(seed))
		if n != tries {
			t.Errorf("the test itself tries %d of %x", n, seed)
		}
		isPoint(t, p, tries, "many", []byte(seed))
	}
}

// P5.2: Point of all tags and of seeds at all lengths, as the chapter writes it.
func TestPoint(t *testing.T) {
	for i, tag := range tags() {
		for _, n := range lengths() {
			seed := mixed(n, uint64(i))
			p, tries := wantPoint(tag, seed)
			isPoint(t, p, tries, tag, seed)
		}
	}
}

// P5.2: the point lies on the curve, its Y is even, X is the number tried last, and each ahead of that has no point.
func TestPointIsFirst(t *testing.T) {
	tried := map[int]int{}
	for i := range 200 {
		seed := mixed(i%40, uint64(i))
		p, tries, e := draw.Point("first", seed)
		if e != api.OK || p.Inf || curve.Check(p) != api.OK || p.Y[0]%2 != 0 || tries < 1 || tries > api.MaxTries {
			t.Fatalf("%x: %v, %d, %d", seed, p, tries, e)
		}
		tried[tries]++
		for c := range tries {
			x := hashed(joined("first", seed), 0, 0, 0, byte(c))
			_, e := curve.Read(append([]byte{2}, x.FillBytes(make([]byte, 32))...))
			if (e == api.OK) != (c == tries-1) || e == api.OK && numOf(x) != p.X {
				t.Errorf("%x: count %d of %d: %d", seed, c, tries, e)
			}
		}
	}
	// Half of all numbers have a point.
	if tried[1] < 60 || tried[1] > 140 || tried[2] < 20 || tried[3] < 5 {
		t.Error(tried)
	}
}

// P5.2: joined parts of just MaxBytes bytes are taken, those of one more are not, and nothing stands beside the error.
func TestPointLength(t *testing.T) {
	const most = api.MaxBytes
	for _, n := range []int{0, 1, 3, 1000, most / 2, most - 9, most - 8} {
		tag, seed := strings.Repeat("t", n), mixed(most-8-n, uint64(n))
		p, tries := wantPoint(tag, seed)
		isPoint(t, p, tries, tag, seed)
		noPoint(t, tag+"t", seed)
		noPoint(t, tag, append(seed, 0))
	}
	big := make([]byte, 1<<24)
	noPoint(t, "", big)
	noPoint(t, string(big), nil)
	noPoint(t, string(big), big)
}

// P5.3: bytes that were worked out by another program.
func TestKnownStreams(t *testing.T) {
	for _, c := range []struct{ key, want string }{
		{"", "f375180aba92888401f1919be4a8715a62763b65c1c10e1d0858e81d4d6f9fd2a4a11ce5fbe8f96b"},
		{"\x00", "f375180aba92888401f1919be4a8715a62763b65c1c10e1d0858e81d4d6f9fd2"},
		{"key", "156c691c91078c7b54a2cc7edb4ca93495d8084ddaa8532c8ed18693517bacaf786712674f398ad3e27ce407be55518f3613963b291a49d4eb7398e91096b20c64b45e014fa9"},
		{strings.Repeat("k", 64), "0cec7632afcedce06ae324beffde9da2ab5658f50c5b95b5ccfac7e1efacbea216"},
		{strings.Repeat("k", 65), "f2530a5a01663760b3e6a36d5446dc9a11eb2d0b14240471cdebf15d6327653f5d"},
	} {
		want, err := hex.DecodeString(c.want)
		if err != nil {
			t.Fatal(err)
		}
		isStream(t, want, []byte(c.key), len(want))
	}
	for key, want := range map[string]string{"": "a06ac2c1cc9658c38dc3a060b3e1839ec1d63f0c077b8ecd9b66e6901f93592f", "key": "fef510eda1c91af0e9d74509c3c5d869d6a1b3d2ef0b7e398df5358159455a41"} {
		b, e := draw.Stream([]byte(key), api.MaxBytes)
		if sum := sha256.Sum256(b); hex.EncodeToString(sum[:]) != want || e != api.OK {
			t.Errorf("MaxBytes bytes of %q sum up to %x, %d, not %s", key, sum, e, want)
		}
	}
}

// P5.3: Stream by keys at all lengths, at all edges of n.
func TestStream(t *testing.T) {
	for _, k := range lengths() {
		key := mixed(k, 1)
		for _, n := range []int{0, 1, 31, 32, 33, 63, 64, 65, 200, 256 * 32, 256*32 + 1, api.MaxBytes - 1, api.MaxBytes} {
			isStream(t, wantStream(key, n), key, n)
		}
	}
	isStream(t, wantStream(nil, 65), nil, 65)
	isStream(t, wantStream(nil, 65), []byte{}, 65)
}

// P5.3: n below 0 and above MaxBytes.
func TestStreamLength(t *testing.T) {
	for _, n := range []int{-1, -2, -32, -api.MaxBytes, math.MinInt, math.MinInt32, api.MaxBytes + 1, api.MaxBytes + 32, 2 * api.MaxBytes, 1 << 50, math.MaxInt} {
		for _, key := range [][]byte{nil, []byte("key"), mixed(100, 1)} {
			noStream(t, key, n)
		}
	}
}

// P5.3: a long key is not summed anew for each piece, which would take minutes.
func TestStreamLongKey(t *testing.T) {
	key := mixed(1<<24, 2)
	short := sha256.Sum256(key)
	isStream(t, wantStream(short[:], api.MaxBytes), key, api.MaxBytes)
}

// P5.4: fewer bytes are a beginning of more, at each number of bytes.
func TestBeginnings(t *testing.T) {
	for _, key := range [][]byte{nil, []byte("key"), mixed(64, 1), mixed(65, 1)} {
		all, e := draw.Stream(key, api.MaxBytes)
		if e != api.OK || len(all) != api.MaxBytes {
			t.Fatal(len(all), e)
		}
		for n := range 300 {
			isStream(t, all[:n], key, n)
		}
		for _, n := range []int{1000, 8191, 8192, 8193, api.MaxBytes - 33, api.MaxBytes - 32, api.MaxBytes - 31, api.MaxBytes - 1} {
			isStream(t, all[:n], key, n)
		}
	}
}

// room is a memory with b in the middle of it.
func room(b []byte, fill byte) []byte {
	around := bytes.Repeat([]byte{fill}, 100)
	return slices.Concat(around, b, around)
}

// P5.1 to P5.3: what lies ahead of and behind a slice is neither read nor written, and its own bytes stay as they were.
func TestNothingElseMatters(t *testing.T) {
	for _, n := range append(lengths(), api.MaxBytes-8) {
		plain := mixed(n, 9)
		scalar := wantScalar("", plain)
		p, tries := wantPoint("", plain)
		stream := wantStream(plain, 100)
		for _, fill := range []byte{0, 1, 255} {
			all := room(plain, fill)
			before := slices.Clone(all)
			for _, b := range [][]byte{all[100 : 100+n], all[100 : 100+n : 100+n]} {
				isScalar(t, scalar, "", b)
				isPoint(t, p, tries, "", b)
				isStream(t, stream, b, 100)
				if !bytes.Equal(all, before) {
					t.Fatalf("%d bytes between bytes %d: memory is written to", n, fill)
				}
			}
		}
	}
}

// P5.1: the list of parts stays as it was, what lies behind its end too, and parts may lie one over the other.
func TestListStays(t *testing.T) {
	memory := mixed(100, 10)
	list := [][]byte{memory[:10], memory[5:20], nil, {}, memory[10:10], memory, memory[50:]}
	before := slices.Clone(list)
	for n := range len(list) + 1 {
		isScalar(t, wantScalar("t", before[:n]...), "t", list[:n]...)
		for i, part := range list {
			if len(part) != len(before[i]) || cap(part) != cap(before[i]) || (part == nil) != (before[i] == nil) || len(part) > 0 && &part[0] != &before[i][0] {
				t.Errorf("part %d of %d is another one", i, n)
			}
		}
	}
	if !bytes.Equal(memory, mixed(100, 10)) {
		t.Error("memory is written to")
	}
	isScalar(t, wantScalar("t", nil, nil), "t", nil, []byte{})
	isScalar(t, wantScalar("t"), "t", [][]byte{}...)
}

// P5.3: each answer is new memory, its spare room too, also where the key is an earlier answer.
func TestNewMemory(t *testing.T) {
	for _, n := range []int{0, 1, 31, 32, 33, 64, 65, api.MaxBytes} {
		key := mixed(n, 11)
		one, _ := draw.Stream(key, n)
		two, _ := draw.Stream(key, n)
		want := wantStream(key, n)
		for i := range one[:cap(one)] {
			one[:cap(one)][i] ^= 0xff
		}
		if !bytes.Equal(two, want) || !bytes.Equal(key, mixed(n, 11)) {
			t.Errorf("%d bytes: another answer, or the key, has changed", n)
		}
		isStream(t, want, key, n)
		for _, left := range two[n:cap(two)] {
			if left != 0 {
				t.Errorf("%d bytes: more than these are handed out", n)
			}
		}
		isStream(t, wantStream(two, n), two, n)
		if !bytes.Equal(two, want) {
			t.Errorf("%d bytes: an answer that was handed in has changed", n)
		}
	}
}

// P5.1 to P5.3: what is handed in is not kept, and whatever is drawn between them, two calls with the same arguments answer the same.
func TestNothingIsKept(t *testing.T) {
	b := mixed(70, 12)
	scalar := wantScalar("t", b, b)
	p, tries := wantPoint("t", b)
	stream := wantStream(b, 70)
	for i := range 40 {
		isScalar(t, scalar, "t", b, b)
		isPoint(t, p, tries, "t", b)
		isStream(t, stream, b, 70)
		other := mixed(i, uint64(i))
		draw.Scalar("t", other)
		draw.Point("t", other)
		draw.Stream(other, i)
		b[i] ^= 0xff
		isScalar(t, wantScalar("t", b, b), "t", b, b)
		isStream(t, wantStream(b, 70), b, 70)
		b[i] ^= 0xff
		noScalar(t, "t", make([]byte, api.MaxBytes))
		noPoint(t, "t", make([]byte, api.MaxBytes))
		noStream(t, b, api.MaxBytes+1)
	}
}

// P5.1 to P5.3: calls side by side answer as calls one behind the other.
func TestSideBySide(t *testing.T) {
	var wait sync.WaitGroup
	for i := range 8 {
		wait.Go(func() {
			for n := range 20 {
				b := mixed(n, uint64(i))
				p, tries := wantPoint("t", b)
				isScalar(t, wantScalar("t", b), "t", b)
				isPoint(t, p, tries, "t", b)
				isStream(t, wantStream(b, n), b, n)
			}
		})
	}
	wait.Wait()
}

func BenchmarkScalar(b *testing.B) {
	part := mixed(64, 1)
	b.ReportAllocs()
	for b.Loop() {
		draw.Scalar("t", part)
	}
}

func BenchmarkPoint(b *testing.B) {
	seed := mixed(64, 1)
	b.ReportAllocs()
	for b.Loop() {
		draw.Point("t", seed)
	}
}

func BenchmarkStream(b *testing.B) {
	key := mixed(32, 1)
	b.SetBytes(api.MaxBytes)
	for b.Loop() {
		draw.Stream(key, api.MaxBytes)
	}
}
