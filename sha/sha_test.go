package sha_test

import (
	"bytes"
	"crypto/hmac"
	"crypto/sha256"
	"encoding/hex"
	"slices"
	"strings"
	"sync"
	"testing"

	"witan/sha"
)

// lengths are those where a block, or the room for the length in it, turns, and texts of many blocks.
func lengths() []int {
	return []int{0, 1, 2, 54, 55, 56, 57, 63, 64, 65, 118, 119, 120, 121, 127, 128, 129, 183, 184, 191, 192, 193, 255, 256, 1000, 4096, 1<<16 - 1, 1 << 16, 1<<16 + 1}
}

// keyLengths are those around one block, and around the length of a Sum.
func keyLengths() []int {
	return []int{0, 1, 31, 32, 33, 62, 63, 64, 65, 66, 127, 128, 129, 200, 1000, 5000}
}

// mixed are bytes without a pattern that a test could lean on; they are the same in every run.
func mixed(count int, seed uint64) []byte {
	l, x := make([]byte, count), seed
	for i := range l {
		x = x*0x5851f42d4c957f2d + 0x14057b7ef767814f
		l[i] = byte(x >> 56)
	}
	return l
}

// texts are of each kind: noughts, bytes of ones, 128 (which also stands behind a text), mixed.
func texts(n int) [][]byte {
	return [][]byte{make([]byte, n), bytes.Repeat([]byte{255}, n), bytes.Repeat([]byte{128}, n), mixed(n, uint64(n)+1)}
}

func wantMac(key, b []byte) (sum [32]byte) {
	h := hmac.New(sha256.New, key)
	h.Write(b)
	h.Sum(sum[:0])
	return sum
}

func unhex(t *testing.T, s string) []byte {
	t.Helper()
	b, err := hex.DecodeString(s)
	if err != nil {
		t.Fatal(err)
	}
	return b
}

// P4.1: the chapter's example.
func TestExample(t *testing.T) {
	sum := sha.Sum([]byte("abc"))
	if !bytes.HasPrefix(sum[:], []byte{0xba, 0x78, 0x16, 0xbf}) {
		t.Errorf("%x", sum)
	}
}

// P4.1: sums that are published with FIPS 180-4.
func TestPublishedSums(t *testing.T) {
	for _, c := range []struct{ text, want string }{
		{"", "e3b0c44298fc1c149afbf4c8996fb92427ae41e4649b934ca495991b7852b855"},
		{"abc", "ba7816bf8f01cfea414140de5dae2223b00361a396177a9cb410ff61f20015ad"},
		{"abcdbcdecdefdefgefghfghighijhijkijkljklmklmnlmnomnopnopq", "248d6a61d20638b8e5c026930c3e6039a33ce45964ff2167f6ecedd419db06c1"},
		{"abcdefghbcdefghicdefghijdefghijkefghijklfghijklmghijklmnhijklmnoijklmnopjklmnopqklmnopqrlmnopqrsmnopqrstnopqrstu", "cf5b16a778af8380036ce59e7b0492370b249b11e8f07a51afac45037afee9d1"},
		{"\xbd", "68325720aabd7c82f30f554b313d0570c95accbb7dc4b5aae11204c08ffe732b"},
		{strings.Repeat("a", 1000000), "cdc76e5c9914fb9281a1c7e284d73e67f1809a48a497200e046d39ccc7112cd0"},
	} {
		if sum := sha.Sum([]byte(c.text)); hex.EncodeToString(sum[:]) != c.want {
			t.Errorf("Sum of %d bytes is %x, not %s", len(c.text), sum, c.want)
		}
	}
}

// P4.1: the sums by a key of RFC 4231 (of the fifth, its first 16 bytes are published).
func TestPublishedMacs(t *testing.T) {
	for _, c := range []struct{ key, text, want string }{
		{strings.Repeat("\x0b", 20), "Hi There", "b0344c61d8db38535ca8afceaf0bf12b881dc200c9833da726e9376c2e32cff7"},
		{"Jefe", "what do ya want for nothing?", "5bdcc146bf60754e6a042426089575c75a003f089d2739839dec58b964ec3843"},
		{strings.Repeat("\xaa", 20), strings.Repeat("\xdd", 50), "773ea91e36800e46854db8ebd09181a72959098b3ef8c122d9635514ced565fe"},
		{string(unhex(t, "0102030405060708090a0b0c0d0e0f10111213141516171819")), strings.Repeat("\xcd", 50), "82558a389a443c0ea4cc819899f2083a85f0faa3e578f8077a2e3ff46729665b"},
		{strings.Repeat("\x0c", 20), "Test With Truncation", "a3b6167473100ee06e0c796c2955552b"},
		{strings.Repeat("\xaa", 131), "Test Using Larger Than Block-Size Key - Hash Key First", "60e431591ee0b67f0d8a26aacbf5b77f8e0bc6213728c5140546040f0ee37f54"},
		{strings.Repeat("\xaa", 131), "This is a test using a larger than block-size key and a larger than block-size data. The key needs to be hashed before being used by the HMAC algorithm.", "9b09ffa71b942fcb27635fbcd5b0e944bfdc63644f0713938a7f51535c3a35e2"},
	} {
		if mac := sha.Mac([]byte(c.key), []byte(c.text)); !strings.HasPrefix(hex.EncodeToString(mac[:]), c.want) {
			t.Errorf("Mac of %q by %q is %x, not %s", c.text, c.key, mac, c.want)
		}
	}
}

// P4.1: Sum at each length up to some blocks, and at the edges.
func TestSum(t *testing.T) {
	all := lengths()
	for n := range 400 {
		all = append(all, n)
	}
	for _, n := range all {
		for i, b := range texts(n) {
			if got, want := sha.Sum(b), sha256.Sum256(b); got != want {
				t.Errorf("Sum of %d bytes of kind %d is %x, not %x", n, i, got, want)
			}
		}
	}
	if sha.Sum(nil) != sha.Sum([]byte{}) {
		t.Error("nil is not as no bytes")
	}
}

// P4.1: the length in bits takes more than 4 of its 8 bytes, with the masked key ahead of a text too.
func TestLongTexts(t *testing.T) {
	if testing.Short() {
		t.Skip("it takes seconds")
	}
	b := make([]byte, 1<<29)
	t.Run("Sum", func(t *testing.T) {
		t.Parallel()
		if got, want := sha.Sum(b), sha256.Sum256(b); got != want {
			t.Errorf("%x, not %x", got, want)
		}
	})
	t.Run("Mac", func(t *testing.T) {
		t.Parallel()
		text := b[:len(b)-32]
		if got, want := sha.Mac(nil, text), wantMac(nil, text); got != want {
			t.Errorf("%x, not %x", got, want)
		}
	})
}

// P4.1: Mac at all edges of keys, with texts at all edges.
func TestMac(t *testing.T) {
	for _, k := range keyLengths() {
		for i, key := range texts(k) {
			for _, n := range lengths() {
				b := mixed(n, uint64(k))
				if got, want := sha.Mac(key, b), wantMac(key, b); got != want {
					t.Errorf("Mac of %d bytes by %d bytes of kind %d is %x, not %x", n, k, i, got, want)
				}
			}
		}
	}
	if sha.Mac(nil, nil) != sha.Mac([]byte{}, []byte{}) {
		t.Error("nil is not as no bytes")
	}
}

// P4.1: Mac is made of Sum just as the chapter writes it.
func TestMacOfSums(t *testing.T) {
	for _, k := range keyLengths() {
		key, b := mixed(k, 5), mixed(k+7, 6)
		padded := make([]byte, 64)
		if k > 64 {
			short := sha.Sum(key)
			copy(padded, short[:])
		} else {
			copy(padded, key)
		}
		var outer, inner []byte
		for _, c := range padded {
			outer, inner = append(outer, c^0x5c), append(inner, c^0x36)
		}
		sum := sha.Sum(append(inner, b...))
		if sha.Mac(key, b) != sha.Sum(append(outer, sum[:]...)) {
			t.Errorf("a key of %d bytes", k)
		}
	}
}

// P4.1: noughts behind a key change nothing up to 64 bytes, and do behind that.
func TestNoughtsBehindKey(t *testing.T) {
	b := []byte("text")
	for k := range 65 {
		key := mixed(k, 3)
		want := sha.Mac(key, b)
		for n := k; n <= 66; n++ {
			longer := append(slices.Clone(key), make([]byte, n-k)...)
			if same := sha.Mac(longer, b) == want; same != (n <= 64) {
				t.Errorf("a key of %d bytes, made %d: %v", k, n, same)
			}
		}
	}
	// Noughts ahead of a key are of it.
	if sha.Mac([]byte{0, 1}, b) == sha.Mac([]byte{1}, b) {
		t.Error("a nought ahead of the key is passed over")
	}
}

// P4.1: a key of more than 64 bytes is as its Sum, one of 64 is not.
func TestLongKey(t *testing.T) {
	b := []byte("text")
	for _, k := range []int{64, 65, 66, 127, 128, 129, 10000} {
		key := mixed(k, 4)
		short := sha.Sum(key)
		if same := sha.Mac(key, b) == sha.Mac(short[:], b); same != (k > 64) {
			t.Errorf("a key of %d bytes: %v", k, same)
		}
	}
}

// P4.2: each bit, each byte more or less, and the order of bytes tell in the sum.
func TestAllBytesMatter(t *testing.T) {
	for _, n := range []int{1, 55, 56, 64, 65, 119, 130} {
		b := mixed(n, 9)
		seen := map[[32]byte]int{sha.Sum(b): 1, sha.Mac(b, nil): 1, sha.Mac(nil, b): 1}
		count := 3
		for i := range 8 * n {
			b[i/8] ^= 1 << (i % 8)
			seen[sha.Sum(b)]++
			seen[sha.Mac(b, nil)]++
			seen[sha.Mac(nil, b)]++
			b[i/8] ^= 1 << (i % 8)
			count += 3
		}
		if len(seen) != count {
			t.Errorf("%d bytes: %d sums of %d texts", n, len(seen), count)
		}
	}
	sums, noughts := map[[32]byte]int{}, make([]byte, 300)
	for n := range noughts {
		sums[sha.Sum(noughts[:n])]++
		sums[sha.Mac([]byte{1}, noughts[:n])]++
	}
	if len(sums) != 2*len(noughts) {
		t.Error("texts of noughts are not told apart by their length:", len(sums))
	}
	if sha.Sum([]byte("ab")) == sha.Sum([]byte("ba")) || sha.Mac([]byte("ab"), []byte("c")) == sha.Mac([]byte("a"), []byte("bc")) {
		t.Error("the order, or what is key and what text, does not tell")
	}
}

// P4.2: what lies ahead of and behind a slice is neither read nor written, and its own bytes stay as they were.
func TestNothingElseMatters(t *testing.T) {
	for _, n := range append(lengths(), keyLengths()...) {
		plain := mixed(n, 11)
		sum, byKey, ofText := sha.Sum(plain), sha.Mac(plain, []byte("text")), sha.Mac([]byte("key"), plain)
		for _, fill := range []byte{0, 1, 128, 255} {
			room := bytes.Repeat([]byte{fill}, n+300)
			copy(room[100:], plain)
			before := slices.Clone(room)
			for _, b := range [][]byte{room[100 : 100+n], room[100 : 100+n : 100+n]} {
				if sha.Sum(b) != sum || sha.Mac(b, []byte("text")) != byKey || sha.Mac([]byte("key"), b) != ofText {
					t.Errorf("%d bytes between bytes %d: another sum", n, fill)
				}
				if !bytes.Equal(room, before) {
					t.Fatalf("%d bytes between bytes %d: memory is written to", n, fill)
				}
			}
		}
	}
}

// P4.2: a key and a text in one memory, one over the other, are as in two.
func TestSharedMemory(t *testing.T) {
	room := mixed(400, 12)
	for _, k := range []int{0, 1, 63, 64, 65, 200} {
		for _, from := range []int{0, 1, k} {
			key, b := room[:k], room[from:300]
			if got, want := sha.Mac(key, b), sha.Mac(slices.Clone(key), slices.Clone(b)); got != want {
				t.Errorf("a key of %d bytes, a text from %d on: %x, not %x", k, from, got, want)
			}
		}
	}
	if !bytes.Equal(room, mixed(400, 12)) {
		t.Error("memory is written to")
	}
}

// P4.2: whatever is summed between them, two calls with the same bytes answer the same, and no answer is touched by another.
func TestNothingIsKept(t *testing.T) {
	b, key := mixed(150, 13), mixed(80, 14)
	sum, mac := sha.Sum(b), sha.Mac(key, b)
	for _, n := range lengths() {
		for _, other := range texts(n) {
			one, two := sha.Sum(other), sha.Mac(other, other)
			if sha.Sum(b) != sum || sha.Mac(key, b) != mac {
				t.Fatalf("behind the sums of %d bytes: another sum", n)
			}
			for i := range one {
				one[i], two[i] = 0, 255
			}
			if sha.Sum(b) != sum || sha.Mac(key, b) != mac {
				t.Fatalf("behind changed answers of %d bytes: another sum", n)
			}
		}
	}
	if sum != sha256.Sum256(b) || mac != wantMac(key, b) {
		t.Error("an earlier answer has changed")
	}
}

// P4.2: calls side by side answer as calls one behind the other.
func TestSideBySide(t *testing.T) {
	var wait sync.WaitGroup
	for i := range 8 {
		wait.Go(func() {
			for n := range 200 {
				b := mixed(n, uint64(i))
				if sha.Sum(b) != sha256.Sum256(b) || sha.Mac(b, b) != wantMac(b, b) {
					t.Errorf("worker %d, %d bytes", i, n)
				}
			}
		})
	}
	wait.Wait()
}

func BenchmarkSum(b *testing.B) {
	text := mixed(1<<16, 1)
	b.SetBytes(int64(len(text)))
	for b.Loop() {
		sha.Sum(text)
	}
}

func BenchmarkMac(b *testing.B) {
	key, text := mixed(32, 1), mixed(32, 2)
	b.ReportAllocs()
	for b.Loop() {
		sha.Mac(key, text)
	}
}
