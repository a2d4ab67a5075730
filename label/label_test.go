package label_test

import (
	"math"
	"strings"
	"sync"
	"testing"

	"witan/api"
	"witan/label"
)

// The bounds of what UTF-8 writes in so many bytes, as the numbers of bits below them tell.
var ends = [5]int{0, 1 << 7, 1 << 11, 1 << 16, 1 << 21}

// mixed are bytes without a pattern that a test could lean on; they are the same in every run.
func mixed(count int, seed uint64) []byte {
	b, x := make([]byte, count), seed
	for i := range b {
		x = x*0x5851f42d4c957f2d + 0x14057b7ef767814f
		b[i] = byte((x ^ x>>29) >> 40)
	}
	return b
}

// written is the number n in size bytes, as UTF-8 lays numbers, also where fewer bytes would do, or where it is no rune.
func written(n, size int) string {
	if size == 1 {
		return string([]byte{byte(n)})
	}
	b := make([]byte, size)
	for i := size - 1; i > 0; i-- {
		b[i] = byte(0x80 | n&0x3f)
		n >>= 6
	}
	b[0] = byte(0xf00>>size | n)
	return string(b)
}

// shortest tells how few bytes n can be written in.
func shortest(n int) int {
	size := 1
	for n >= ends[size] {
		size++
	}
	return size
}

// isRune tells whether n is one that UTF-8 writes.
func isRune(n int) bool { return n < 0xd800 || 0xdfff < n && n <= 0x10ffff }

// isAllowed tells whether a label may have the rune n, apart from its first and last.
func isAllowed(n int) bool {
	return isRune(n) && n != 0xfffd && n >= 0x20 && (n < 0x7f || n > 0x9f)
}

// begins tells the rune that s begins with, by the chapter's words, and its bytes: -1, and 1, if its first byte belongs to none.
func begins(s string) (n, size int) {
	for size = 1; size <= min(4, len(s)); size++ {
		n = 0
		if size == 1 {
			n = int(s[0])
		} else {
			n = int(s[0]) & (0x7f >> size)
			for i := 1; i < size; i++ {
				n = n<<6 | int(s[i])&0x3f
			}
		}
		if isRune(n) && shortest(n) == size && written(n, size) == s[:size] {
			return n, size
		}
	}
	return -1, 1
}

// runesOf are the numbers of s's runes, -1 for bytes that belong to none, and pieces are their bytes.
func runesOf(s string) (numbers []int, pieces []string) {
	for len(s) > 0 {
		n, size := begins(s)
		numbers, pieces = append(numbers, n), append(pieces, s[:size])
		s = s[size:]
	}
	return numbers, pieces
}

// isLabel tells the same as Check, by the chapter's words.
func isLabel(s string) bool {
	numbers, _ := runesOf(s)
	if len(numbers) < 1 || len(numbers) > api.MaxRunes {
		return false
	}
	for _, n := range numbers {
		if n < 0 || !isAllowed(n) {
			return false
		}
	}
	return numbers[0] != 0x20 && numbers[len(numbers)-1] != 0x20
}

// folded is s with each of A to Z made its small letter, one byte after the other.
func folded(s string) string {
	const great, small = "ABCDEFGHIJKLMNOPQRSTUVWXYZ", "abcdefghijklmnopqrstuvwxyz"
	var b []byte
	for i := 0; i < len(s); i++ {
		if at := strings.IndexByte(great, s[i]); at >= 0 {
			b = append(b, small[at])
		} else {
			b = append(b, s[i])
		}
	}
	return string(b)
}

// cut is the first n runes of s.
func cut(s string, n int) string {
	_, pieces := runesOf(s)
	return joined(pieces, n)
}

// joined are the first n pieces as one text.
func joined(pieces []string, n int) string {
	return strings.Join(pieces[:max(0, min(n, len(pieces)))], "")
}

// labels are texts that may be labels.
func labels() []string {
	return []string{
		"Ada L.", "x", "A", "Z", "~", "!", "a b", "a  b", "AZaz@[`{", "0", "\u00a0", "\u00e4", "\u00c4b", "\u07ff", "\u0800", "\u4e2d\u6587", "\ud7ff", "\ue000", "\ufffc", "\ufffe", "\uffff", "\U00010000", "\U0001f600 X", "\U0010ffff", "\u3000", "\u200b", "\ufeff", "\u0130\u0131\u017f\u212a",
		strings.Repeat("y", 24), strings.Repeat("\u4e2d", 24), strings.Repeat("\U0001f600", 24), "a" + strings.Repeat(" ", 22) + "b", "Q" + strings.Repeat("\u00e4", 23), strings.Repeat("\U0010ffff", 23) + "Q",
	}
}

// strange are texts that may not.
func strange() []string {
	return []string{
		"", " ", "  ", " x", "x ", " x ", "\x00", "a\x00", "\x00a", "a\x00b", "a\tb", "a\n", "\x1f", "\x7f", "a\x7fb", "\u0080", "a\u0085b", "a\u009fb", "\x80", "\xbf", "\xc0", "\xff", "a\xffb", "\xff\xfe", "\xc0\x80", "\xc1\xbf", "\xc2", "\xc2a", "\xc2\xc2", "\xc3\xa4\xa4", "\xe0\x80\x80", "\xe0\x9f\xbf", "\xe4\xb8", "\xe4\xb8a", "a\xe4", "\xed\xa0\x80", "\xed\xbf\xbf", "\xed\xa0\xbd\xed\xb8\x80",
		"\ufffd", "a\ufffdb", "\ufffda", "a\ufffd", "\xf0\x80\x80\x80", "\xf0\x8f\xbf\xbf", "\xf4\x90\x80\x80", "\xf5\x80\x80\x80", "\xf7\xbf\xbf\xbf", "\xf8\x88\x80\x80\x80", "\xfc\x84\x80\x80\x80\x80", "\xf0\x9f\x98", "\xf0\x9f\x98a", "A\x80Z",
		strings.Repeat("y", 25), strings.Repeat("\u4e2d", 25), strings.Repeat("\U0001f600", 25), "Q" + strings.Repeat("y", 23) + " ", " " + strings.Repeat("y", 23), strings.Repeat("y", 23) + "\xff", strings.Repeat("y", 24) + "\xff", strings.Repeat("y", 24) + " ", strings.Repeat("y", 256), strings.Repeat("Y", 257), strings.Repeat("y", 256+24), strings.Repeat("a", 1<<16+1), strings.Repeat("\xff", 24), strings.Repeat(" ", 24), string(mixed(100, 1)), string(mixed(1000, 2)),
	}
}

// texts are all of these.
func texts() []string { return append(labels(), strange()...) }

// mixedTexts are short ones of bytes and runes of all kinds.
func mixedTexts(count int) []string {
	parts := []string{"a", "Z", " ", "\x00", "\x7f", "\u0080", "\u009f", "\u00a0", "\u00e4", "\u4e2d", "\ufffd", "\U0001f600", "\xc3", "\xe4", "\xf0", "\x80", "\xa0", "\xb8", "\xbf", "\xff", "\xed", "\xc0", "B", "c", "\u00c4", "d"}
	l := make([]string, count)
	for i := range l {
		b := mixed(1+i%29, uint64(1000+i))
		kinds := len(parts)
		if i%3 == 0 {
			kinds = 2
		}
		for _, x := range b {
			l[i] += parts[int(x)%kinds]
		}
	}
	return l
}

func isCheck(t *testing.T, want bool, s string) {
	t.Helper()
	e := api.ErrLabel
	if want {
		e = api.OK
	}
	if got := label.Check(s); got != e {
		t.Errorf("Check(%+q) = %d, not %d", s, got, e)
	}
}

func isRunes(t *testing.T, want int, s string) {
	t.Helper()
	if got := label.Runes(s); got != want {
		t.Errorf("Runes(%+q) = %d, not %d", s, got, want)
	}
}

func isFold(t *testing.T, want, s string) {
	t.Helper()
	if got := label.Fold(s); got != want {
		t.Errorf("Fold(%+q) = %+q, not %+q", s, got, want)
	}
}

func isSame(t *testing.T, want bool, a, b string) {
	t.Helper()
	if got := label.Same(a, b); got != want {
		t.Errorf("Same(%+q, %+q) = %t", a, b, got)
	}
	if got := label.Same(b, a); got != want {
		t.Errorf("Same(%+q, %+q) = %t", b, a, got)
	}
}

func isCut(t *testing.T, want, s string, n int) {
	t.Helper()
	if got := label.Cut(s, n); got != want {
		t.Errorf("Cut(%+q, %d) = %+q, not %+q", s, n, got, want)
	}
}

// isAll asks all calls of one text, against the chapter's words.
func isAll(t *testing.T, s string) {
	t.Helper()
	isCheck(t, isLabel(s), s)
	_, pieces := runesOf(s)
	isRunes(t, len(pieces), s)
	isFold(t, folded(s), s)
	isSame(t, true, s, folded(s))
	for n := -1; n <= min(len(pieces), 30)+1; n++ {
		isCut(t, joined(pieces, n), s, n)
	}
}

// P11.1: the chapter's example.
func TestExample(t *testing.T) {
	isCheck(t, true, "Ada L.")
	isCheck(t, false, " x")
	isSame(t, true, "Ada", "aDA")
}

// P11.1: texts whose answers are written out here.
func TestKnown(t *testing.T) {
	for _, s := range labels() {
		isCheck(t, true, s)
	}
	for _, s := range strange() {
		isCheck(t, false, s)
	}
	for _, c := range []struct {
		s     string
		runes int
		first string
		fold  string
	}{
		{"", 0, "", ""}, {"A", 1, "A", "a"}, {"ABC", 3, "AB", "abc"}, {"\u00c4B", 2, "\u00c4B", "\u00c4b"}, {"\xc3B\x84", 3, "\xc3B", "\xc3b\x84"}, {"\xe4\xb8\xad", 1, "\xe4\xb8\xad", "\xe4\xb8\xad"}, {"\xe4\xb8X", 3, "\xe4\xb8", "\xe4\xb8x"}, {"\xff\xfe", 2, "\xff\xfe", "\xff\xfe"}, {"\ufffd\x80Z", 3, "\ufffd\x80", "\ufffd\x80z"}, {"\xed\xa0\x80", 3, "\xed\xa0", "\xed\xa0\x80"}, {"\xf0\x9f\x98\x80\xf0\x9f\x98", 4, "\xf0\x9f\x98\x80\xf0", "\xf0\x9f\x98\x80\xf0\x9f\x98"}, {"\xf4\x90\x80\x80", 4, "\xf4\x90", "\xf4\x90\x80\x80"}, {"\xc0\x80", 2, "\xc0\x80", "\xc0\x80"}, {" \x00\x7f", 3, " \x00", " \x00\x7f"},
	} {
		isRunes(t, c.runes, c.s)
		isCut(t, c.first, c.s, 2)
		isFold(t, c.fold, c.s)
	}
}

// P11.1: each number that four bytes of UTF-8 can hold, written in as few bytes as it can be, or in more, alone, first, last and between: only runes that are allowed and rightly written are, and a space is between others alone.
func TestEachRune(t *testing.T) {
	for n := range ends[4] {
		for size := shortest(n); size <= 4; size++ {
			s := written(n, size)
			between := isAllowed(n) && size == shortest(n)
			edge := between && n != 0x20
			if label.Check(s) == api.OK != edge || label.Check(s+"a") == api.OK != edge || label.Check("a"+s) == api.OK != edge || label.Check("a"+s+"b") == api.OK != between {
				t.Fatalf("U+%04X in %d bytes: %d, %d, %d, %d", n, size, label.Check(s), label.Check(s+"a"), label.Check("a"+s), label.Check("a"+s+"b"))
			}
			runes := size
			if size == shortest(n) && isRune(n) {
				runes = 1
			}
			if got := label.Runes(s); got != runes {
				t.Fatalf("Runes of U+%04X in %d bytes: %d, not %d", n, size, got, runes)
			}
			if got := label.Cut("a"+s+"b", 1+runes); got != "a"+s {
				t.Fatalf("Cut to U+%04X in %d bytes: %+q", n, size, got)
			}
		}
	}
}

// P11.1: all texts of one and of two bytes, and those of three and four bytes whose first is one that as many follow, of all edges of the following.
func TestEachShortText(t *testing.T) {
	edges := []byte{0, 0x1f, 0x20, 'A', 0x7f, 0x80, 0x8f, 0x90, 0x9f, 0xa0, 0xbd, 0xbf, 0xc0, 0xc2, 0xe4, 0xf0, 0xff}
	for a := range 256 {
		isAll(t, string([]byte{byte(a)}))
		for b := range 256 {
			isAll(t, string([]byte{byte(a), byte(b)}))
		}
	}
	for a := 0xe0; a < 256; a++ {
		for _, b := range edges {
			for _, c := range edges {
				isAll(t, string([]byte{byte(a), b, c}))
				isAll(t, string([]byte{'x', byte(a), b, c}))
				for _, d := range edges {
					isAll(t, string([]byte{byte(a), b, c, d}))
				}
			}
		}
	}
}

// P11.1: what is counted are runes, not bytes: up to MaxRunes may be, of each size, and of sizes mixed.
func TestCounts(t *testing.T) {
	for _, r := range []string{"y", "\u00e4", "\u4e2d", "\U0001f600"} {
		for n := range 2 * api.MaxRunes {
			s := strings.Repeat(r, n)
			isCheck(t, 1 <= n && n <= api.MaxRunes, s)
			isCheck(t, n+2 <= api.MaxRunes, "\u00e4"+s+"z")
			isCheck(t, n+2 <= api.MaxRunes, "a"+s+"\U0001f600")
			isRunes(t, n, s)
			isCut(t, strings.Repeat(r, min(n, api.MaxRunes)), s, api.MaxRunes)
		}
	}
	for n := range 2 * api.MaxRunes {
		isCheck(t, n+2 <= api.MaxRunes, "a"+strings.Repeat(" ", n)+"b")
		isCheck(t, false, strings.Repeat("y", n)+" ")
		isCheck(t, false, " "+strings.Repeat("y", n))
		isCheck(t, false, strings.Repeat("y", n)+"\xff")
		isCheck(t, false, strings.Repeat("y", n)+"\u0085y")
	}
}

// P11.1, R1: great texts are asked as short ones are.
func TestGreatTexts(t *testing.T) {
	const size = 1 << 18
	for _, r := range []string{"Y", " ", "\xff", "\u4e2d", "\U0001f600", "\ufffd", "\x00"} {
		s := strings.Repeat(r, size)
		isCheck(t, false, s)
		isRunes(t, size, s)
		isFold(t, strings.Repeat(folded(r), size), s)
		isCut(t, s[:len(r)*(size-1)], s, size-1)
		isCut(t, s, s, size)
		isCut(t, r, s, 1)
		isSame(t, true, s, folded(s))
		isSame(t, false, s, s+"a")
	}
	s := string(mixed(size, 3))
	numbers, _ := runesOf(s)
	isRunes(t, len(numbers), s)
	isFold(t, folded(s), s)
	isCut(t, cut(s, len(numbers)/2), s, len(numbers)/2)
}

// P11.1: all calls tell what the chapter's words tell, of all kinds of texts.
func TestAllCalls(t *testing.T) {
	for _, s := range append(texts(), mixedTexts(3000)...) {
		isAll(t, s)
		isAll(t, s+s)
	}
}

// P11.1: A to Z alone are folded, each to its small letter, wherever they stand, also between bytes that belong to no rune.
func TestFoldEachByte(t *testing.T) {
	for x := range 256 {
		want := byte(x)
		if 'A' <= x && x <= 'Z' {
			want += 32
		}
		for _, around := range [][2]string{{"", ""}, {"a", "b"}, {"\xc3", "\x84"}, {"\xff", "\xff"}, {"\u4e2d", "\u00c4"}, {"\x00", " "}} {
			isFold(t, around[0]+string([]byte{want})+around[1], around[0]+string([]byte{byte(x)})+around[1])
		}
	}
	for _, s := range []string{"\u00c4", "\u0130", "\u0391", "\u0410", "\u212a", "\uff21", "\U00010400", "\u01c5", "\u1e9e", "\u00df"} {
		isFold(t, s, s)
		isFold(t, "q"+s+"q", "Q"+s+"Q")
	}
}

// P11.1: two texts are the same if they are folded the same, byte by byte, and only then.
func TestSame(t *testing.T) {
	l := append(texts(), mixedTexts(60)...)
	for _, a := range l {
		for _, b := range l {
			isSame(t, folded(a) == folded(b), a, b)
		}
		isSame(t, true, a, a)
		isSame(t, true, strings.ToUpper(folded(a)), strings.ToUpper(folded(a)))
		isSame(t, false, a, a+"\x00")
		isSame(t, false, a, a+" ")
		isSame(t, false, a, "a"+a+"b")
	}
	for _, c := range []struct {
		a, b string
		is   bool
	}{
		{"", "", true}, {"", "a", false}, {"ADA", "ada", true}, {"Ada", "Adb", false}, {"a", "a ", false}, {"ab", "ba", false}, {"@", "`", false}, {"[", "{", false}, {"A", "!", false}, {"\u00c4", "\u00e4", false}, {"\u00c4A", "\u00c4a", true}, {"\u212a", "k", false}, {"\u017f", "s", false}, {"\u0131", "I", false}, {"a\u0308", "\u00e4", false}, {"\xff", "\xfe", false}, {"\xff", "\ufffd", false}, {"\xc1", "\xe1", false}, {"\xffA", "\xffa", true}, {"1", "\x11", false},
	} {
		isSame(t, c.is, c.a, c.b)
	}
}

// P11.1: each pair of single bytes is the same only if both are one byte, or one letter.
func TestSameEachByte(t *testing.T) {
	for a := range 256 {
		for b := range 256 {
			x, y := string([]byte{byte(a)}), string([]byte{byte(b)})
			isSame(t, folded(x) == folded(y), x, y)
		}
	}
}

// P11.1: Cut tells all at counts of as many and more, and nothing below 1, also at the edges of what a number can be.
func TestCutEdges(t *testing.T) {
	for _, s := range texts() {
		numbers, _ := runesOf(s)
		for _, n := range []int{0, -1, -2, -24, -256, -1 << 32, -1<<32 + 1, math.MinInt32, math.MinInt, math.MinInt + 1} {
			isCut(t, "", s, n)
		}
		for _, n := range []int{len(numbers), len(numbers) + 1, len(s), len(s) + 1, len(s) + 256, len(s) + 1<<32, math.MaxInt32 + len(s), 1 << 62, math.MaxInt - 1, math.MaxInt} {
			isCut(t, s, s, n)
		}
	}
}

// P11.1: what is cut off and cut is together the text, and the beginnings grow by one rune each.
func TestCutAndRunes(t *testing.T) {
	for _, s := range append(texts(), mixedTexts(300)...) {
		count := label.Runes(s)
		for n := range min(count, 40) + 1 {
			first := label.Cut(s, n)
			if !strings.HasPrefix(s, first) || label.Runes(first) != n || label.Runes(s[len(first):]) != count-n {
				t.Errorf("Cut(%+q, %d) = %+q", s, n, first)
			}
			isCut(t, first, first, n)
			if n > 0 {
				isCut(t, label.Cut(s, n-1), first, n-1)
			}
		}
	}
}

// P11.2: what is folded stays so, and has as many runes and bytes, of any text.
func TestFoldedStays(t *testing.T) {
	for _, s := range append(texts(), mixedTexts(1000)...) {
		once := label.Fold(s)
		isFold(t, once, once)
		isRunes(t, label.Runes(s), once)
		if len(once) != len(s) {
			t.Errorf("Fold(%+q) has %d bytes", s, len(once))
		}
	}
}

// P11.2: a label's fold is a label, of as many runes, and what is none does not become one.
func TestFoldIsLabel(t *testing.T) {
	for _, s := range append(texts(), mixedTexts(3000)...) {
		once := label.Fold(s)
		isCheck(t, label.Check(s) == api.OK, once)
		isRunes(t, label.Runes(s), once)
	}
}

// P11.1, R3: whatever is asked between them, two calls with the same arguments answer the same.
func TestNothingIsKept(t *testing.T) {
	for range 3 {
		isCheck(t, true, "Ada L.")
		isCheck(t, false, strings.Repeat("y", 25))
		isRunes(t, 3, "\xe4\xb8x")
		isCheck(t, false, "")
		isFold(t, "ada l.", "Ada L.")
		isCut(t, "Ada", "Ada L.", 3)
		isCut(t, "Ada L.", "Ada L.", 30)
		isSame(t, true, "Ada", "aDA")
		isSame(t, false, "Ada", "Ad")
	}
}

// P11.1, R3: calls side by side answer as calls one behind the other.
func TestSideBySide(t *testing.T) {
	l := append(texts(), mixedTexts(100)...)
	var wait sync.WaitGroup
	for i := range 8 {
		wait.Go(func() {
			for k := range l {
				if s := l[(k+10*i)%len(l)]; len(s) < 100 {
					isAll(t, s)
				}
			}
		})
	}
	wait.Wait()
}

// P11.1, P11.2, R1: whatever bytes a text has, nothing panics, and all calls tell what the chapter's words tell.
func FuzzAll(f *testing.F) {
	for i, s := range texts() {
		f.Add(s, "Ada", i-20)
	}
	f.Fuzz(func(t *testing.T, a, b string, n int) {
		isAll(t, a)
		isAll(t, a+b)
		isSame(t, folded(a) == folded(b), a, b)
		isCut(t, cut(a, n), a, n)
		isFold(t, folded(a), label.Fold(a))
		isCheck(t, isLabel(a), label.Fold(a))
	})
}

func BenchmarkCheck(b *testing.B) {
	b.ReportAllocs()
	for b.Loop() {
		label.Check("\U0001f600 Ada Lovelace, L.")
	}
}

func BenchmarkSame(b *testing.B) {
	b.ReportAllocs()
	for b.Loop() {
		label.Same("Ada Lovelace", "aDA lOVELACE")
	}
}

func BenchmarkCut(b *testing.B) {
	b.ReportAllocs()
	for b.Loop() {
		label.Cut("\U0001f600 Ada Lovelace, L.", 12)
	}
}
