package bin_test

import (
	"bytes"
	"math"
	"math/big"
	"slices"
	"sync"
	"testing"

	"witan/api"
	"witan/bin"
)

// maxSize is of how many bytes a number may be.
const maxSize = 7

// lengthSize is of how many bytes the length of a part is.
const lengthSize = 4

// mixed are bytes without a pattern that a test could lean on; they are the same in every run.
func mixed(count int, seed uint64) []byte {
	b, x := make([]byte, count), seed
	for i := range b {
		x = x*0x5851f42d4c957f2d + 0x14057b7ef767814f
		b[i] = byte((x ^ x>>29) >> 40)
	}
	return b
}

// power tells 256 to the power size, of sizes up to 7.
func power(size int) int { return 1 << (8 * size) }

// least tells the lesser one of n and what the greatest number of that size is.
func least(n, size int) int { return min(n, power(size)-1) }

// wantNumber is n in size bytes, the highest first, by math/big.
func wantNumber(n, size int) []byte { return big.NewInt(int64(n)).FillBytes(make([]byte, size)) }

// wantPart is part with its length ahead of it.
func wantPart(part []byte) []byte { return join(wantNumber(len(part), lengthSize), part) }

// numberOf is the number that b is, by math/big.
func numberOf(b []byte) int { return int(new(big.Int).SetBytes(b).Int64()) }

func join(l ...[]byte) []byte { return slices.Concat(l...) }

// beginnings are what numbers and parts are laid behind.
func beginnings() [][]byte {
	return [][]byte{nil, {}, {0}, {9}, {255}, {0, 0, 0, 0}, {0, 0, 0, 3, 'a', 'b', 'c'}, mixed(7, 1), mixed(8, 2), mixed(33, 3), mixed(1000, 4), mixed(api.MaxBytes, 5)}
}

// numbers are those of that size at its edges and at those of its bytes, and mixed ones.
func numbers(size int) []int {
	l := []int{0, 1, 2, 127, 128, 254, 255}
	for k := 1; k < size; k++ {
		l = append(l, power(k)-2, power(k)-1, power(k), power(k)+1, power(k)*128, power(k)*255, least(258*power(k), size))
	}
	for i := range 8 {
		l = append(l, numberOf(mixed(size, uint64(10*size+i))))
	}
	return append(l, power(size)-2, power(size)-1, power(size)/2, power(size)/2-1)
}

// parts are of all edges of lengths.
func parts() [][]byte {
	l := [][]byte{nil, {}, {0}, {255}, {0, 0, 0, 0}, {0, 0, 0, 1}, []byte("abc")}
	for i, n := range []int{2, 8, 127, 128, 255, 256, 257, 1000, 4096, api.MaxPart - 1, api.MaxPart} {
		l = append(l, mixed(n, uint64(50+i)), make([]byte, n))
	}
	return l
}

// strangeSizes are those that may not be, some of which might be if they were cut to fewer bits.
func strangeSizes() []int {
	return []int{0, -1, -2, -4, -7, -8, 8, 9, 15, 16, 32, 64, 255, 256, 257, 1<<16 + 1, 1<<32 + 1, 1<<32 + 4, 1 << 60, 1<<61 + 1, -1<<32 + 1, math.MaxInt32, math.MinInt32, math.MaxInt, math.MinInt, math.MinInt + 1}
}

// strangePlaces are places that are none of a list of that length.
func strangePlaces(length int) []int {
	return []int{-1, -2, -4, -7, -length, -length - 1, length + 1, length + 2, length + 4, length + 256, length + 1<<32, -1 << 32, math.MaxInt32, math.MinInt32, 1 << 62, math.MaxInt - 7, math.MaxInt - 1, math.MaxInt, math.MinInt, math.MinInt + 1}
}

func isPut(t *testing.T, want, b []byte, n, size int) {
	t.Helper()
	if got, e := bin.Put(b, n, size); !bytes.Equal(got, want) || e != api.OK {
		t.Errorf("Put(%d bytes, %d, %d) = %x, %d, not %x", len(b), n, size, got, e, want)
	}
}

func noPut(t *testing.T, b []byte, n, size int) {
	t.Helper()
	if got, e := bin.Put(b, n, size); len(got) != 0 || e != api.ErrArg {
		t.Errorf("Put(%d bytes, %d, %d) = %x, %d", len(b), n, size, got, e)
	}
}

func isGet(t *testing.T, want int, b []byte, at, size int) {
	t.Helper()
	if n, next, e := bin.Get(b, at, size); n != want || next != at+size || e != api.OK {
		t.Errorf("Get(%d bytes, %d, %d) = %d, %d, %d, not %d, %d", len(b), at, size, n, next, e, want, at+size)
	}
}

func noGet(t *testing.T, want api.Errno, b []byte, at, size int) {
	t.Helper()
	if n, next, e := bin.Get(b, at, size); n != 0 || next != 0 || e != want {
		t.Errorf("Get(%d bytes, %d, %d) = %d, %d, %d, not %d", len(b), at, size, n, next, e, want)
	}
}

func isPutPart(t *testing.T, want, b, part []byte) {
	t.Helper()
	if got, e := bin.PutPart(b, part); !bytes.Equal(got, want) || e != api.OK {
		t.Errorf("PutPart(%d bytes, %d bytes) = %d bytes, %d, not %d bytes", len(b), len(part), len(got), e, len(want))
	}
}

func noPutPart(t *testing.T, b, part []byte) {
	t.Helper()
	if got, e := bin.PutPart(b, part); len(got) != 0 || e != api.ErrLen {
		t.Errorf("PutPart(%d bytes, %d bytes) = %d bytes, %d", len(b), len(part), len(got), e)
	}
}

func isGetPart(t *testing.T, want, b []byte, at int) {
	t.Helper()
	next := at + lengthSize + len(want)
	if got, behind, e := bin.GetPart(b, at); !bytes.Equal(got, want) || behind != next || e != api.OK {
		t.Errorf("GetPart(%d bytes, %d) = %d bytes, %d, %d, not %d bytes, %d", len(b), at, len(got), behind, e, len(want), next)
	}
}

func noGetPart(t *testing.T, want api.Errno, b []byte, at int) {
	t.Helper()
	if got, next, e := bin.GetPart(b, at); len(got) != 0 || next != 0 || e != want {
		t.Errorf("GetPart(%d bytes, %d) = %d bytes, %d, %d, not %d", len(b), at, len(got), next, e, want)
	}
}

// P10.1: the chapter's example.
func TestExample(t *testing.T) {
	isPut(t, []byte{1, 2}, nil, 258, 2)
}

// P10.1, P10.2: bytes that are written out here.
func TestKnown(t *testing.T) {
	isPut(t, []byte{9, 0}, []byte{9}, 0, 1)
	isPut(t, []byte{8, 9, 255}, []byte{8, 9}, 255, 1)
	isPut(t, []byte{1, 2, 3}, nil, 0x010203, 3)
	isPut(t, []byte{0, 0, 1, 2}, nil, 258, 4)
	isPut(t, []byte{255, 254, 253, 252, 251, 250, 249}, nil, 0xfffefdfcfbfaf9, 7)
	b := []byte{1, 2, 3, 4, 5, 6, 7, 255}
	isGet(t, 1, b, 0, 1)
	isGet(t, 0x0203, b, 1, 2)
	isGet(t, 0x06_07_ff, b, 5, 3)
	isGet(t, 0x01_02_03_04_05_06_07, b, 0, 7)
	isGet(t, 0x02_03_04_05_06_07_ff, b, 1, 7)
	isGet(t, 255, b, 7, 1)
	isPutPart(t, []byte{9, 0, 0, 0, 3, 'a', 'b', 'c'}, []byte{9}, []byte("abc"))
	isPutPart(t, []byte{0, 0, 0, 0}, nil, nil)
	isGetPart(t, []byte("abc"), []byte{9, 0, 0, 0, 3, 'a', 'b', 'c', 'd'}, 1)
	isGetPart(t, nil, []byte{0, 0, 0, 0}, 0)
}

// P10.1: Put lays n behind b, the highest byte first, at all sizes, of all edges.
func TestPut(t *testing.T) {
	for _, b := range beginnings() {
		for size := 1; size <= maxSize; size++ {
			for _, n := range numbers(size) {
				isPut(t, join(b, wantNumber(n, size)), b, n, size)
			}
		}
	}
}

// P10.1: a size that may not be is refused, of all numbers, also of 0.
func TestPutWrongSizes(t *testing.T) {
	for _, b := range beginnings() {
		for _, size := range strangeSizes() {
			for _, n := range []int{0, 1, 255, 256, 1<<56 - 1, 1 << 56, -1, math.MaxInt, math.MinInt} {
				noPut(t, b, n, size)
			}
		}
	}
}

// P10.1: a number below 0, or of 256 to the power size or more, is refused, also one whose low bytes would fit.
func TestPutWrongNumbers(t *testing.T) {
	for _, b := range beginnings() {
		for size := 1; size <= maxSize; size++ {
			end := power(size)
			for _, n := range []int{end, end + 1, end + end/2, 2*end - 1, 2 * end, 1 << 62, 1<<62 + 1, math.MaxInt - 1, math.MaxInt, -1, -2, -255, -256, -end, -end + 1, -end - 1, math.MinInt, math.MinInt + 1} {
				noPut(t, b, n, size)
			}
			for k := size; k <= maxSize; k++ {
				noPut(t, b, power(k), size)
				noPut(t, b, power(k)+1, size)
			}
		}
	}
}

// P10.1: Get tells the number of all sizes at all places, and the place behind it, and looks at no other byte.
func TestGet(t *testing.T) {
	for _, b := range [][]byte{mixed(40, 7), bytes.Repeat([]byte{255}, 20), make([]byte, 20), {7}, {0, 1, 2}} {
		for size := 1; size <= maxSize; size++ {
			for at := 0; at+size <= len(b); at++ {
				isGet(t, numberOf(b[at:at+size]), b, at, size)
			}
		}
	}
	for size := 1; size <= maxSize; size++ {
		for _, n := range numbers(size) {
			isGet(t, n, join([]byte{1, 255}, wantNumber(n, size), []byte{255, 1}), 2, size)
		}
	}
	long := mixed(api.MaxBytes+100, 8)
	for _, at := range []int{255, 256, api.MaxPart, api.MaxBytes - 1, api.MaxBytes, len(long) - maxSize} {
		isGet(t, numberOf(long[at:at+maxSize]), long, at, maxSize)
	}
}

// P10.1: sizes and places that may not be are refused, ahead of there being too few bytes.
func TestGetWrongArguments(t *testing.T) {
	for _, b := range [][]byte{nil, {}, {7}, mixed(8, 9), mixed(300, 10)} {
		for _, size := range strangeSizes() {
			for at := range min(len(b), 9) + 1 {
				noGet(t, api.ErrArg, b, at, size)
			}
			noGet(t, api.ErrArg, b, len(b), size)
			noGet(t, api.ErrArg, b, len(b)+1, size)
			noGet(t, api.ErrArg, b, -1, size)
		}
		for _, at := range strangePlaces(len(b)) {
			if 0 <= at && at <= len(b) {
				continue
			}
			for size := 1; size <= maxSize; size++ {
				noGet(t, api.ErrArg, b, at, size)
			}
		}
	}
}

// P10.1: Get of too few bytes is refused, whatever their number, also at b's end, and whatever lies behind it.
func TestGetTooFew(t *testing.T) {
	wide := mixed(40, 11)
	for length := range 12 {
		for at := range length + 1 {
			for size := length - at + 1; size <= maxSize; size++ {
				noGet(t, api.ErrBytes, wide[:length], at, size)
				noGet(t, api.ErrBytes, slices.Clone(wide[:length]), at, size)
			}
		}
	}
	for size := 1; size <= maxSize; size++ {
		noGet(t, api.ErrBytes, nil, 0, size)
	}
}

// P10.2: PutPart lays a part's length and it behind b, of all edges of lengths.
func TestPutPart(t *testing.T) {
	for _, b := range beginnings() {
		for _, part := range parts() {
			isPutPart(t, join(b, wantPart(part)), b, part)
		}
	}
}

// P10.2: a part of more than MaxPart bytes is refused.
func TestPutPartTooLong(t *testing.T) {
	for _, b := range beginnings() {
		for _, n := range []int{1, 2, 256, api.MaxPart, api.MaxBytes} {
			noPutPart(t, b, make([]byte, api.MaxPart+n))
			noPutPart(t, b, mixed(api.MaxPart+n, 12))
		}
	}
}

// P10.2: GetPart tells a part at any place, whatever stands ahead of it and behind it.
func TestGetPart(t *testing.T) {
	for _, b := range beginnings() {
		for _, part := range parts() {
			for _, behind := range [][]byte{nil, {0}, {255, 255, 255, 255, 255}, mixed(50, 13)} {
				isGetPart(t, part, join(b, wantPart(part), behind), len(b))
			}
		}
	}
}

// P10.2: places that may not be are refused.
func TestGetPartWrongPlaces(t *testing.T) {
	for _, b := range [][]byte{nil, {}, {7}, {0, 0, 0}, {0, 0, 0, 0}, {0, 0, 0, 1}, {255, 255, 255, 255}, wantPart([]byte("abc")), make([]byte, 300)} {
		for _, at := range strangePlaces(len(b)) {
			if at < 0 || at > len(b) {
				noGetPart(t, api.ErrArg, b, at)
			}
		}
	}
}

// P10.2: bytes among which no length stands, from b's end on or shortly ahead of it, are refused, whatever lies behind them.
func TestGetPartNoLength(t *testing.T) {
	wide := make([]byte, 40)
	for length := range 12 {
		for at := max(0, length-lengthSize+1); at <= length; at++ {
			noGetPart(t, api.ErrBytes, wide[:length], at)
			noGetPart(t, api.ErrBytes, slices.Clone(wide[:length]), at)
		}
	}
	noGetPart(t, api.ErrBytes, nil, 0)
}

// P10.2: a length above MaxPart is refused, though as many bytes follow.
func TestGetPartTooLong(t *testing.T) {
	for _, n := range []int{api.MaxPart + 1, api.MaxPart + 2, 2 * api.MaxPart, api.MaxBytes - 1, api.MaxBytes, api.MaxBytes + 1, 1<<16 + 3} {
		for _, b := range [][]byte{nil, {9}, mixed(100, 14)} {
			whole := join(b, wantNumber(n, lengthSize), make([]byte, n))
			noGetPart(t, api.ErrBytes, whole, len(b))
			noGetPart(t, api.ErrBytes, append(whole, 1, 2, 3), len(b))
		}
	}
	// These are so great that they would be small, or below 0, if they were cut to fewer bits.
	for _, n := range []int{1 << 16, 1 << 24, 1<<24 + 1, 1<<31 - 1, 1 << 31, 1<<31 + 1, 1<<32 - 4, 1<<32 - 1} {
		noGetPart(t, api.ErrBytes, join(wantNumber(n, lengthSize), mixed(20, 15)), 0)
	}
}

// P10.2: a part of which fewer bytes follow than its length tells is refused, whatever lies behind them.
func TestGetPartTooFew(t *testing.T) {
	for _, part := range parts() {
		for _, b := range [][]byte{nil, {9}, mixed(100, 16)} {
			whole := join(b, wantPart(part))
			for _, short := range []int{1, 2, 3, len(part) / 2, len(part)} {
				if 0 < short && short <= len(part) {
					noGetPart(t, api.ErrBytes, whole[:len(whole)-short], len(b))
					noGetPart(t, api.ErrBytes, slices.Clone(whole[:len(whole)-short]), len(b))
				}
			}
		}
	}
}

// P10.3: each number of one and two bytes is got as it was put.
func TestEachSmallNumber(t *testing.T) {
	for size := 1; size <= 2; size++ {
		for n := range power(size) {
			b, e := bin.Put([]byte{7}, n, size)
			if e != api.OK {
				t.Fatalf("Put(7, %d, %d): %d", n, size, e)
			}
			isGet(t, n, b, 1, size)
		}
	}
}

// P10.3: many numbers and parts that were put one behind the other are got one behind the other, and end where the bytes end.
func TestPutAndGet(t *testing.T) {
	var b []byte
	var e api.Errno
	for size := 1; size <= maxSize; size++ {
		for i, n := range numbers(size) {
			if b, e = bin.Put(b, n, size); e != api.OK {
				t.Fatalf("Put(%d, %d): %d", n, size, e)
			}
			if b, e = bin.PutPart(b, parts()[i%len(parts())]); e != api.OK {
				t.Fatalf("PutPart: %d", e)
			}
		}
	}
	at := 0
	for size := 1; size <= maxSize; size++ {
		for i, n := range numbers(size) {
			isGet(t, n, b, at, size)
			part := parts()[i%len(parts())]
			isGetPart(t, part, b, at+size)
			at += size + lengthSize + len(part)
		}
	}
	noGet(t, api.ErrBytes, b, at, 1)
	noGetPart(t, api.ErrBytes, b, at)
	noGet(t, api.ErrArg, b, at+1, 1)
}

// P10.3: parts that were put into parts are got out of them.
func TestPartsOfParts(t *testing.T) {
	want := [][]byte{nil, {1}, []byte("abc"), mixed(500, 17)}
	var inner, outer []byte
	for _, part := range want {
		inner, _ = bin.PutPart(inner, part)
	}
	outer, _ = bin.PutPart(outer, inner)
	isGetPart(t, inner, outer, 0)
	back, _, _ := bin.GetPart(outer, 0)
	at := 0
	for _, part := range want {
		isGetPart(t, part, back, at)
		at += lengthSize + len(part)
	}
}

// guarded is a list with spare room that is somebody else's: whoever writes or hands out what lies behind its length is found.
type guarded struct{ all, list []byte }

func guard(b []byte) guarded {
	all := join(b, bytes.Repeat([]byte{77}, 64))
	return guarded{all, all[:len(b)]}
}

func (g guarded) isWhole(t *testing.T, b []byte) {
	t.Helper()
	if !bytes.Equal(g.all, guard(b).all) {
		t.Errorf("what was handed in is changed: %x, not %x", g.all, guard(b).all)
	}
}

// spoil writes all over a list, its spare room too.
func spoil(b []byte) {
	b = b[:cap(b)]
	for i := range b {
		b[i] ^= 0x5a
	}
}

// P10.1, R2, R6: neither what is handed to Put, nor its spare room, is changed or told, and no two answers have memory together.
func TestPutMemory(t *testing.T) {
	for _, b := range [][]byte{{}, {1}, mixed(8, 18), mixed(31, 19)} {
		g, want := guard(b), join(b, wantNumber(513, 3))
		one, _ := bin.Put(g.list, 513, 3)
		g.isWhole(t, b)
		two, _ := bin.Put(g.list, 513, 3)
		three, _ := bin.Put(one, 6, 1)
		if !bytes.Equal(one[:cap(one)][len(one):], make([]byte, cap(one)-len(one))) {
			t.Errorf("spare room is told: %x", one[:cap(one)])
		}
		spoil(one)
		g.isWhole(t, b)
		if !bytes.Equal(two, want) || !bytes.Equal(three, join(want, []byte{6})) {
			t.Errorf("answers have memory together: %x, %x", two, three)
		}
		spoil(g.all)
		if !bytes.Equal(two, want) {
			t.Errorf("what was handed in is kept: %x", two)
		}
	}
}

// P10.2, R2, R6: the same of both lists that are handed to PutPart, also where they lie in one memory.
func TestPutPartMemory(t *testing.T) {
	for _, b := range [][]byte{{}, {1}, mixed(8, 20), mixed(31, 21)} {
		for _, part := range [][]byte{{}, {2}, mixed(9, 22)} {
			g, h, want := guard(b), guard(part), join(b, wantPart(part))
			one, _ := bin.PutPart(g.list, h.list)
			two, _ := bin.PutPart(g.list, h.list)
			three, _ := bin.PutPart(one, nil)
			if !bytes.Equal(one[:cap(one)][len(one):], make([]byte, cap(one)-len(one))) {
				t.Errorf("spare room is told: %x", one[:cap(one)])
			}
			spoil(one)
			g.isWhole(t, b)
			h.isWhole(t, part)
			spoil(g.all)
			spoil(h.all)
			if !bytes.Equal(two, want) || !bytes.Equal(three, join(want, make([]byte, lengthSize))) {
				t.Errorf("memory is not the answer's own: %x, %x", two, three)
			}
		}
	}
	all := mixed(20, 23)
	before := slices.Clone(all)
	isPutPart(t, join(before[:8], wantPart(before[4:12])), all[:8], all[4:12])
	isPutPart(t, join(before, wantPart(before)), all, all)
	isPutPart(t, join(before[:0], wantPart(before[1:9])), all[:0], all[1:9])
	if !bytes.Equal(all, before) {
		t.Errorf("what was handed in is changed: %x", all)
	}
}

// P10.1, P10.2, R2, R6: Get and GetPart change nothing, and a part is memory of its own, its spare room too.
func TestGetMemory(t *testing.T) {
	for _, part := range [][]byte{{}, {3}, mixed(9, 24), mixed(33, 25)} {
		b := join([]byte{1, 2}, wantPart(part), []byte{4, 5, 6, 7, 8, 9, 10, 11})
		g := guard(b)
		isGet(t, 258, g.list, 0, 2)
		one, next, _ := bin.GetPart(g.list, 2)
		two, _, _ := bin.GetPart(g.list, 2)
		if !bytes.Equal(one[:cap(one)][len(one):], make([]byte, cap(one)-len(one))) {
			t.Errorf("spare room is told: %x", one[:cap(one)])
		}
		spoil(one)
		g.isWhole(t, b)
		isGet(t, 4, g.list, next, 1)
		spoil(g.all)
		if !bytes.Equal(two, part) {
			t.Errorf("memory is not the part's own: %x, not %x", two, part)
		}
	}
}

// P10.1, P10.2, R3: whatever is asked between them, two calls with the same arguments answer the same.
func TestNothingIsKept(t *testing.T) {
	part := []byte("abc")
	b := join([]byte{1, 2}, wantPart(part))
	for range 3 {
		isPut(t, []byte{9, 1, 2}, []byte{9}, 258, 2)
		noPut(t, b, 256, 1)
		isGet(t, 258, b, 0, 2)
		noGet(t, api.ErrArg, b, 0, 8)
		noGet(t, api.ErrBytes, b, len(b), 1)
		isPutPart(t, b, b[:2], part)
		noPutPart(t, b, make([]byte, api.MaxPart+1))
		isGetPart(t, part, b, 2)
		noGetPart(t, api.ErrBytes, b, 3)
		noGetPart(t, api.ErrArg, b, -1)
	}
}

// P10.1, P10.2, R3: calls side by side answer as calls one behind the other, also where they are handed the same lists.
func TestSideBySide(t *testing.T) {
	wide := guard(mixed(30, 26))
	before := slices.Clone(wide.list)
	var wait sync.WaitGroup
	for i := range 8 {
		wait.Go(func() {
			for k := range 50 {
				part := mixed(10*i+k, uint64(100*i+k))
				isPut(t, join(before, wantNumber(100*i+k, 3)), wide.list, 100*i+k, 3)
				isPutPart(t, join(before, wantPart(part)), wide.list, part)
				isGetPart(t, part, join(before, wantPart(part)), len(before))
				isGet(t, numberOf(before[i:i+maxSize]), wide.list, i, maxSize)
			}
		})
	}
	wait.Wait()
	wide.isWhole(t, before)
}

// P10.3, R1: whatever bytes and numbers, nothing panics, and what was got is put again as it stood, what was put got.
func FuzzAll(f *testing.F) {
	f.Add([]byte{0, 0, 0, 3, 'a', 'b', 'c'}, 0, 4)
	f.Add([]byte{255, 255, 255, 255, 1}, 5, 7)
	f.Add([]byte(nil), math.MinInt, math.MaxInt)
	f.Fuzz(func(t *testing.T, b []byte, x, y int) {
		if n, next, e := bin.Get(b, x, y); e == api.OK {
			isPut(t, b[:next], b[:x], n, y)
		}
		if part, next, e := bin.GetPart(b, x); e == api.OK {
			isPutPart(t, b[:next], b[:x], part)
		}
		if c, e := bin.Put(b, x, y); e == api.OK {
			isGet(t, x, c, len(b), y)
		}
		if c, e := bin.PutPart(b, b); e == api.OK {
			isGetPart(t, b, c, len(b))
		}
	})
}

func BenchmarkPut(b *testing.B) {
	l := mixed(1000, 1)
	b.ReportAllocs()
	for b.Loop() {
		bin.Put(l, 1<<40, maxSize)
	}
}

func BenchmarkPutPart(b *testing.B) {
	l, part := mixed(1000, 1), mixed(1000, 2)
	b.ReportAllocs()
	for b.Loop() {
		bin.PutPart(l, part)
	}
}

func BenchmarkGet(b *testing.B) {
	l := mixed(1000, 1)
	b.ReportAllocs()
	for b.Loop() {
		bin.Get(l, 500, maxSize)
	}
}

func BenchmarkGetPart(b *testing.B) {
	l := wantPart(mixed(1000, 1))
	b.ReportAllocs()
	for b.Loop() {
		bin.GetPart(l, 0)
	}
}
