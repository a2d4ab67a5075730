package draw

import (
	"testing"

	"witan/api"
)

// P5.2: ErrNone, with nothing beside it, where no count has a point. No seed is known of which MaxTries counts have none, so this asks with fewer: one less than the first point takes, and none at all.
func TestNone(t *testing.T) {
	for seed := range 50 {
		j := joined("none", [][]byte{{byte(seed)}})
		p, tries, e := firstPoint(j, api.MaxTries)
		if e != api.OK || tries < 1 {
			t.Fatal(seed, tries, e)
		}
		for limit := range tries {
			if p, n, e := firstPoint(j, limit); p != (api.Point{}) || n != 0 || e != api.ErrNone {
				t.Errorf("seed %d, %d tries: %v, %d, %d", seed, limit, p, n, e)
			}
		}
		if q, n, e := firstPoint(j, tries); q != p || n != tries || e != api.OK {
			t.Errorf("seed %d, %d tries: %v, %d, %d, not %v", seed, tries, q, n, e, p)
		}
	}
}

// P5.2, P5.3: a count is laid with the highest byte first, in as many bytes as the chapter says.
func TestLaid(t *testing.T) {
	if string(laid(0x1020304, lengthSize)) != "\x01\x02\x03\x04" || string(laid(255, trySize)) != "\x00\x00\x00\xff" || string(laid(2047, pieceSize)) != "\x00\x00\x00\x00\x00\x00\x07\xff" {
		t.Error(laid(0x1020304, lengthSize), laid(255, trySize), laid(2047, pieceSize))
	}
}
