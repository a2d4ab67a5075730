package act

import (
	"witan/api"
	"witan/bin"
	"witan/curve"
	"witan/limb"
)

// reader goes through bytes from the front on. Once something could not be read it is bad for good, and what it reads then is of no worth.
type reader struct {
	b   []byte
	at  int
	bad bool
}

// isDone tells whether all of the bytes were read, and well.
func (r *reader) isDone() bool { return !r.bad && r.at == len(r.b) }

// form reads what an act's Kind names, behind this Kind: nil, if it is none of the Kinds.
func (r *reader) form() any {
	switch r.number() {
	case api.Register:
		return register{r.point(), r.text()}
	case api.Post:
		return post{r.seals(), r.commits()}
	case api.Dispute:
		return dispute{r.number(), r.proven()}
	case api.Submit:
		return submit{r.proven()}
	case api.Withdraw:
		return withdraw{}
	}
	return nil
}

// number reads one of one byte.
func (r *reader) number() int {
	n, next, e := bin.Get(r.b, r.at, 1)
	r.went(next, e)
	return n
}

// count reads how many of something follow: more than most may not be, and are not read.
func (r *reader) count(most int) int {
	n := r.number()
	r.bad = r.bad || n > most
	if r.bad {
		return 0
	}
	return n
}

// text reads a label, rune by rune: bytes that belong to none become U+FFFD, which no label has. One rune more than a label may have is enough to see that it is none.
func (r *reader) text() string {
	part, next, e := bin.GetPart(r.b, r.at)
	r.went(next, e)
	var runes []rune
	for _, x := range string(part) {
		if len(runes) > api.MaxRunes {
			break
		}
		runes = append(runes, x)
	}
	return string(runes)
}

// seals reads how many there are, and these.
func (r *reader) seals() [][32]byte {
	var l [][32]byte
	for range r.count(api.MaxDealers) {
		l = append(l, r.block())
	}
	return l
}

// commits reads how many there are, and these.
func (r *reader) commits() []api.Point {
	var l []api.Point
	for range r.count(api.MaxCoeffs) {
		l = append(l, r.point())
	}
	return l
}

// proven reads a key and its proof.
func (r *reader) proven() proven {
	return proven{r.point(), api.Proof{C: limb.Of(r.block()), R: limb.Of(r.block())}}
}

// point reads a point: what its first byte is tells how many there are of it.
func (r *reader) point() api.Point {
	size := 33
	if r.at < len(r.b) && r.b[r.at] == 0 {
		size = 1
	}
	p, e := curve.Read(r.take(size))
	r.bad = r.bad || e != api.OK
	return p
}

// block reads 32 bytes.
func (r *reader) block() [32]byte {
	var b [32]byte
	copy(b[:], r.take(len(b)))
	return b
}

// take reads size bytes: none, if there are fewer.
func (r *reader) take(size int) []byte {
	if r.bad || size > len(r.b)-r.at {
		r.bad = true
		return nil
	}
	r.at += size
	return r.b[r.at-size : r.at]
}

// went notes the place behind what was read, or that nothing could be.
func (r *reader) went(next int, e api.Errno) {
	if e != api.OK {
		r.bad = true
		return
	}
	r.at = next
}
