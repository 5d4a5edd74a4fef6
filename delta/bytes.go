package delta

import (
	"strings"

	"outfitter/api"
	"outfitter/disk"
)

const (
	head        = "OFD1"
	copyHead    = "\x00"
	dataHead    = "\x01"
	sumBytes    = 8
	numberBytes = 5 // a number has no more
)

// Print writes a delta as bytes.
func Print(d api.Delta) (string, api.Errno) {
	if e := Check(d); e != api.OK {
		return "", e
	}
	b := []byte(head)
	b = addNumber(b, d.Old)
	b = addNumber(b, d.New)
	b = addSum(b, d.OldSum)
	b = addSum(b, d.NewSum)
	b = addNumber(b, len(d.Pieces))
	for _, p := range d.Pieces {
		b = addPiece(b, p)
	}
	return string(addSum(b, disk.SumOf(string(b)))), api.OK
}

func addPiece(b []byte, p api.Piece) []byte {
	if p.Data == "" {
		b = append(b, copyHead...)
		b = addNumber(b, p.At)
		return addNumber(b, p.Long)
	}
	b = append(b, dataHead...)
	b = addNumber(b, len(p.Data))
	return append(b, p.Data...)
}

func addNumber(b []byte, n int) []byte {
	for n >= 1<<7 {
		b = append(b, 1<<7|byte(n))
		n >>= 7
	}
	return append(b, byte(n))
}

// addSum adds the bytes of which each one is two digits of a sum.
func addSum(b []byte, sum string) []byte {
	for i := 0; i < len(sum); i += 2 {
		b = append(b, byte(strings.IndexByte(digits, sum[i])<<4|strings.IndexByte(digits, sum[i+1])))
	}
	return b
}

// Cost is the number of bytes that Print writes.
func Cost(d api.Delta) (int, api.Errno) {
	text, e := Print(d)
	return len(text), e
}

// Parse reads what Print writes.
func Parse(text string) (api.Delta, api.Errno) {
	if len(text) > 2*api.MaxText {
		return api.Delta{}, api.ErrLarge
	}
	r := reader{left: text}
	d := r.delta()
	body := text[:len(text)-len(r.left)]
	sum := r.sum()
	if r.wrong || r.left != "" {
		return api.Delta{}, api.ErrSyntax
	}
	if disk.SumOf(body) != sum {
		return api.Delta{}, api.ErrSum
	}
	if e := Check(d); e != api.OK {
		return api.Delta{}, e
	}
	return d, api.OK
}

// reader reads a text from the left. Behind what has not its form all that it reads is empty.
type reader struct {
	left  string
	wrong bool
}

func (r *reader) fail() {
	r.left, r.wrong = "", true
}

// bytes reads so many bytes.
func (r *reader) bytes(many int) string {
	if many > len(r.left) {
		r.fail()
		return ""
	}
	s := r.left[:many]
	r.left = r.left[many:]
	return s
}

func (r *reader) number() int {
	n := 0
	for i := range min(numberBytes, len(r.left)) {
		c := r.left[i]
		n |= int(c&(1<<7-1)) << (7 * i)
		if c < 1<<7 {
			if c == 0 && i > 0 {
				break
			}
			r.left = r.left[i+1:]
			return n
		}
	}
	r.fail()
	return 0
}

func (r *reader) sum() string {
	var b strings.Builder
	s := r.bytes(sumBytes)
	for i := range len(s) {
		b.WriteByte(digits[s[i]>>4])
		b.WriteByte(digits[s[i]&15])
	}
	return b.String()
}

// delta reads all but the sum at the end.
func (r *reader) delta() api.Delta {
	var d api.Delta
	if r.bytes(len(head)) != head {
		r.fail()
	}
	d.Old = r.number()
	d.New = r.number()
	d.OldSum = r.sum()
	d.NewSum = r.sum()
	many := r.number()
	for i := 0; i < many && !r.wrong; i++ {
		d.Pieces = append(d.Pieces, r.piece())
	}
	return d
}

func (r *reader) piece() api.Piece {
	var p api.Piece
	switch r.bytes(len(copyHead)) {
	case copyHead:
		p.At = r.number()
		p.Long = r.number()
	case dataHead:
		many := r.number()
		p.Data = r.bytes(many)
		// A piece without Data is a copy, and is written as one.
		if p.Data == "" {
			r.fail()
		}
	default:
		r.fail()
	}
	return p
}
