package delta

import (
	"maps"

	"outfitter/api"
	"outfitter/disk"
)

// Make finds a delta from a to b: from the left, always with the longest copy.
func Make(a, b string) (api.Delta, api.Errno) {
	if len(a) > api.MaxData || len(b) > api.MaxData {
		return api.Delta{}, api.ErrLarge
	}
	l := find(a, b)
	if len(l) > api.MaxPieces {
		return api.Delta{}, api.ErrLarge
	}
	return api.Delta{Old: len(a), New: len(b), OldSum: disk.SumOf(a), NewSum: disk.SumOf(b), Pieces: l}, api.OK
}

// Back returns the delta that makes the old text of the new one.
func Back(a string, d api.Delta) (api.Delta, api.Errno) {
	b, e := Apply(a, d)
	if e != api.OK {
		return api.Delta{}, e
	}
	return Make(b, a)
}

// find returns the pieces that make b of a, however many they are.
func find(a, b string) []api.Piece {
	known := partsOf(a)
	var l []api.Piece
	fresh := 0 // from here up to at, bytes stand for themselves
	for at := 0; at < len(b); {
		from, long := known.longest(b[at:])
		if long < api.MinCopy {
			at++
			continue
		}
		l = append(addData(l, b[fresh:at]), api.Piece{At: from, Long: long})
		at += long
		fresh = at
	}
	return addData(l, b[fresh:])
}

func addData(l []api.Piece, data string) []api.Piece {
	if data == "" {
		return l
	}
	return append(l, api.Piece{Data: data})
}

// parts knows all parts of a text. It is the suffix automaton of the text: it grows in step with the text, where a list of
// the parts would grow with its square. State 0 is that of the empty part.
type parts struct{ states []state }

// state stands for all parts that end at the same places of the text.
type state struct {
	next map[byte]int // the state of these parts with one more byte
	long int          // how long the longest of them is
	link int          // the state of the longest end of them that ends at more places, or -1
	end  int          // where they end first
}

func partsOf(text string) *parts {
	p := &parts{}
	last := p.add(state{next: map[byte]int{}, link: -1})
	for i := range len(text) {
		last = p.grow(last, text[i])
	}
	return p
}

func (p *parts) add(s state) int {
	p.states = append(p.states, s)
	return len(p.states) - 1
}

// grow adds the next byte of the text, of which last is the state of the whole text ahead of it.
func (p *parts) grow(last int, c byte) int {
	long := p.states[last].long + 1
	whole := p.add(state{next: map[byte]int{}, long: long, end: long})
	at := last
	for at >= 0 && p.states[at].next[c] == 0 {
		p.states[at].next[c] = whole
		at = p.states[at].link
	}
	if at >= 0 {
		link := p.split(at, c)
		p.states[whole].link = link
	}
	return whole
}

// split returns the state of just the parts of the state at with c behind them: longer ones that have ended at the same
// places so far do not end at the new place, so they get apart.
func (p *parts) split(at int, c byte) int {
	old := p.states[at].next[c]
	long := p.states[at].long + 1
	s := p.states[old]
	if s.long == long {
		return old
	}
	s.next, s.long = maps.Clone(s.next), long
	short := p.add(s)
	p.states[old].link = short
	for at >= 0 && p.states[at].next[c] == old {
		p.states[at].next[c] = short
		at = p.states[at].link
	}
	return short
}

// longest returns where the longest part that a text begins with stands first, and how long it is.
func (p *parts) longest(text string) (int, int) {
	at, long := 0, 0
	for long < len(text) && p.states[at].next[text[long]] != 0 {
		at = p.states[at].next[text[long]]
		long++
	}
	return p.states[at].end - long, long
}
