package choose

import (
	"slices"

	"outfitter/api"
)

// board is what can be chosen from a stock for some wants.
type board struct {
	stock
	parts    []set // for each package, the places of the components with which it is picked
	open     set   // the choices that can be made at all
	beside   []set // as of the stock, but without what clashes
	wanted   set   // places of names
	hopeless bool  // a package is wanted whose name no package has
}

func (s stock) board(wants []api.Want) board {
	b := board{stock: s, beside: slices.Clone(s.beside), parts: make([]set, len(s.wares))}
	for i, beside := range b.beside {
		b.open |= beside & only(i)
	}
	for i := range s.wares {
		var can bool
		if b.parts[i], can = s.picked(i, wants); !can {
			b.open &^= only(i)
		}
	}
	for _, want := range wants {
		name := s.placeOf(want.Name)
		if name < 0 {
			b.hopeless = true
			continue
		}
		b.wanted |= only(name)
		b.open &^= s.choices[name] &^ s.within(name, want.Range)
	}
	for c, parts := range s.clashes {
		if b.parts[c.pack].has(c.part) && b.parts[c.other]&parts != 0 {
			b.beside[c.pack] &^= only(c.other)
			b.beside[c.other] &^= only(c.pack)
		}
	}
	return b
}

// settle takes away from open choices the packages that nothing wanted can reach. It reports whether each name still has one.
func (b board) settle(open set) (set, bool) {
	reached := b.reached(open)
	for name, choices := range b.choices {
		if !reached.has(name) {
			open &^= choices &^ only(b.nothing(name))
		}
		if open&choices == 0 {
			return 0, false
		}
	}
	return open, !b.hopeless
}

// reached is the places of the names that are wanted, or needed by open packages of such names.
func (b board) reached(open set) set {
	reached := b.wanted
	var looked set
	for reached != looked {
		now := reached &^ looked
		looked = reached
		for name := range now.each() {
			for i := range (open & b.choices[name] &^ only(b.nothing(name))).each() {
				reached |= b.wares[i].needs
			}
		}
	}
	return reached
}

// best returns the best of the right choices that are open: those for the first names are looked at first.
func (b board) best(orders [][]option, open set) (set, bool) {
	open, can := b.settle(open)
	if !can || len(orders) == 0 {
		return open, can
	}
	for _, o := range orders[0] {
		if !open.has(o.choice) {
			continue
		}
		if found, is := b.best(orders[1:], open&b.beside[o.choice]); is {
			return found, true
		}
	}
	return 0, false
}

// choicesOf returns the choices that picks are, one for each name, and whether they are right.
func (b board) choicesOf(l []api.Pick) (set, bool) {
	var made set
	for name := range b.names {
		made |= only(b.nothing(name))
	}
	for k, p := range l {
		i := find(b.world, p.Name, p.Version)
		if i < 0 || k > 0 && p.Name <= l[k-1].Name {
			return 0, false
		}
		if !slices.Equal(p.Components, namesOf(b.wares[i].bare, b.parts[i])) {
			return 0, false
		}
		made = made&^b.choices[b.wares[i].name] | only(i)
	}
	return made, b.isRight(made)
}

// isRight reports whether choices, one for each name, are right together.
func (b board) isRight(made set) bool {
	for i := range made.each() {
		if made&^b.beside[i] != 0 {
			return false
		}
	}
	settled, can := b.settle(made & b.open)
	return can && settled == made
}

// picksOf returns the picks that choices are.
func (b board) picksOf(made set) []api.Pick {
	var l []api.Pick
	for i, p := range b.world.Packages {
		if made.has(i) {
			l = append(l, api.Pick{Name: p.Name, Version: p.Version, Components: namesOf(p, b.parts[i])})
		}
	}
	return l
}
