package choose

import (
	"slices"
	"strconv"

	"outfitter/api"
	"outfitter/pack"
	"outfitter/ver"
)

// stock is what can be chosen in a world, whatever is wanted. A choice is for one name: a package, by its place in the world,
// or nothing, by a number behind all packages. So a set holds all choices: there are at most MaxNames * (MaxVersions + 1).
type stock struct {
	world   api.World
	names   []string // of packages, each once, rising
	choices []set    // for each name, the choices for it
	wares   []ware   // for each package
	beside  []set    // for each choice, those that needs and bars let stand beside it; itself, if it can be at all
	clashes map[contact]set
	closed  map[request]set // what has been asked before
}

// ware is a package of a stock.
type ware struct {
	bare    api.Package
	name    int // the place of its name
	needs   set // places of the names that it needs
	allowed set // places of the components that are allowed
	start   set // places of the components that it has without a want for them
}

// contact is a component of a package, beside another package.
type contact struct{ pack, part, other int }

// request asks for components of a package.
type request struct {
	pack  int
	parts set
}

func stockOf(w api.World) stock {
	s := stock{world: w, closed: map[request]set{}, clashes: clashesOf(w.Packages)}
	for i, p := range w.Packages {
		if i == 0 || p.Name != w.Packages[i-1].Name {
			s.names = append(s.names, p.Name)
			s.choices = append(s.choices, 0)
		}
		name := len(s.names) - 1
		s.choices[name] |= only(i)
		s.wares = append(s.wares, wareOf(w, p, name))
	}
	for name := range s.names {
		s.choices[name] |= only(s.nothing(name))
	}
	for i := range w.Packages {
		s.addPackage(i)
	}
	for _, choices := range s.choices {
		s.beside = append(s.beside, s.apart(choices)|only(len(s.beside)))
	}
	s.makeMutual()
	return s
}

// nothing is the choice that no package has a name.
func (s stock) nothing(name int) int { return len(s.world.Packages) + name }

// apart is all choices for other names than that of some choices.
func (s stock) apart(choices set) set {
	return below(len(s.world.Packages)+len(s.names)) &^ choices
}

// placeOf returns the place of a name, -1 if no package has it.
func (s stock) placeOf(name string) int { return slices.Index(s.names, name) }

// within is the packages with a name whose versions are in a range.
func (s stock) within(name int, r api.Range) set {
	var in set
	for i := range (s.choices[name] &^ only(s.nothing(name))).each() {
		if is, _ := ver.Has(r, s.world.Packages[i].Version); is {
			in |= only(i)
		}
	}
	return in
}

// addPackage finds what can stand beside the next package.
func (s *stock) addPackage(i int) {
	own := s.choices[s.wares[i].name]
	beside := s.apart(own) | only(i)
	for _, need := range s.world.Packages[i].Needs {
		name := s.placeOf(need.Name)
		if name < 0 {
			beside &^= only(i)
			continue
		}
		s.wares[i].needs |= only(name)
		beside &^= s.choices[name] &^ s.within(name, need.Range)
	}
	for _, bar := range s.world.Packages[i].Bars {
		if name := s.placeOf(bar.Name); name >= 0 {
			beside &^= s.within(name, bar.Range)
		}
	}
	s.beside = append(s.beside, beside)
}

// makeMutual sees that where a choice excludes another one, this one excludes it, too: so a search finds out earlier.
func (s *stock) makeMutual() {
	for i, beside := range s.beside {
		for j := range s.beside {
			if !beside.has(j) {
				s.beside[j] &^= only(i)
			}
		}
	}
}

func wareOf(w api.World, p api.Package, name int) ware {
	g := ware{bare: bare(p), name: name}
	names, _ := pack.Allowed(g.bare, w.Facts, w.Settings)
	g.allowed, _ = partsOf(p, names)
	isIt := func(in api.Install) bool { return in.Name == p.Name }
	if i := slices.IndexFunc(w.Installed, isIt); i >= 0 {
		g.start, _ = partsOf(p, w.Installed[i].Components)
		g.start &= g.allowed
	} else {
		names, _ = pack.Defaults(g.bare, w.Facts, w.Settings)
		g.start, _ = partsOf(p, names)
	}
	return g
}

// bare is a package without all that components have. Package pack looks at the whole package in each call, which takes time.
func bare(p api.Package) api.Package {
	b := api.Package{Name: p.Name}
	for _, c := range p.Components {
		c.Items, c.Steps = nil, nil
		b.Components = append(b.Components, c)
	}
	return b
}

// picked returns the components with which a package is picked for some wants, and whether it can be picked so.
func (s stock) picked(i int, wants []api.Want) (set, bool) {
	g := s.wares[i]
	asked := request{i, g.start}
	for _, want := range wants {
		if want.Name != g.bare.Name {
			continue
		}
		parts, all := partsOf(g.bare, want.Components)
		if !all {
			return 0, false
		}
		asked.parts |= parts
	}
	parts, known := s.closed[asked]
	if !known {
		names, _ := pack.Closed(g.bare, namesOf(g.bare, asked.parts))
		parts, _ = partsOf(g.bare, names)
		s.closed[asked] = parts
	}
	return parts, parts&^g.allowed == 0
}

// spot is where a package has an item.
type spot struct {
	pack, kind int
	name       string
}

// clashesOf tells, for components of packages, with which components of packages of other names they are in each other's way.
func clashesOf(l []api.Package) map[contact]set {
	var all []api.Package
	var chosen [][]string
	for i, p := range l {
		// One call looks at all pairs, so there must be no two of one name.
		all = append(all, api.Package{Name: "p" + strconv.Itoa(i), Components: p.Components})
		chosen = append(chosen, namesOf(p, below(len(p.Components))))
	}
	clashes, _ := pack.Clashes(all, chosen)
	parts := partsAt(l)
	found := map[contact]set{}
	for _, c := range clashes {
		if l[c.First].Name != l[c.Second].Name {
			one, other := parts[spot{c.First, c.Kind, c.Name}], parts[spot{c.Second, c.Kind, c.Name}]
			found[contact{c.First, one, c.Second}] |= only(other)
		}
	}
	return found
}

// partsAt tells which component of its package has the item at a spot.
func partsAt(l []api.Package) map[spot]int {
	parts := map[spot]int{}
	for i, p := range l {
		for part, c := range p.Components {
			for _, x := range c.Items {
				switch x.Kind {
				case api.ItemSetting:
					parts[spot{i, api.ClashSetting, x.Setting.Key}] = part
				case api.ItemService:
					parts[spot{i, api.ClashService, x.Service.Name}] = part
				default:
					parts[spot{i, api.ClashFile, x.File.Path}] = part
				}
			}
		}
	}
	return parts
}
