package choose

import (
	"slices"

	"outfitter/api"
	"outfitter/pack"
	"outfitter/ver"
)

// Check validates a world.
func Check(w api.World) api.Errno {
	if e := checkPackages(w.Packages); e != api.OK {
		return e
	}
	if e := checkInstalled(w); e != api.OK {
		return e
	}
	_, e := ver.Holds(api.Cond{Kind: api.CondTrue}, w.Facts, w.Settings)
	return e
}

// Find returns a package of a world.
func Find(w api.World, name string, v api.Version) (api.Package, api.Errno) {
	if e := Check(w); e != api.OK {
		return api.Package{}, e
	}
	i := find(w, name, v)
	if i < 0 {
		return api.Package{}, api.ErrNone
	}
	return copyPackage(w.Packages[i]), api.OK
}

func checkPackages(l []api.Package) api.Errno {
	if len(l) > api.MaxCatalog {
		return api.ErrLarge
	}
	names, versions := 0, 0
	for i, p := range l {
		if e := pack.Check(p); e != api.OK {
			return e
		}
		if i > 0 && !isBehind(p, l[i-1]) {
			return api.ErrOrder
		}
		if i == 0 || p.Name != l[i-1].Name {
			names, versions = names+1, 0
		}
		versions++
		if names > api.MaxNames || versions > api.MaxVersions {
			return api.ErrLarge
		}
	}
	return api.OK
}

func isBehind(p, before api.Package) bool {
	if p.Name != before.Name {
		return p.Name > before.Name
	}
	order, _ := ver.Compare(p.Version, before.Version)
	return order > 0
}

func checkInstalled(w api.World) api.Errno {
	for i, in := range w.Installed {
		if i > 0 && in.Name <= w.Installed[i-1].Name {
			return api.ErrOrder
		}
		at := find(w, in.Name, in.Version)
		if at < 0 {
			return api.ErrNone
		}
		if e := checkParts(w.Packages[at], in.Components); e != api.OK {
			return e
		}
	}
	return api.OK
}

// checkParts sees that names are those of components of a package, in its order.
func checkParts(p api.Package, names []string) api.Errno {
	last := -1
	for _, name := range names {
		i := placeOf(p, name)
		if i < 0 {
			return api.ErrNone
		}
		if i <= last {
			return api.ErrOrder
		}
		last = i
	}
	return api.OK
}

// checkWants looks at wants, behind a world that they are for.
func checkWants(w api.World, wants []api.Want) api.Errno {
	if e := Check(w); e != api.OK {
		return e
	}
	if len(wants) > api.MaxWants {
		return api.ErrLarge
	}
	for _, want := range wants {
		if e := checkWant(want); e != api.OK {
			return e
		}
	}
	return api.OK
}

func checkWant(want api.Want) api.Errno {
	if !ver.IsName(want.Name) {
		return api.ErrName
	}
	if e := ver.CheckRange(want.Range); e != api.OK {
		return e
	}
	if len(want.Components) > api.MaxComponents {
		return api.ErrLarge
	}
	for i, name := range want.Components {
		if slices.Contains(want.Components[:i], name) {
			return api.ErrTwice
		}
	}
	return api.OK
}

// find returns the place of a package in a world, -1 if it is not there. (Versions that are right are equal just if they are the same.)
func find(w api.World, name string, v api.Version) int {
	return slices.IndexFunc(w.Packages, func(p api.Package) bool { return p.Name == name && p.Version == v })
}

// placeOf returns the place of a component in its package, -1 if it is not there.
func placeOf(p api.Package, name string) int {
	return slices.IndexFunc(p.Components, func(c api.Component) bool { return c.Name == name })
}
