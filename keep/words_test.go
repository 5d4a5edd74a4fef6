package keep_test

import (
	"math/rand/v2"
	"slices"
	"strings"
	"testing"

	"outfitter/api"
	"outfitter/delta"
	"outfitter/disk"
	"outfitter/keep"
)

// The slow ways follow the words of P173 to P175, and make each change as soon as it is found.

// sumThere is the sum of what stands at the place of a held thing.
func sumThere(m api.Machine, h api.Held) (string, bool) {
	mark := "-"
	switch h.Kind {
	case api.ItemSetting:
		value, e := disk.Setting(m, h.Path)
		return disk.SumOf(mark + value), e == api.OK
	case api.ItemService:
		s, e := disk.Service(m, h.Path)
		if s.Auto {
			mark = "a"
		}
		return disk.SumOf(mark + s.Path), e == api.OK
	}
	f, e := disk.File(m, h.Path)
	if f.Runs {
		mark = "r"
	}
	return disk.SumOf(mark + f.Data), e == api.OK
}

// onePlace reports whether two held things have the same place.
func onePlace(a, b api.Held) bool {
	return a.Path == b.Path && max(a.Kind, api.ItemData) == max(b.Kind, api.ItemData)
}

// slow is what has been done so far.
type slow struct {
	m api.Machine
	r api.Result
	e api.Errno
}

func (s *slow) do(c api.Change) {
	s.r.Changes = append(s.r.Changes, c)
	m, e := disk.Apply(s.m, []api.Change{c})
	if e == api.OK {
		s.m = m
	} else if s.e == api.OK {
		s.e = e
	}
}

func (s *slow) note(kind int, path string) {
	s.r.Notes = append(s.r.Notes, api.Note{Kind: kind, Path: path})
}

// put brings an item.
func (s *slow) put(x api.Item) {
	switch x.Kind {
	case api.ItemSetting:
		s.do(api.Change{Kind: api.ChangeSet, Setting: x.Setting})
	case api.ItemService:
		old, _ := disk.Service(s.m, x.Service.Name)
		x.Service.On = old.On
		s.do(api.Change{Kind: api.ChangeService, Service: x.Service})
	default:
		s.do(api.Change{Kind: api.ChangePut, File: x.File})
	}
}

// drop is what P174 says of a held thing.
func (s *slow) drop(k api.Keep, h api.Held, how api.Manner) {
	sum, isThere := sumThere(s.m, h)
	if !isThere {
		return
	}
	isOld := sum == h.Sum
	switch h.Kind {
	case api.ItemProgram:
		s.do(api.Change{Kind: api.ChangeRemove, File: api.File{Path: h.Path}})
	case api.ItemService:
		s.do(api.Change{Kind: api.ChangeDrop, Service: api.Service{Name: h.Path}})
	case api.ItemShared:
		if slices.ContainsFunc(k.Held, func(o api.Held) bool { return o.Owner != h.Owner && onePlace(o, h) }) {
			return
		}
		if isOld || how.Force {
			s.do(api.Change{Kind: api.ChangeRemove, File: api.File{Path: h.Path}})
		} else {
			s.note(api.NoteLeft, h.Path)
		}
	case api.ItemText, api.ItemData:
		if isOld || how.All {
			s.do(api.Change{Kind: api.ChangeRemove, File: api.File{Path: h.Path}})
		} else {
			s.note(api.NoteLeft, h.Path)
		}
	case api.ItemSetting:
		if isOld || how.All {
			s.do(api.Change{Kind: api.ChangeUnset, Setting: api.Setting{Key: h.Path}})
		} else {
			s.note(api.NoteLeft, h.Path)
		}
	}
}

// refused is what P173 says of an item and those before it, as far as Adopt has it, too.
func refused(k api.Keep, owner string, before []api.Item, x api.Item) api.Errno {
	if e := keep.CheckItem(x); e != api.OK {
		return e
	}
	n := holding(owner, x)
	for _, y := range before {
		if onePlace(holding(owner, y), n) {
			return api.ErrTwice
		}
	}
	for _, h := range k.Held {
		if h.Owner != owner && onePlace(h, n) && !(h.Kind == api.ItemShared && n.Kind == api.ItemShared && h.Sum == n.Sum) {
			return api.ErrConflict
		}
	}
	return api.OK
}

func slowBring(m api.Machine, k api.Keep, owner string, l []api.Item, how api.Manner) (api.Result, api.Errno) {
	for i, x := range l {
		if e := refused(k, owner, l[:i], x); e != api.OK {
			return api.Result{}, e
		}
		if x.File.Path == "stage" || strings.HasPrefix(x.File.Path, "stage/") {
			return api.Result{}, api.ErrDenied
		}
	}
	for _, x := range l {
		n := holding(owner, x)
		isHeld := slices.ContainsFunc(k.Held, func(h api.Held) bool { return onePlace(h, n) })
		sum, isThere := sumThere(m, n)
		if x.Kind <= api.ItemShared && isThere && !isHeld && sum != n.Sum && !how.Force {
			return api.Result{}, api.ErrConflict
		}
	}
	s := &slow{m: m}
	for _, h := range k.Held {
		comes := func(x api.Item) bool { return onePlace(holding(owner, x), h) && x.Kind == h.Kind }
		if h.Owner == owner && !slices.ContainsFunc(l, comes) {
			s.drop(k, h, how)
		}
	}
	for _, x := range l {
		s.bring(k, owner, l, x)
	}
	if s.e != api.OK {
		return api.Result{}, s.e
	}
	s.r.Keep = behind(k, owner, l)
	return s.r, api.OK
}

// bring is what P173 says of an item.
func (s *slow) bring(k api.Keep, owner string, l []api.Item, x api.Item) {
	n := holding(owner, x)
	var held api.Held
	for _, h := range k.Held {
		if h.Owner == owner && onePlace(h, n) && h.Kind == x.Kind {
			held = h
		}
	}
	isHeld := held.Owner != ""
	sum, isThere := sumThere(s.m, n)
	f, _ := disk.File(s.m, n.Path)
	switch x.Kind {
	case api.ItemProgram, api.ItemShared, api.ItemService:
		if !isThere || sum != n.Sum {
			if isHeld && isThere && sum != held.Sum {
				s.note(api.NoteReplaced, n.Path)
			}
			s.put(x)
		}
	case api.ItemText:
		switch {
		case !isThere && isHeld:
			s.note(api.NoteAgain, n.Path)
			s.put(x)
		case !isThere:
			s.put(x)
		case sum == n.Sum:
		case isHeld && sum == held.Sum:
			s.put(x)
		case isHeld && x.File.Data == held.Base:
		case isHeld:
			text, clashes, e := delta.Merge(held.Base, f.Data, x.File.Data)
			if e != api.OK || clashes > 0 {
				s.beside(l, x)
				break
			}
			s.note(api.NoteMerged, n.Path)
			s.do(api.Change{Kind: api.ChangePut, File: api.File{Path: n.Path, Data: text, Runs: x.File.Runs}})
		default:
			s.beside(l, x)
		}
	case api.ItemData:
		if !isThere {
			s.put(x)
		}
	case api.ItemSetting:
		switch {
		case !isThere:
			s.put(x)
		case sum == n.Sum:
		case isHeld && sum == held.Sum:
			s.put(x)
		default:
			s.note(api.NoteKept, n.Path)
		}
	}
}

// beside puts new Data at the path and `.new`.
func (s *slow) beside(l []api.Item, x api.Item) {
	s.note(api.NoteClash, x.File.Path)
	path := x.File.Path + ".new"
	_, e := disk.File(s.m, path)
	below, _ := disk.Below(s.m, path)
	isItem := slices.ContainsFunc(l, func(x api.Item) bool { return x.File.Path == path })
	if e == api.ErrNone && len(below) == 0 && !isItem {
		s.do(api.Change{Kind: api.ChangePut, File: api.File{Path: path, Data: x.File.Data, Runs: x.File.Runs}})
	}
}

func slowDrop(m api.Machine, k api.Keep, owner string, how api.Manner) (api.Result, api.Errno) {
	s := &slow{m: m}
	s.e = api.ErrNone
	for _, h := range k.Held {
		if h.Owner == owner {
			s.e = api.OK
			s.drop(k, h, how)
		}
	}
	if s.e != api.OK {
		return api.Result{}, s.e
	}
	s.r.Keep = behind(k, owner, nil)
	return s.r, api.OK
}

func slowRepair(m api.Machine, k api.Keep, owner string, l []api.Item) (api.Result, api.Errno) {
	own := func(h api.Held) bool { return h.Owner == owner }
	if !slices.ContainsFunc(k.Held, own) {
		return api.Result{}, api.ErrNone
	}
	for _, x := range l {
		if e := keep.CheckItem(x); e != api.OK {
			return api.Result{}, e
		}
		n := holding(owner, x)
		at := slices.IndexFunc(k.Held, func(h api.Held) bool { return own(h) && h.Kind == n.Kind && h.Path == n.Path })
		if at < 0 {
			return api.Result{}, api.ErrNone
		}
		if k.Held[at].Sum != n.Sum {
			return api.Result{}, api.ErrSum
		}
	}
	s := &slow{m: m}
	for _, x := range l {
		n := holding(owner, x)
		sum, isThere := sumThere(s.m, n)
		isUsers := x.Kind == api.ItemText || x.Kind == api.ItemData || x.Kind == api.ItemSetting
		if !isThere || sum != n.Sum && !isUsers {
			s.put(x)
		}
	}
	if s.e != api.OK {
		return api.Result{}, s.e
	}
	s.r.Keep = api.Keep{Held: slices.Clone(k.Held)}
	return s.r, api.OK
}

func slowAdopt(m api.Machine, k api.Keep, owner string, l []api.Item) (api.Keep, api.Errno) {
	adopted := slices.Clone(k.Held)
	for i, x := range l {
		if e := refused(k, owner, l[:i], x); e != api.OK {
			return api.Keep{}, e
		}
		n := holding(owner, x)
		sum, isThere := sumThere(m, n)
		if !isThere {
			return api.Keep{}, api.ErrNone
		}
		if sum != n.Sum && (x.Kind == api.ItemProgram || x.Kind == api.ItemShared || x.Kind == api.ItemService) {
			return api.Keep{}, api.ErrSum
		}
		adopted = slices.DeleteFunc(adopted, func(h api.Held) bool { return h.Owner == owner && onePlace(h, n) })
		adopted = append(adopted, n)
	}
	return sorted(adopted), api.OK
}

// guesses are machines, keeps and items by chance. The keep holds what items have brought, those of each owner.
type guesses struct {
	*rand.Rand
	brought map[string][]api.Item
}

func (g *guesses) of(l ...string) string { return l[g.IntN(len(l))] }

func (g *guesses) data() string {
	return g.of("", "1\n", "1\n2\n3\n", "1\n2\n3\n4\n", "0\n1\n2\n3\n", "1\nB\n3\n", "1\nC\n3\n", "1\nC\n3")
}

func (g *guesses) path() string {
	return g.of("a", "a", "a.new", "b", "b", "b.new", "b.new.new", "c", "d", "d/e", "f/g", "a.new/x", "stages")
}

func (g *guesses) name() string { return g.of("a", "b", "c") }

// item is a right one, now and then one that is denied.
func (g *guesses) item() api.Item {
	x := api.Item{Kind: 1 + g.IntN(6)}
	if g.IntN(2) == 0 {
		x.Kind = api.ItemText
	}
	return g.filled(x)
}

// filled gives an item that has its kind all else.
func (g *guesses) filled(x api.Item) api.Item {
	switch x.Kind {
	case api.ItemSetting:
		x.Setting = api.Setting{Key: g.name(), Value: g.of("", "1", "2")}
	case api.ItemService:
		x.Service = api.Service{Name: g.name(), Path: g.of("a", "b"), Auto: g.IntN(2) == 0}
	default:
		x.File = api.File{Path: g.path(), Data: g.data(), Runs: g.IntN(6) == 0}
		if g.IntN(300) == 0 {
			x.File.Path = g.of("stage", "stage/x")
		}
	}
	return x
}

// other has the place of an item, and often its kind.
func (g *guesses) other(x api.Item) api.Item {
	for range 200 {
		y := g.filled(api.Item{Kind: x.Kind})
		if g.IntN(4) == 0 {
			y = g.item()
		}
		if onePlace(holding("a", x), holding("a", y)) {
			return y
		}
	}
	return x
}

func (g *guesses) keep() api.Keep {
	g.brought = map[string][]api.Item{}
	var k api.Keep
	for _, owner := range []string{"app", "app", "b", "c"} {
		for range g.IntN(5) {
			x := g.item()
			if owner != "app" && g.IntN(3) == 0 && len(g.brought["app"]) > 0 {
				x = g.brought["app"][g.IntN(len(g.brought["app"]))]
			}
			n := api.Keep{Held: append(slices.Clone(k.Held), holding(owner, x))}
			n = sorted(n.Held)
			if keep.Check(n) == api.OK {
				k = n
				g.brought[owner] = append(g.brought[owner], x)
			}
		}
	}
	return k
}

// machine has much of what is held, or something else there, or nothing.
func (g *guesses) machine() api.Machine {
	var m api.Machine
	put := func(x api.Item) {
		x.Service.On = g.IntN(2) == 0
		c := api.Change{Kind: api.ChangePut, File: x.File}
		switch x.Kind {
		case api.ItemSetting:
			c = api.Change{Kind: api.ChangeSet, Setting: x.Setting}
		case api.ItemService:
			c = api.Change{Kind: api.ChangeService, Service: x.Service}
		}
		if n, e := disk.Apply(m, []api.Change{c}); e == api.OK {
			m = n
		}
	}
	for _, owner := range []string{"app", "b", "c"} {
		for _, x := range g.brought[owner] {
			switch g.IntN(5) {
			case 0:
			case 1:
				put(g.other(x))
			default:
				put(x)
			}
		}
	}
	for range g.IntN(4) {
		put(g.item())
	}
	return m
}

// items are those of an owner, or others there, or new ones.
func (g *guesses) items(owner string) []api.Item {
	var l []api.Item
	for _, x := range g.brought[owner] {
		switch g.IntN(6) {
		case 0:
		case 1, 2:
			l = append(l, x)
		default:
			l = append(l, g.other(x))
		}
	}
	for range g.IntN(4) {
		x := g.item()
		if g.IntN(5) == 0 {
			l = append(l, x)
			continue
		}
		// Else hardly any list would be without an item that stands there twice.
		isTwice := func(y api.Item) bool { return onePlace(holding("a", x), holding("a", y)) }
		if !slices.ContainsFunc(l, isTwice) {
			l = append(l, x)
		}
	}
	g.Shuffle(len(l), func(i, j int) { l[i], l[j] = l[j], l[i] })
	return l
}

func (g *guesses) manner() api.Manner { return api.Manner{Force: g.IntN(2) == 0, All: g.IntN(2) == 0} }

// there are items of some of what a machine has, now and then otherwise.
func (g *guesses) there(m api.Machine) []api.Item {
	var l []api.Item
	add := func(x api.Item) {
		if g.IntN(8) == 0 {
			x = g.other(x)
		}
		if g.IntN(2) == 0 {
			l = append(l, x)
		}
	}
	for _, f := range m.Files {
		add(api.Item{Kind: 1 + g.IntN(4), File: f})
	}
	for _, s := range m.Settings {
		add(api.Item{Kind: api.ItemSetting, Setting: s})
	}
	for _, s := range m.Services {
		s.On = false
		add(api.Item{Kind: api.ItemService, Service: s})
	}
	return l
}

// tally counts results, and says if some of them are too few.
type tally map[api.Errno]int

func (n tally) want(t *testing.T, all ...api.Errno) {
	t.Helper()
	for _, e := range all {
		if n[e] < 100 {
			t.Errorf("too few with error %d: %d of %v", e, n[e], n)
		}
	}
}

func TestP173Words(t *testing.T) {
	g := &guesses{Rand: rand.New(rand.NewPCG(1, 2))}
	seen, noted := tally{}, map[int]int{}
	besides := 0
	for range 18000 {
		k := g.keep()
		m, l, how := g.machine(), g.items("app"), g.manner()
		want, f := slowBring(m, k, "app", l, how)
		got, e := keep.Bring(m, k, "app", l, how)
		if e != f {
			t.Fatalf("Bring of %v\nto %v\nwith %v, %v: %d, not %d", l, m, k, how, e, f)
		}
		isResult(t, []any{m, k, l, how}, got, want)
		seen[e]++
		for _, n := range got.Notes {
			noted[n.Kind]++
		}
		for _, c := range got.Changes {
			if strings.HasSuffix(c.File.Path, ".new.new") {
				besides++
			}
		}
		if e == api.OK {
			does(t, m, got, e)
		}
	}
	seen.want(t, api.OK, api.ErrTwice, api.ErrConflict, api.ErrDenied)
	for kind := api.NoteReplaced; kind <= api.NoteLeft; kind++ {
		if noted[kind] < 200 {
			t.Error("too few notes", kind, noted)
		}
	}
	if seen[api.OK] < 5000 || besides < 100 {
		t.Error("too few are so:", seen, besides)
	}
}

func TestP174Words(t *testing.T) {
	g := &guesses{Rand: rand.New(rand.NewPCG(3, 4))}
	seen, noted := tally{}, 0
	for range 10000 {
		k := g.keep()
		m, how := g.machine(), g.manner()
		for _, owner := range []string{"app", "b"} {
			want, f := slowDrop(m, k, owner, how)
			got, e := keep.Drop(m, k, owner, how)
			if e != f {
				t.Fatalf("Drop of %v, %v, %v: %d, not %d", m, k, how, e, f)
			}
			isResult(t, []any{m, k, how}, got, want)
			seen[e]++
			noted += len(got.Notes)
			if e == api.OK {
				does(t, m, got, e)
			}
		}
	}
	seen.want(t, api.OK, api.ErrNone)
	if noted < 1000 {
		t.Error("too few notes", noted)
	}
}

func TestP175Words(t *testing.T) {
	g := &guesses{Rand: rand.New(rand.NewPCG(5, 6))}
	seen, changed := tally{}, 0
	for range 10000 {
		k := g.keep()
		m, l := g.machine(), slices.Clone(g.brought["app"])
		if g.IntN(3) == 0 {
			l = g.items("app")
		}
		want, f := slowRepair(m, k, "app", l)
		got, e := keep.Repair(m, k, "app", l)
		if e != f {
			t.Fatalf("Repair of %v, %v, %v: %d, not %d", l, m, k, e, f)
		}
		isResult(t, []any{m, k, l}, got, want)
		seen[e]++
		changed += len(got.Changes)
	}
	seen.want(t, api.OK, api.ErrNone, api.ErrSum, api.ErrConflict)
	if changed < 1000 {
		t.Error("too few changes", changed)
	}
}

func TestP175AdoptWords(t *testing.T) {
	g := &guesses{Rand: rand.New(rand.NewPCG(9, 10))}
	seen, larger, replaced := tally{}, 0, 0
	for range 10000 {
		k := g.keep()
		m := g.machine()
		l := g.there(m)
		if g.IntN(4) == 0 {
			l = append(l, g.items("app")...)
		}
		want, f := slowAdopt(m, k, "app", l)
		got, e := keep.Adopt(m, k, "app", l)
		if e != f {
			t.Fatalf("Adopt of %v, %v, %v: %d, not %d", l, m, k, e, f)
		}
		isKeep(t, []any{m, k, l}, got, want)
		seen[e]++
		if len(got.Held) > len(k.Held) {
			larger++
		}
		if e == api.OK && len(got.Held) < len(k.Held)+len(l) {
			replaced++
		}
	}
	seen.want(t, api.OK, api.ErrTwice, api.ErrConflict, api.ErrNone, api.ErrSum)
	if larger < 500 || replaced < 500 {
		t.Error("too few are so:", larger, replaced)
	}
}

// TestP172Words compares states, faults and strays.
func TestP172Words(t *testing.T) {
	g := &guesses{Rand: rand.New(rand.NewPCG(7, 8))}
	seen := map[int]int{}
	for range 5000 {
		k := g.keep()
		m := g.machine()
		var faults []api.Fault
		for _, h := range k.Held {
			sum, isThere := sumThere(m, h)
			state := api.HeldChanged
			switch {
			case !isThere:
				state = api.HeldGone
			case sum == h.Sum:
				state = api.HeldSame
			}
			seen[state]++
			if got, e := keep.State(m, h); got != state || e != api.OK {
				t.Fatalf("State of %v in %v: %d, %d", h, m, got, e)
			}
			switch h.Kind {
			case api.ItemData, api.ItemSetting:
				continue
			case api.ItemText:
				if state == api.HeldChanged {
					continue
				}
			}
			if state != api.HeldSame {
				faults = append(faults, api.Fault{Owner: h.Owner, Path: h.Path, Kind: h.Kind, State: state})
			}
		}
		if got, e := keep.Audit(m, k); !slices.Equal(got, faults) || e != api.OK {
			t.Fatalf("Audit of %v, %v: %v, %d, not %v", m, k, got, e, faults)
		}
		dir := g.of("", "d", "f", "a.new", "stage", "a")
		var strays []string
		for _, f := range m.Files {
			isHeld := func(h api.Held) bool { return onePlace(h, api.Held{Kind: api.ItemData, Path: f.Path}) }
			if (dir == "" || strings.HasPrefix(f.Path, dir+"/")) && !strings.HasPrefix(f.Path, "stage/") && !slices.ContainsFunc(k.Held, isHeld) {
				strays = append(strays, f.Path)
			}
		}
		if got, e := keep.Strays(m, k, dir); !slices.Equal(got, strays) || e != api.OK {
			t.Fatalf("Strays of %v, %v below %q: %v, %d, not %v", m, k, dir, got, e, strays)
		}
	}
	if len(seen) != 3 {
		t.Error(seen)
	}
}
