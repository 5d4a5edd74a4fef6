package pack

import (
	"strconv"
	"strings"

	"outfitter/api"
	"outfitter/disk"
	"outfitter/ver"
)

// writer makes a text of lines, as long as it is not too large.
type writer struct {
	text []byte
	full bool
}

// Print writes a package, without the bytes of its files.
func Print(p api.Package) (string, api.Errno) {
	if e := Check(p); e != api.OK {
		return "", e
	}
	w := &writer{}
	w.pack(p)
	if w.full {
		return "", api.ErrLarge
	}
	return string(w.text), api.OK
}

// line writes words with single spaces between.
func (w *writer) line(words ...string) {
	line := strings.Join(words, " ")
	w.full = w.full || len(w.text)+len(line)+1 > api.MaxText
	if !w.full {
		w.text = append(w.text, line...)
		w.text = append(w.text, '\n')
	}
}

func (w *writer) pack(p api.Package) {
	w.line("package", p.Name, writeVersion(p.Version), quote(p.Title))
	for _, n := range p.Needs {
		w.line("need", n.Name, writeRange(n.Range))
	}
	for _, n := range p.Bars {
		w.line("bar", n.Name, writeRange(n.Range))
	}
	for _, c := range p.Components {
		w.component(c)
	}
	for _, m := range p.Moves {
		w.line("move", writeRange(m.From), writeVersion(m.To))
		for _, rule := range m.Rules {
			w.line("rule", rule)
		}
	}
}

func (w *writer) component(c api.Component) {
	words := []string{"component", c.Name, quote(c.Title)}
	words = addIf(words, c.Default, "default")
	words = addIf(words, c.Always, "always")
	w.line(words...)
	if c.When.Kind != api.CondTrue {
		w.line("when", writeCond(c.When))
	}
	for _, name := range c.Needs {
		w.line("needs", name)
	}
	for _, x := range c.Items {
		w.item(x)
	}
	for _, s := range c.Steps {
		w.line("step", strconv.Itoa(s.Kind), s.Name, quote(s.Value))
	}
}

func (w *writer) item(x api.Item) {
	switch x.Kind {
	case api.ItemSetting:
		w.line("set", x.Setting.Key, quote(x.Setting.Value))
	case api.ItemService:
		w.line(addIf([]string{"service", x.Service.Name, x.Service.Path}, x.Service.Auto, "auto")...)
	default:
		kind := fileKinds()[x.Kind-api.ItemProgram]
		length := strconv.Itoa(len(x.File.Data))
		w.line(addIf([]string{"file", kind, x.File.Path, disk.SumOf(x.File.Data), length}, x.File.Runs, "runs")...)
	}
}

// fileKinds are the words for the kinds of items that are files, from ItemProgram on.
func fileKinds() []string { return []string{"program", "shared", "text", "data"} }

func addIf(words []string, set bool, word string) []string {
	if set {
		return append(words, word)
	}
	return words
}

// What is written here has been checked, so there are no errors.

func writeVersion(v api.Version) string {
	text, _ := ver.Print(v)
	return text
}

func writeRange(r api.Range) string {
	text, _ := ver.PrintRange(r)
	return text
}

func writeCond(c api.Cond) string {
	text, _ := ver.PrintCond(c)
	return text
}

func quote(s string) string {
	return `"` + strings.NewReplacer(`\`, `\\`, `"`, `\"`).Replace(s) + `"`
}
