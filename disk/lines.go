package disk

import (
	"iter"
	"strings"

	"outfitter/api"
)

// lines writes a list, a line for each thing.
func lines[T any](l []T, write func(T) string) iter.Seq[string] {
	return func(yield func(string) bool) {
		for _, thing := range l {
			if !yield(write(thing)) {
				return
			}
		}
	}
}

func writeFact(s api.Setting) string { return writePair("fact", s.Key, s.Value) }

func writeFile(f api.File) string {
	if f.Runs {
		return writePair("run", f.Path, f.Data)
	}
	return writePair("file", f.Path, f.Data)
}

func writeSetting(s api.Setting) string { return writePair("set", s.Key, s.Value) }

// readThing reads a line of a machine, and reports whether it has its form, and may follow what has been read.
func readThing(m *api.Machine, line string) bool {
	word, rest, _ := strings.Cut(line, " ")
	pair, isPair := readPair(rest)
	switch word {
	case "fact":
		m.Facts = append(m.Facts, pair)
		return isPair && len(m.Files)+len(m.Settings)+len(m.Services) == 0
	case "file", "run":
		m.Files = append(m.Files, api.File{Path: pair.Key, Data: pair.Value, Runs: word == "run"})
		return isPair && len(m.Settings)+len(m.Services) == 0
	case "set":
		m.Settings = append(m.Settings, pair)
		return isPair && len(m.Services) == 0
	case "service":
		service, ok := readService(rest)
		m.Services = append(m.Services, service)
		return ok
	}
	return false
}

func writeChange(c api.Change) string {
	switch c.Kind {
	case api.ChangePut:
		return writePut(c.File)
	case api.ChangeRemove:
		return "remove " + c.File.Path
	case api.ChangeSet:
		return writeSetting(c.Setting)
	case api.ChangeUnset:
		return "unset " + c.Setting.Key
	case api.ChangeService:
		return writeService(c.Service)
	}
	return "drop " + c.Service.Name
}

func writePut(f api.File) string {
	if f.Runs {
		return writePair("putrun", f.Path, f.Data)
	}
	return writePair("put", f.Path, f.Data)
}

// readChange reads a line of changes, and reports whether it has its form.
func readChange(line string) (api.Change, bool) {
	word, rest, _ := strings.Cut(line, " ")
	pair, isPair := readPair(rest)
	switch word {
	case "put", "putrun":
		f := api.File{Path: pair.Key, Data: pair.Value, Runs: word == "putrun"}
		return api.Change{Kind: api.ChangePut, File: f}, isPair
	case "remove":
		return api.Change{Kind: api.ChangeRemove, File: api.File{Path: rest}}, isWord(rest)
	case "set":
		return api.Change{Kind: api.ChangeSet, Setting: pair}, isPair
	case "unset":
		return api.Change{Kind: api.ChangeUnset, Setting: api.Setting{Key: rest}}, isWord(rest)
	case "service":
		service, ok := readService(rest)
		return api.Change{Kind: api.ChangeService, Service: service}, ok
	case "drop":
		return api.Change{Kind: api.ChangeDrop, Service: api.Service{Name: rest}}, isWord(rest)
	}
	return api.Change{}, false
}

func writePair(word, key, text string) string { return word + " " + key + " " + Quote(text) }

// readPair reads a word, and a text in quotes.
func readPair(s string) (api.Setting, bool) {
	// Quotes are missing where there is no space, too.
	key, quoted, _ := strings.Cut(s, " ")
	value, e := Unquote(quoted)
	return api.Setting{Key: key, Value: value}, isWord(key) && e == api.OK
}

func writeService(s api.Service) string {
	return "service " + s.Name + " " + s.Path + " " + writeFlag(s.Auto) + " " + writeFlag(s.On)
}

func readService(s string) (api.Service, bool) {
	// A fifth word holds all that is too much, however long it is.
	words := strings.SplitN(s, " ", 5)
	if len(words) != 4 || !isFlag(words[2]) || !isFlag(words[3]) {
		return api.Service{}, false
	}
	service := api.Service{Name: words[0], Path: words[1], Auto: words[2] == "1", On: words[3] == "1"}
	return service, isWord(service.Name) && isWord(service.Path)
}

func writeFlag(set bool) string {
	if set {
		return "1"
	}
	return "0"
}

func isFlag(s string) bool { return s == "0" || s == "1" }

// isWord reports whether s can be a path, key or name in a line; what it is there is looked at later.
func isWord(s string) bool { return s != "" && !strings.Contains(s, " ") }
