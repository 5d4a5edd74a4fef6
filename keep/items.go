// Package keep tells which files, settings and services were brought by whom, and what has to be done when things are
// brought, dropped, repaired or adopted (doc/08-keep.md).
package keep

import (
	"cmp"

	"outfitter/api"
	"outfitter/disk"
)

// place is where a thing is.
type place struct {
	kind int // of the change that brings such a thing
	name string
}

// CheckItem validates an item.
func CheckItem(x api.Item) api.Errno {
	c := bringing(x) // of no kind, if the item is of none
	needed := api.Item{Kind: x.Kind, File: c.File, Setting: c.Setting, Service: c.Service}
	return cmp.Or(disk.CheckChange(c), when(x != needed, api.ErrForm))
}

// when returns an error, if something is bad.
func when(bad bool, e api.Errno) api.Errno {
	if bad {
		return e
	}
	return api.OK
}

// thingKind returns the kind of the changes that bring items of a kind: so kinds of things stand in their order. It is 0
// if there is no such kind of items.
func thingKind(kind int) int {
	switch kind {
	case api.ItemProgram, api.ItemShared, api.ItemText, api.ItemData:
		return api.ChangePut
	case api.ItemSetting:
		return api.ChangeSet
	case api.ItemService:
		return api.ChangeService
	}
	return 0
}

// isUsers reports whether the user may change things of a kind.
func isUsers(kind int) bool {
	return kind == api.ItemText || kind == api.ItemData || kind == api.ItemSetting
}

// bringing returns the change that brings an item; a service is not on then.
func bringing(x api.Item) api.Change {
	c := api.Change{Kind: thingKind(x.Kind)}
	switch c.Kind {
	case api.ChangePut:
		c.File = x.File
	case api.ChangeSet:
		c.Setting = x.Setting
	case api.ChangeService:
		c.Service = x.Service
		c.Service.On = false
	}
	return c
}

// placeOf returns where a change brings a thing to.
func placeOf(c api.Change) place {
	switch c.Kind {
	case api.ChangeSet:
		return place{c.Kind, c.Setting.Key}
	case api.ChangeService:
		return place{c.Kind, c.Service.Name}
	}
	return place{c.Kind, c.File.Path}
}

// sumOf returns the sum of the thing that a change brings.
func sumOf(c api.Change) string {
	switch {
	case c.Kind == api.ChangeSet:
		return markedSum("-", c.Setting.Value)
	case c.Kind == api.ChangeService && c.Service.Auto:
		return markedSum("a", c.Service.Path)
	case c.Kind == api.ChangeService:
		return markedSum("-", c.Service.Path)
	case c.File.Runs:
		return markedSum("r", c.File.Data)
	}
	return markedSum("-", c.File.Data)
}

func markedSum(mark, text string) string { return disk.SumOf(mark + text) }
