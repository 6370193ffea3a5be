package store

import (
	"cmp"
	"slices"

	"ogham/api"
)

// family is the texts of the versions of a module. No table is kept: a text has just one, and each answer needs a new one.
type family struct {
	name  string
	texts []string
}

// families is the modules in ascending order of their names.
type families struct {
	list []family
}

// find returns the place of a family, or where it would stand, and whether it is there.
func (f *families) find(name string) (int, bool) {
	return slices.BinarySearchFunc(f.list, name, func(x family, name string) int { return cmp.Compare(x.name, name) })
}

// texts returns the texts of the versions of a module.
func (f *families) texts(name string) []string {
	i, ok := f.find(name)
	if !ok {
		return nil
	}
	return f.list[i].texts
}

// admits returns whether a candidate may become the next version of its module.
func (f *families) admits(c candidate) (int, api.Errno) {
	texts := f.texts(c.table.Name)
	if slices.Contains(texts, c.text) {
		return 0, api.ErrTwice
	}
	if len(texts) > 0 {
		if at, e := extends(texts[len(texts)-1], c); e != api.OK {
			return at, e
		}
	}
	if c.text == "" || len(c.text) > api.MaxText {
		return 0, api.ErrLimit
	}
	if len(texts) == api.MaxVersions || len(texts) == 0 && len(f.list) == api.MaxModules {
		return 0, api.ErrFull
	}
	return 0, api.OK
}

// add appends a candidate to the versions of its module, and returns its number.
func (f *families) add(c candidate) int {
	i, ok := f.find(c.table.Name)
	if !ok {
		f.list = slices.Insert(f.list, i, family{name: c.table.Name})
	}
	f.list[i].texts = append(f.list[i].texts, c.text)
	return len(f.list[i].texts)
}
