package unit

import (
	"slices"
	"sort"

	"oriel/api"
	"oriel/ast"
	"oriel/show"
)

// Open is an open, and the file in which it stands.
type Open struct {
	File int
	Node api.Node
}

// Files is the files, as they were loaded.
func (u *Unit) Files() []api.File {
	var l []api.File
	for _, p := range u.all() {
		l = append(l, p.file)
	}
	return l
}

// Nodes is the node of each file.
func (u *Unit) Nodes() []api.Node {
	var l []api.Node
	for _, p := range u.all() {
		l = append(l, own(p.node))
	}
	return l
}

// Occs is the occurrences of all files; each one's number is its place in the list.
func (u *Unit) Occs() []api.Occ {
	var l []api.Occ
	for _, p := range u.all() {
		l = append(l, p.occs...)
	}
	return l
}

// Names is each occurrence's bytes.
func (u *Unit) Names() []string {
	var l []string
	for _, p := range u.all() {
		l = append(l, show.Names(p.file.Text, p.occs)...)
	}
	return l
}

// At is the occurrence in whose bytes that byte of the file stands; false, if there is none.
func (u *Unit) At(file, at int) (int, bool) {
	p, ok := u.partOf(file)
	if !ok {
		return 0, false
	}
	i := sort.Search(len(p.occs), func(i int) bool { return at < p.occs[i].End })
	if i == len(p.occs) || at < p.occs[i].At {
		return 0, false
	}
	return p.first + i, true
}

// Opens is all opens, in order.
func (u *Unit) Opens() []Open {
	var l []Open
	for i, p := range u.all() {
		for _, n := range ast.All(p.node, api.NdOpen) {
			l = append(l, Open{i, n})
		}
	}
	return l
}

// Text is the file's text; false, if there is no such file.
func (u *Unit) Text(file int) (string, bool) {
	p, ok := u.partOf(file)
	return p.file.Text, ok
}

// all is what u has of its files; nothing, if there is no unit.
func (u *Unit) all() []part {
	if u == nil {
		return nil
	}
	return u.parts
}

// partOf is what u has of the file; false, if there is no such file.
func (u *Unit) partOf(file int) (part, bool) {
	l := u.all()
	if file < 0 || len(l) <= file {
		return part{}, false
	}
	return l[file], true
}

// own is n in memory of its own, with all below it. What is left stands on a list: nodes may lie deeper in one another than calls may.
func own(n api.Node) api.Node {
	out := n
	left := []*api.Node{&out}
	for len(left) > 0 {
		next := left[len(left)-1]
		left = left[:len(left)-1]
		next.Occs, next.Kids = slices.Clone(next.Occs), slices.Clone(next.Kids)
		for i := range next.Kids {
			left = append(left, &next.Kids[i])
		}
	}
	return out
}
