package shell

import (
	"slices"
	"strings"

	"pinfold/api"
	"pinfold/prog"
	"pinfold/script"
)

// made is the case: of what the machine is made, with the entries that were done.
type made struct {
	tree    api.Topo
	config  api.Config
	entries []api.Entry
}

// copied is the case in new memory.
func (x *made) copied() made {
	y := made{api.Topo{Domains: slices.Clone(x.tree.Domains)}, x.config, slices.Clone(x.entries)}
	y.config.Masks = slices.Clone(x.config.Masks)
	y.config.Progs = slices.Clone(x.config.Progs)
	for i := range y.config.Progs {
		y.config.Progs[i].Code = slices.Clone(x.config.Progs[i].Code)
	}
	return y
}

// text is the case as a text.
func (x *made) text() string { return unended(script.PrintCase(x.tree, x.config, x.entries)) }

// program is the program of that number as a text.
func (x *made) program(n int) string {
	if n < 0 || n >= len(x.config.Progs) {
		return unknown
	}
	return unended(prog.Print(x.config.Progs[n]))
}

// names is the domains' names.
func (x *made) names() string {
	var l []string
	for _, d := range x.tree.Domains {
		l = append(l, d.Name)
	}
	return words(l...)
}

// unended is a text without its last line end.
func unended(text string) string { return strings.TrimSuffix(text, "\n") }
