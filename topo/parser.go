package topo

import (
	"strconv"

	"pinfold/api"
	"pinfold/cpuset"
	"pinfold/desc"
)

// The parser's faults: its panics, each kind a type of its own, with the place of what is wrong.
type (
	wrongToken api.Place // no description goes on with it
	tooDeep    api.Place // a domain within too many others
	tooMany    api.Place // a domain behind too many others
	nameTaken  api.Place // a domain ahead has it
	wrongRoom  api.Place // a queue's list that isn't one number that may be
	wrongCpus  api.Place // a list that isn't one of workers, or one of workers that a leaf ahead has
	cutShort   api.Place // the text ends ahead of the description
)

// told is the error that a fault is, and its place.
func told(fault any) (api.Errno, api.Place) {
	switch at := fault.(type) {
	case wrongToken:
		return api.ErrToken, api.Place(at)
	case tooDeep:
		return api.ErrDepth, api.Place(at)
	case tooMany:
		return api.ErrBig, api.Place(at)
	case nameTaken:
		return api.ErrName, api.Place(at)
	case wrongRoom:
		return api.ErrSize, api.Place(at)
	case wrongCpus:
		return api.ErrCpu, api.Place(at)
	case cutShort:
		return api.ErrEnd, api.Place(at)
	default: // the parser has no other one: what else went wrong is no answer about the text
		panic(fault)
	}
}

// parser goes over a description's tokens and makes its tree; at the first fault it panics.
type parser struct {
	left    []api.Token
	end     api.Place // the text's
	domains []api.Domain
	names   map[string]struct{} // the domains' so far
	cpus    api.Set             // the leaves' so far
}

// parse is the tree that the tokens l describe, of a text that ends at end; or an empty one, the first fault, and its place.
func parse(l []api.Token, end api.Place) (t api.Topo, e api.Errno, at api.Place) {
	defer func() {
		if fault := recover(); fault != nil {
			e, at = told(fault)
		}
	}()
	p := parser{left: l, end: end, names: map[string]struct{}{}}
	p.domain(-1, 0)
	if len(p.left) > 0 {
		panic(wrongToken(p.left[0].At))
	}
	return api.Topo{Domains: p.domains}, api.OK, api.Place{}
}

// next is the token that the parser is at.
func (p *parser) next() api.Token {
	if len(p.left) == 0 {
		panic(cutShort(p.end))
	}
	return p.left[0]
}

// take goes past the token that the parser is at, whose kind must be this.
func (p *parser) take(kind int) api.Token {
	t := p.next()
	if t.Kind != kind {
		panic(wrongToken(t.At))
	}
	p.left = p.left[1:]
	return t
}

// pass goes past the token that the parser is at, if its text is this.
func (p *parser) pass(text string) bool {
	is := p.next().Text == text
	if is {
		p.left = p.left[1:]
	}
	return is
}

// must goes past the token that the parser is at, whose text must be this.
func (p *parser) must(text string) {
	if t := p.next(); !p.pass(text) {
		panic(wrongToken(t.At))
	}
}

// domain reads a domain that lies in the one of the number up, depth of them around it, and all that lies in it.
func (p *parser) domain(up, depth int) {
	p.begin(depth)
	name := p.name()
	room := p.room()
	d := len(p.domains)
	p.domains = append(p.domains, api.Domain{Name: name, Up: up, Depth: depth, Room: room})
	if p.pass("{") {
		p.parts(d)
	} else {
		p.leaf(d)
	}
}

// begin reads the word that a domain begins with.
func (p *parser) begin(depth int) {
	t := p.next()
	p.must("domain")
	switch {
	case depth >= api.MaxDepth:
		panic(tooDeep(t.At))
	case len(p.domains) >= api.MaxDomains:
		panic(tooMany(t.At))
	}
}

// name reads a domain's name.
func (p *parser) name() string {
	t := p.take(api.TokWord)
	if !desc.IsName(t.Text) {
		panic(wrongToken(t.At))
	}
	if _, is := p.names[t.Text]; is {
		panic(nameTaken(t.At))
	}
	p.names[t.Text] = struct{}{}
	return t.Text
}

// room reads how many tasks a domain's queue has room for, if it is there.
func (p *parser) room() int {
	if !p.pass("queue") {
		return usualRoom
	}
	t := p.take(api.TokList)
	n, err := strconv.Atoi(t.Text)
	if err != nil || t.Text[0] == '0' || n > api.MaxRoom {
		panic(wrongRoom(t.At))
	}
	return n
}

// parts reads the parts of the domain d, one at least, and what ends them.
func (p *parser) parts(d int) {
	for more := true; more; more = !p.pass("}") {
		part := len(p.domains)
		p.domain(d, p.domains[d].Depth+1)
		p.domains[d].Cpus = cpuset.Or(p.domains[d].Cpus, p.domains[part].Cpus)
	}
}

// leaf reads the workers of the domain d, and what ends them.
func (p *parser) leaf(d int) {
	p.must("cpus")
	t := p.take(api.TokList)
	s, e, _ := cpuset.Parse(t.Text)
	if e != api.OK || cpuset.Meets(p.cpus, s) {
		panic(wrongCpus(t.At))
	}
	p.cpus = cpuset.Or(p.cpus, s)
	p.domains[d].Cpus = s
	p.domains[d].Leaf = true
	p.must(";")
}
