package script

import (
	"strconv"
	"strings"

	"pinfold/api"
	"pinfold/cpuset"
	"pinfold/prog"
	"pinfold/topo"
)

// The words that lines of cases begin with, or are.
const (
	wordMachine = "machine"
	wordRoom    = "room"
	wordLocks   = "locks"
	wordSet     = "set"
	wordProg    = "prog" // layer 9's own
	wordGo      = "go"
)

// PrintCase is the text of a case.
func PrintCase(t api.Topo, c api.Config, l []api.Entry) string {
	var text strings.Builder
	put := func(line string) {
		text.WriteString(line)
		text.WriteByte('\n')
	}
	put(printMachine(t))
	put(printNumber(wordRoom, c.Room))
	put(printNumber(wordLocks, c.Locks))
	for _, s := range c.Masks {
		put(printMask(s))
	}
	for _, p := range c.Progs {
		text.WriteString(prog.Print(p))
	}
	put(wordGo)
	for _, e := range l {
		put(Print(e))
	}
	return text.String()
}

// printMachine is the line of a tree.
func printMachine(t api.Topo) string { return line(wordMachine, topo.Print(t)) }

// parseMachine is the tree whose line l is; it may be, as others have no description.
func parseMachine(l string) (api.Topo, bool) {
	t, e, _ := topo.Parse(behindWord(l))
	return t, e == api.OK && printMachine(t) == l
}

// printNumber is the line of a number that the word tells of.
func printNumber(word string, n int) string { return line(word, strconv.Itoa(n)) }

// parseNumber is the number from least to most that the word tells of in the line l.
func parseNumber(l, word string, least, most int) (int, bool) {
	n, _ := strconv.Atoi(behindWord(l))
	return n, n >= least && n <= most && printNumber(word, n) == l
}

// printMask is the line of a mask.
func printMask(s api.Set) string {
	text := cpuset.Print(s)
	if text == "" {
		return wordSet
	}
	return line(wordSet, text)
}

// parseMask is the mask whose line l is.
func parseMask(l string) (api.Set, bool) {
	s, e, _ := cpuset.Parse(behindWord(l))
	return s, e == api.OK && printMask(s) == l
}

// behindWord is what stands in the line behind its first word, and a blank.
func behindWord(l string) string {
	_, rest, _ := strings.Cut(l, " ")
	return rest
}

// ParseCase is the tree, the config and the entries of which s is the text, and 0; or zero ones, and the number of the first line that may not stand there.
func ParseCase(s string) (api.Topo, api.Config, []api.Entry, int) {
	r := reader{lines: cut(s)}
	if !r.read() {
		return api.Topo{}, api.Config{}, nil, r.at + 1
	}
	return r.tree, r.config, r.entries, 0
}

// cut is the lines of s, without their ends.
// What stands behind the last line end may not stand there: it is given a blank at its end, as no line that may stand somewhere has one there.
func cut(s string) []string {
	var l []string
	for text := range strings.Lines(s) {
		text, ended := strings.CutSuffix(text, "\n")
		if !ended {
			text += " "
		}
		l = append(l, text)
	}
	return l
}

// reader goes over the lines of a case, up to the first one that may not stand there, and has what they say.
type reader struct {
	lines   []string
	at      int // how many lines are ahead of the one that it is at
	tree    api.Topo
	config  api.Config
	entries []api.Entry
}

// read reads all lines; false, if the one that the reader is at then may not stand there.
func (r *reader) read() bool {
	if !r.machine() || !r.number(&r.config.Room, wordRoom, 1, api.MaxTasks) || !r.number(&r.config.Locks, wordLocks, 0, api.MaxLocks) {
		return false
	}
	r.masks()
	return r.programs() && r.pass(r.next() == wordGo) && r.script()
}

// next is the line that the reader is at; an empty one, which may stand nowhere, if there is none.
func (r *reader) next() string {
	if r.at == len(r.lines) {
		return ""
	}
	return r.lines[r.at]
}

// pass goes past the line that the reader is at, if that is right.
func (r *reader) pass(right bool) bool {
	if right {
		r.at++
	}
	return right
}

// machine reads the line of the tree.
func (r *reader) machine() bool {
	t, ok := parseMachine(r.next())
	r.tree = t
	return r.pass(ok)
}

// number reads the line of a number.
func (r *reader) number(to *int, word string, least, most int) bool {
	n, ok := parseNumber(r.next(), word, least, most)
	*to = n
	return r.pass(ok)
}

// masks reads the lines of masks, as many as there are and may be.
func (r *reader) masks() {
	for len(r.config.Masks) < api.MaxProgs {
		s, ok := parseMask(r.next())
		if !r.pass(ok) {
			return
		}
		r.config.Masks = append(r.config.Masks, s)
	}
}

// programs reads the programs, as many as there are and may be.
func (r *reader) programs() bool {
	for len(r.config.Progs) < api.MaxProgs && strings.HasPrefix(r.next(), wordProg) {
		if !r.program() {
			return false
		}
	}
	return true
}

// program reads a program: its first line, and those behind it that begin with a tab.
func (r *reader) program() bool {
	end := r.at + 1
	for end < len(r.lines) && strings.HasPrefix(r.lines[end], "\t") {
		end++
	}
	p, e, bad := prog.Parse(strings.Join(r.lines[r.at:end], "\n") + "\n")
	switch e {
	case api.OK:
		r.at = end
	case api.ErrToken: // of other errors its first line is the wrong one
		r.at += bad - 1
	}
	r.config.Progs = append(r.config.Progs, p)
	return e == api.OK
}

// script reads the entries, up to the end.
func (r *reader) script() bool {
	for r.at < len(r.lines) {
		e, ok := Parse(r.next())
		if !r.pass(ok) {
			return false
		}
		r.entries = append(r.entries, e)
	}
	return true
}
