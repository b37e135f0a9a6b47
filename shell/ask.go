package shell

import (
	"strconv"
	"strings"

	"pinfold/api"
	"pinfold/cpuset"
	"pinfold/event"
	"pinfold/judge"
	"pinfold/plan"
	"pinfold/topo"
)

// ask answers a line that is no entry.
func (s *Shell) ask(word, rest string) string {
	switch word {
	case "online":
		return cpuset.Print(s.machine.Online())
	case "loads":
		return numbers(" ", s.machine.Loads()...)
	case "time":
		return strconv.Itoa(s.machine.Time())
	case "tasks":
		return strconv.Itoa(s.machine.Tasks())
	case "running":
		return s.running()
	case "waits":
		return strconv.Itoa(s.waits())
	case "judge":
		return s.judge()
	case "text":
		return s.text()
	case "undo":
		return s.undo()
	case "domains":
		return s.names()
	}
	n, err := strconv.Atoi(rest)
	if err != nil || strconv.Itoa(n) != rest {
		return unknown
	}
	return s.askOf(word, n)
}

// askOf answers a line that asks of the thing of that number.
func (s *Shell) askOf(word string, n int) string {
	switch word {
	case "task":
		return s.task(n)
	case "queue":
		return s.queue(n)
	case "lock":
		return s.lock(n)
	case "bubble":
		return s.bubble(n)
	case "leaf":
		return s.leaf(n)
	case "encode":
		return s.program(n)
	}
	return unknown
}

// task is a task's fields.
func (s *Shell) task(id int) string {
	x, is := s.machine.Task(id)
	if !is {
		return unknown
	}
	fields := []int{x.Prog, x.Pc, x.Prio, x.Pin, x.Bubble, x.State, x.On, x.Last}
	for _, r := range x.Regs {
		fields = append(fields, int(r))
	}
	return words(numbers(" ", fields...), cpuset.Print(s.machine.Mask(id)))
}

// queue is the tasks that wait in a domain's queue.
func (s *Shell) queue(d int) string {
	if d < 0 || d >= len(s.tree.Domains) {
		return unknown
	}
	var l []string
	for _, r := range s.machine.Queue(d) {
		l = append(l, numbers(":", r.Task, r.Prio, r.Stamp))
	}
	return words(l...)
}

// lock is who has a lock, and who waits for it.
func (s *Shell) lock(n int) string {
	owner, waiting, is := s.machine.Lock(n)
	if !is {
		return unknown
	}
	return numbers(" ", append([]int{owner}, waiting...)...)
}

// bubble is where a bubble is, and its state.
func (s *Shell) bubble(b int) string {
	x, is := s.machine.Bubble(b)
	if !is {
		return unknown
	}
	return numbers(" ", x.Up, x.State, x.Home)
}

// leaf is the leaf that has a worker.
func (s *Shell) leaf(cpu int) string {
	d, is := topo.Leaf(s.tree, cpu)
	if !is {
		return unknown
	}
	return strconv.Itoa(d) + ":" + s.tree.Domains[d].Name
}

// running is the workers that run a task, with it.
func (s *Shell) running() string {
	var l []string
	for _, cpu := range cpuset.List(s.machine.Online()) {
		if id, is := s.machine.Running(cpu); is {
			l = append(l, numbers(":", cpu, id))
		}
	}
	return words(l...)
}

// waits is how many tasks wait in all queues.
func (s *Shell) waits() int {
	var queues [][]api.Ready
	for d := range s.tree.Domains {
		queues = append(queues, s.machine.Queue(d))
	}
	return plan.Waits(s.tree, 0, queues)
}

// judge is what is wrong with all that was told, and where.
func (s *Shell) judge() string {
	s.hear() // what others did with the machine is told, too
	fault, at := judge.Judge(s.tree, s.config, s.told)
	return numbers(" ", fault, at)
}

// numbers is decimal numbers, with sep between two.
func numbers(sep string, l ...int) string {
	var texts []string
	for _, n := range l {
		texts = append(texts, strconv.Itoa(n))
	}
	return strings.Join(texts, sep)
}

// words is texts with a blank between two.
func words(l ...string) string { return strings.Join(l, " ") }

// lines is events, each on a line.
func lines(l ...api.Event) string { return unended(event.PrintAll(l)) }
