package judge

import (
	"slices"

	"pinfold/api"
	"pinfold/near"
	"pinfold/topo"
)

// lock is what a row of events tells of one so far.
type lock struct {
	socket int         // of its last own
	stays  int         // how often, one behind the other, it was handed on within that
	waits  map[int]int // in which socket each task waits for it that does
	rows   map[int]int // how many tasks wait in each socket
}

// newLock is one of which nothing was told.
func newLock() *lock {
	return &lock{socket: none, waits: map[int]int{}, rows: map[int]int{}}
}

// come lets a task wait in the socket; of several waits the last one counts.
func (k *lock) come(task, socket int) {
	k.leave(task)
	k.waits[task] = socket
	k.rows[socket]++
}

// leave lets a task wait no more, and tells whether it did.
func (k *lock) leave(task int) bool {
	socket, waited := k.waits[task]
	if waited {
		delete(k.waits, task)
		k.rows[socket]--
	}
	return waited
}

// own lets a task have the lock in the socket, and tells whether it should have gone to another one.
func (k *lock) own(task, socket int) bool {
	if waited := k.leave(task); waited && socket == k.socket {
		k.stays++
	} else {
		k.stays = 0
	}
	k.socket = socket
	return k.stays > api.Budget && len(k.waits) > k.rows[socket]
}

// Budget is the place of the first own by which a lock stays in a socket too often, while a task of another one waits for it.
func Budget(t api.Topo, l []api.Event) int {
	locks := map[int]*lock{}
	find := func(n int) *lock {
		if _, told := locks[n]; !told {
			locks[n] = newLock()
		}
		return locks[n]
	}
	return slices.IndexFunc(l, func(e api.Event) bool {
		switch {
		case e.Kind == api.EvWait && e.A == api.Blocked:
			find(e.B).come(e.Task, socketOf(t, e.Cpu))
		case e.Kind == api.EvOwn:
			return find(e.A).own(e.Task, e.B)
		}
		return false
	})
}

// socketOf is the socket of the worker's leaf; 0, if t doesn't have the worker, as the leaf told then is the whole.
func socketOf(t api.Topo, cpu int) int {
	leaf, _ := topo.Leaf(t, cpu)
	return near.Socket(t, leaf)
}
