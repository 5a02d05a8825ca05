package explore

import (
	"reclaim/api"
	"reclaim/machine"
	"reclaim/pool"
)

// walk is a run on its way.
type walk struct {
	machine  *machine.Machine
	programs api.Programs
	next     []int // of each thread, the number of its next call
	began    []int // of each call that began behind the registers, its place among all calls of the programs
	picks    []int
	switches int
}

// begin is a run of programs that may be, up to its first pick.
func begin(c api.Config, p api.Programs) *walk {
	m, _ := pool.New(c)
	w := &walk{machine: m, programs: p, next: make([]int, len(p))}
	for thread := range len(p) {
		m.Move(api.Move{Thread: thread, Op: api.OpRegister})
		for m.Busy(thread) {
			w.step(thread)
		}
	}
	return w
}

func (w *walk) step(thread int) {
	w.machine.Move(api.Move{Thread: thread, Op: api.OpStep})
}

// waiting tells whether a thread has calls left.
func (w *walk) waiting(thread int) bool { return w.next[thread] < len(w.programs[thread]) }

// active tells whether a thread has something to do.
func (w *walk) active(thread int) bool { return w.machine.Busy(thread) || w.waiting(thread) }

// turns is how many switches a pick of a thread makes: one or none.
func (w *walk) turns(thread int) int {
	if len(w.picks) == 0 {
		return 0
	}
	last := w.picks[len(w.picks)-1]
	if last == thread || !w.active(last) {
		return 0
	}
	return 1
}

// options are the threads that can be picked next, if there may be so many switches.
func (w *walk) options(most int) []int {
	var options []int
	for thread := range len(w.programs) {
		if w.active(thread) && w.switches+w.turns(thread) <= most {
			options = append(options, thread)
		}
	}
	return options
}

// pick makes a pick, unless the thread has nothing to do: an idle one goes on to the next of its calls that begins.
func (w *walk) pick(thread int) {
	if !w.active(thread) {
		return
	}
	w.switches += w.turns(thread)
	w.picks = append(w.picks, thread)
	for !w.machine.Busy(thread) && w.waiting(thread) {
		w.call(thread)
	}
	if w.machine.Busy(thread) {
		w.step(thread)
	}
}

// call makes the move of the next call that a thread has left, whether that begins or not.
func (w *walk) call(thread int) {
	number := w.next[thread]
	w.next[thread]++
	mv := w.programs[thread][number]
	mv.Thread = thread
	w.machine.Move(mv)
	if w.machine.Busy(thread) {
		w.began = append(w.began, callsOf(w.programs[:thread])+number)
	}
}
