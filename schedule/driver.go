package schedule

import (
	"slices"

	"reclaim/api"
	"reclaim/machine"
	"reclaim/pool"
)

// driver makes the moves of picks on a machine, and writes them down.
type driver struct {
	machine *machine.Machine
	left    api.Programs // of each thread, the calls that it has yet to make
	script  []api.Move
}

// driverOf is a driver of programs that may be; lengths are those numbers, beside that of the calls, that may not
// be above MaxMoves.
func driverOf(c api.Config, p api.Programs, lengths ...int) (*driver, api.Errno) {
	m, e := pool.New(c)
	if e != api.OK {
		return nil, e
	}
	if slices.Max(append(lengths, callsOf(p))) > api.MaxMoves {
		return nil, api.ErrLong
	}
	if len(p) > c.Threads {
		return nil, api.ErrPlan
	}
	return &driver{machine: m, left: slices.Clone(p)}, api.OK
}

func callsOf(p api.Programs) int {
	calls := 0
	for _, program := range p {
		calls += len(program)
	}
	return calls
}

// active tells whether a thread has something to do.
func (d *driver) active(thread int) bool {
	return d.machine.Busy(thread) || d.waiting(thread)
}

// waiting tells whether a thread has calls left.
func (d *driver) waiting(thread int) bool {
	return 0 <= thread && thread < len(d.left) && len(d.left[thread]) > 0
}

// pick makes the moves of one pick: an idle thread goes on to the next of its calls that begins.
func (d *driver) pick(thread int) {
	for !d.machine.Busy(thread) && d.waiting(thread) {
		d.move(d.next(thread))
	}
	if d.machine.Busy(thread) {
		d.move(api.Move{Thread: thread, Op: api.OpStep})
	}
}

// next takes out the move of the next call that a thread has left.
func (d *driver) next(thread int) api.Move {
	call := d.left[thread][0]
	d.left[thread] = d.left[thread][1:]
	call.Thread = thread
	return call
}

// move makes a move, unless the machine takes no more: then it is none of the script.
func (d *driver) move(mv api.Move) {
	if d.machine.Moves() < api.MaxMoves {
		d.machine.Move(mv)
		d.script = append(d.script, mv)
	}
}

// turn picks each thread that has something to do, but no more than so many; how many picks it made.
func (d *driver) turn(most int) int {
	made := 0
	for thread := range d.left {
		if made < most && d.active(thread) {
			d.pick(thread)
			made++
		}
	}
	return made
}

// told is what the picks came to.
func (d *driver) told() ([]api.Move, api.Run, api.Errno) {
	return d.script, d.machine.Run(), api.OK
}

// refused is what is told beside an error.
func refused(e api.Errno) ([]api.Move, api.Run, api.Errno) {
	return nil, api.Run{}, e
}
