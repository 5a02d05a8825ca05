package machine

import "reclaim/api"

// Move makes a move, and tells whether it did anything.
func (m *Machine) Move(mv api.Move) bool {
	if !m.made() || m.moves >= api.MaxMoves {
		return false
	}
	now := m.moves
	m.moves++
	switch {
	case !m.has(mv.Thread):
		return false
	case mv.Op == api.OpStep:
		return m.step(mv.Thread, now)
	case m.Busy(mv.Thread):
		return false
	}
	return m.begin(mv, now)
}

func (m *Machine) begin(mv api.Move, now int) bool {
	task := m.kit.begin(mv)
	if task == nil {
		return false
	}
	m.threads[mv.Thread] = thread{task: task, fresh: true, call: m.book.begin(mv, now)}
	return true
}

func (m *Machine) step(number int, now int) bool {
	t := &m.threads[number]
	if t.task == nil {
		return false
	}
	first := t.fresh
	t.fresh = false
	b := &bench{book: m.book, thread: t, number: number, now: now}
	ended := work(t.task, first, &Desk{b})
	// A task that has kept its desk finds nothing at it behind the step.
	*b = bench{}
	if ended {
		m.book.end(t.call, now, t.told)
		*t = thread{call: t.call}
	}
	return true
}
