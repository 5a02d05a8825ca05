package memory

import (
	"iter"
	"slices"

	"reclaim/api"
)

// none stands for the thread and the access of a word that was never written.
const none = -1

// Count tells how many accesses the log has.
func (m *Memory) Count() int {
	if m == nil {
		return 0
	}
	return len(m.log)
}

// Log hands out the log from an access on, each access with its number.
func (m *Memory) Log(from int) iter.Seq2[int, api.Access] {
	return func(yield func(int, api.Access) bool) {
		if m == nil {
			return
		}
		// What is ranged over stays as it is now: accesses are only added behind it, and behind
		// a Back they lie in new memory.
		log := m.log
		for i := max(from, 0); i < len(log); i++ {
			if !yield(i, log[i]) {
				return
			}
		}
	}
}

// Back takes accesses back, the last one first, until the log has count of them.
func (m *Memory) Back(count int) api.Errno {
	if count < 0 || count > m.Count() {
		return api.ErrBack
	}
	if m == nil {
		return api.OK
	}
	left := len(m.ahead)
	for _, a := range slices.Backward(m.log[count:]) {
		if isWrite(a) {
			left--
			m.words[a.Addr] = m.ahead[left]
		}
	}
	// Without spare room, so that the accesses to come don't write over what a ranging still holds.
	m.log = m.log[:count:count]
	m.ahead = m.ahead[:left:left]
	return api.OK
}

// Writer is the thread that wrote a word last, and the log's number of that access; -1, -1: none.
func (m *Memory) Writer(addr int) (int, int, api.Errno) {
	if !m.has(addr) {
		return 0, 0, api.ErrAddr
	}
	thread, number := none, none
	for i, a := range m.Log(0) {
		if a.Addr == addr && isWrite(a) {
			thread, number = a.Thread, i
		}
	}
	return thread, number, api.OK
}
