package memory

import "reclaim/api"

// Load reads a word.
func (m *Memory) Load(thread int, addr int) (uint64, api.Errno) {
	if !m.has(addr) {
		return 0, api.ErrAddr
	}
	saw := m.words[addr]
	m.note(api.Access{Thread: thread, Kind: api.AccessLoad, Addr: addr, Saw: saw})
	return saw, api.OK
}

// Store writes a word.
func (m *Memory) Store(thread int, addr int, w uint64) api.Errno {
	if !m.has(addr) {
		return api.ErrAddr
	}
	m.note(api.Access{Thread: thread, Kind: api.AccessStore, Addr: addr, New: w})
	m.write(addr, w)
	return api.OK
}

// Swap writes a word, if the old one stands there: what stood there, and whether it did.
func (m *Memory) Swap(thread int, addr int, old uint64, w uint64) (uint64, bool, api.Errno) {
	if !m.has(addr) {
		return 0, false, api.ErrAddr
	}
	saw := m.words[addr]
	m.note(api.Access{Thread: thread, Kind: api.AccessSwap, Addr: addr, Old: old, New: w, Saw: saw})
	if saw != old {
		return saw, false, api.OK
	}
	m.write(addr, w)
	return saw, true, api.OK
}

// has is false of a nil memory too, so that what asks it first may go on to the fields.
func (m *Memory) has(addr int) bool {
	return 0 <= addr && addr < m.Size()
}

func (m *Memory) note(a api.Access) {
	a.Move = m.move
	m.log = append(m.log, a)
}

func (m *Memory) write(addr int, w uint64) {
	m.ahead = append(m.ahead, m.words[addr])
	m.words[addr] = w
}

// isWrite tells whether an access wrote its word: just of those the memory keeps what stood ahead.
func isWrite(a api.Access) bool {
	return a.Kind == api.AccessStore || a.Kind == api.AccessSwap && a.Saw == a.Old
}
