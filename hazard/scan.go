package hazard

import "reclaim/machine"

// Scanning is the part that frees what no hazard names.
type Scanning struct {
	hazards *Hazards
	thread  int
	next    place
	record  int              // the thread's
	other   int              // the record that is helped, or looked at
	k       int              // the hazard of it that is looked at
	unnamed map[int]struct{} // the list's slots that no hazard has named so far
	gives   []piece          // the pending slots, each with the part that gives it
}

// Scan makes one.
func (h *Hazards) Scan(thread int) *Scanning {
	if !h.made() {
		return &Scanning{}
	}
	return &Scanning{hazards: h, thread: thread, next: findRecord}
}

// Ready begins.
func (s *Scanning) Ready(d *machine.Desk) bool {
	return s == nil || s.run(readying(d))
}

// Step makes an access.
func (s *Scanning) Step(d *machine.Desk) bool {
	return s == nil || s.run(stepping(d))
}

// run takes the scan up where it was left, goes on as far as the turn lets it, and tells whether
// the part has ended.
func (s *Scanning) run(now *turn) bool {
	switch s.next {
	case findRecord:
		if s.record = s.hazards.Record(s.thread); s.record == none {
			s.next = over
			return true
		}
		s.next = loadActive
		fallthrough
	case loadActive, swapActive, storeActive:
		if !s.help(now) {
			return false
		}
		if len(s.hazards.lists[s.record]) == 0 {
			s.next = over
			return true
		}
		s.gather()
		s.next = loadHazard
		fallthrough
	case loadHazard:
		if !s.look(now) {
			return false
		}
		s.split()
		s.next = givePending
		fallthrough
	case givePending:
		if !s.free(now) {
			return false
		}
		s.next = over
		fallthrough
	default:
		return true
	}
}

// help takes over the lists of the other records that nobody holds, and tells whether all were
// tried.
func (s *Scanning) help(now *turn) bool {
	h := s.hazards
	for ; h.hasRecord(s.other); s.another() {
		if s.other == s.record {
			continue
		}
		switch s.next {
		case loadActive:
			if !now.access() {
				return false
			}
			if now.Load(h.activeAddr(s.other)) == taken {
				continue
			}
			s.next = swapActive
			fallthrough
		case swapActive:
			if !now.access() {
				return false
			}
			if !now.Swap(h.activeAddr(s.other), idle, taken) {
				continue
			}
			s.adopt()
			s.next = storeActive
			fallthrough
		case storeActive:
			if !now.access() {
				return false
			}
			now.Store(h.activeAddr(s.other), idle)
		}
	}
	return true
}

// another goes on with the record behind.
func (s *Scanning) another() {
	s.other++
	s.next = loadActive
}

// adopt puts the list of a record that nobody holds behind the own one.
func (s *Scanning) adopt() {
	h := s.hazards
	h.lists[s.record] = append(h.lists[s.record], h.lists[s.other]...)
	h.lists[s.other] = nil
}

// gather begins the look with all slots of the list.
func (s *Scanning) gather() {
	s.other, s.k = 0, 0
	s.unnamed = map[int]struct{}{}
	for _, slot := range s.hazards.lists[s.record] {
		s.unnamed[slot] = struct{}{}
	}
}

// look strikes out what the hazards name, and tells whether all were looked at.
func (s *Scanning) look(now *turn) bool {
	h := s.hazards
	for h.hasRecord(s.other) {
		if !now.access() {
			return false
		}
		delete(s.unnamed, h.slotOf(now.Load(h.hazardAddr(s.other, s.k))))
		if s.k++; s.k == h.config().Hazards {
			s.other, s.k = s.other+1, 0
		}
	}
	return true
}

// split keeps the named slots in the list; the others are pending.
func (s *Scanning) split() {
	h := s.hazards
	var named []int
	for _, slot := range h.lists[s.record] {
		if _, ok := s.unnamed[slot]; ok {
			s.gives = append(s.gives, pieceOf(h.arena.Give(s.thread, slot)))
		} else {
			named = append(named, slot)
		}
	}
	h.lists[s.record] = named
}

// free gives the pending slots back, one after the other, and tells whether all are.
func (s *Scanning) free(now *turn) bool {
	for len(s.gives) > 0 {
		if !now.through(&s.gives[0]) {
			return false
		}
		s.gives = s.gives[1:]
	}
	return true
}
