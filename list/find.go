package list

import (
	"reclaim/api"
	"reclaim/chain"
	"reclaim/hazard"
	"reclaim/machine"
	"reclaim/word"
)

// The hazards that the parts use. A slot goes from one to the next as the part goes on; a scan looks
// at them in this order, so that it can't miss one that is on its way.
const (
	hazardBehind = iota // the slot behind the one that is looked at
	hazardLooked        // the slot that is looked at
	hazardAhead         // the slot ahead of it
	hazards             // how many there are
)

// Finding is the part that goes through a list to a key.
type Finding struct {
	line
	next     place
	root     int
	key      int
	at       int    // the address of the word ahead of the slot that is looked at
	saw      uint64 // what was seen there: the link to that slot
	cur      int    // that slot
	link     uint64 // its link
	value    int    // its key
	seen     int    // the move in which its link was seen for the second time, or in which it was taken out
	retiring *hazard.Retiring
	done     bool // it has come to the key's place in the list
	there    bool // the key is there
	point    int
}

// Find makes one, from the word at an address on.
func Find(h *hazard.Hazards, thread int, root int, key int) *Finding {
	return &Finding{line: lineOf(h, thread), next: begin, root: root, key: key}
}

// Ready has nothing to do ahead of an access, but to ask whether there can be one.
func (f *Finding) Ready(*machine.Desk) bool {
	if f == nil {
		return true
	}
	if f.next == begin {
		f.next = over
		if f.holds() && f.has(f.root) {
			f.again()
		}
	}
	return f.next == over
}

// again begins the part anew: what it found out along the way may not be so any more.
func (f *Finding) again() {
	f.next = loadRoot
}

// Step makes an access.
func (f *Finding) Step(d *machine.Desk) bool {
	if f.Ready(d) {
		return true
	}
	switch f.next {
	case loadRoot:
		f.seeRoot(d.Now(), d.Load(f.root))
	case nameFirst:
		d.Store(f.hazardAddr(hazardLooked), f.saw)
		f.next = wordStill
	case wordStill:
		f.goOn(d.Load(f.at) == f.saw, loadLink)
	case loadLink:
		f.link = d.Load(f.linkAddr(f.cur))
		f.next = nameBehind
	case nameBehind:
		d.Store(f.hazardAddr(hazardBehind), f.behind())
		f.next = linkStill
	case linkStill:
		f.seen = d.Now()
		f.goOn(d.Load(f.linkAddr(f.cur)) == f.link, loadValue)
	case loadValue:
		f.value = word.Value(d.Load(f.valueAddr(f.cur)))
		f.next = judgeSlot
	case judgeSlot:
		f.judge(d.Now(), d.Load(f.at))
	case nameAhead:
		d.Store(f.hazardAddr(hazardAhead), chain.Link(f.cur))
		f.next = nameNext
	case nameNext:
		d.Store(f.hazardAddr(hazardLooked), f.saw)
		f.cur = f.slot(f.saw)
		f.next = loadLink
	case unlinkSlot:
		f.unlink(d)
	case retireSlot:
		f.retired(f.retiring.Step(d))
	}
	return f.next == over
}

// seeRoot goes on with the first slot, if there is one.
func (f *Finding) seeRoot(now int, w uint64) {
	f.at, f.saw, f.link = f.root, w, 0
	f.next = nameFirst
	if f.cur = f.slot(w); f.cur == none {
		f.end(false, now)
	}
}

// goOn goes on at a place, if the word that was asked for stands still; else from the root again.
func (f *Finding) goOn(still bool, next place) {
	f.next = next
	if !still {
		f.again()
	}
}

// behind is the link of the slot that is looked at, without its mark.
func (f *Finding) behind() uint64 {
	return chain.Mark(f.link, false)
}

// judge tells what comes of the slot that is looked at, when the word ahead of it was seen again: only
// where that one stands still the slot was in the list all the time.
func (f *Finding) judge(now int, w uint64) {
	switch {
	case w != f.saw:
		f.again()
	case chain.Marked(f.link):
		f.next = unlinkSlot
	case f.value == f.key:
		f.end(true, f.seen)
	case f.value > f.key:
		f.end(false, now)
	default:
		f.pass()
	}
}

// pass goes past a slot whose key is below.
func (f *Finding) pass() {
	f.at, f.saw = f.linkAddr(f.cur), f.link
	f.next = nameAhead
	if f.slot(f.saw) == none {
		f.cur = none
		f.end(false, f.seen)
	}
}

// unlink takes the marked slot out, if nothing has changed ahead of it, and retires it.
func (f *Finding) unlink(d *machine.Desk) {
	if !d.Swap(f.at, f.saw, f.behind()) {
		f.again()
		return
	}
	f.seen = d.Now()
	f.saw = f.behind()
	f.retiring = f.detach(d, f.cur)
	f.next = retireSlot
	f.retired(f.retiring.Ready(d))
}

// detach tells that a slot was taken out of the list, and makes the part that retires it.
func (l line) detach(d *machine.Desk, slot int) *hazard.Retiring {
	l.on.Arena.Shift(d, slot, api.StateDetached)
	return l.on.Hazards.Retire(l.thread, slot)
}

// retired goes on with the slot behind, if the part that retires the marked one has ended.
func (f *Finding) retired(ended bool) {
	if !ended {
		return
	}
	f.next = nameNext
	if f.cur = f.slot(f.saw); f.cur == none {
		f.end(false, f.seen)
	}
}

// end ends the part at the key's place in the list.
func (f *Finding) end(there bool, point int) {
	f.next = over
	f.done, f.there, f.point = true, there, point
}

// came tells whether the part has ended otherwise than when it began.
func (f *Finding) came() bool {
	return f != nil && f.done
}

// Found tells whether the key is there, the slot at which it ended (-1: none), and the point.
func (f *Finding) Found() (bool, int, int) {
	if !f.came() {
		return false, none, none
	}
	return f.there, f.cur, f.point
}

// Before is the address of the word ahead of that slot, and what stood there.
func (f *Finding) Before() (int, uint64) {
	if !f.came() {
		return 0, 0
	}
	return f.at, f.saw
}

// Next is the slot's link, as it was seen.
func (f *Finding) Next() uint64 {
	if !f.came() {
		return 0
	}
	return f.link
}
