package split

import (
	"reclaim/course"
	"reclaim/list"
	"reclaim/machine"
)

// walk is a thread's way along the list.
type walk struct {
	course.Course
	*ground
	thread  int
	root    int           // the address of the word that it begins with
	finding *list.Finding // the last part Find
}

// find goes on with a part Find of a place, from the root on, and then with what comes behind it.
func (w *walk) find(d *machine.Desk, place int, then func(d *machine.Desk)) {
	w.finding = list.Find(w.Hazards, w.thread, w.root, place)
	w.Through(d, w.finding, then)
}

// slot is the one that the last part Find ended at.
func (w *walk) slot() int {
	_, slot, _ := w.finding.Found()
	return slot
}
