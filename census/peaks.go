package census

import "reclaim/api"

// Peaks are the run's greatest numbers.
func Peaks(c api.Config, used int, r api.Run) (api.Peaks, api.Errno) {
	s, e := read(c, used, r)
	if e != api.OK {
		return api.Peaks{}, e
	}
	m := &meter{slots: slotsOf(c, used)}
	m.measure(event{})
	table{
		opens:    {m.start},
		begins:   {m.begin},
		accesses: {m.count},
		shifts:   {s.turning(m.slots), m.measure},
		ends:     {m.count},
		closes:   {m.close},
	}.watch(s.events)
	return m.peaks, api.OK
}

// meter keeps a run's greatest numbers.
type meter struct {
	moment
	slots *slots
	gap   int                 // the steps since one in which a call ended
	steps [api.MaxThreads]int // of each thread's last call
	peaks api.Peaks
}

func (m *meter) measure(event) bool {
	now, most := m.slots.counts, &m.peaks
	most.Cached = max(most.Cached, now[api.StateCached])
	most.Owned = max(most.Owned, now[api.StateOwned])
	most.Linked = max(most.Linked, now[api.StateLinked])
	most.Detached = max(most.Detached, now[api.StateDetached])
	most.Retired = max(most.Retired, now[api.StateRetired])
	return true
}

func (m *meter) begin(e event) bool {
	m.steps[e.thread] = 0
	return true
}

// close counts a move that was a step.
func (m *meter) close(e event) bool {
	if m.counts[accesses] == 0 && m.counts[ends] == 0 {
		return true
	}
	m.steps[e.thread]++
	m.gap++
	if m.counts[ends] > 0 {
		m.gap = 0
	}
	m.peaks.Steps = max(m.peaks.Steps, m.steps[e.thread])
	m.peaks.Gap = max(m.peaks.Gap, m.gap)
	return true
}
