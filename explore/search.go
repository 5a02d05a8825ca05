package explore

import "reclaim/api"

// search goes through the runs of some programs, in their order.
type search struct {
	config   api.Config
	programs api.Programs
	most     int // switches
	runs     int
	whole    func(number int, w *walk) // what is done with each run
}

// eachRun hands out all runs, by their numbers, and answers how many there are.
func eachRun(c api.Config, p api.Programs, switches int, whole func(number int, w *walk)) (int, api.Errno) {
	if e := refusal(c, p, false, switches < 0 || switches > api.MaxSwitch); e != api.OK {
		return 0, e
	}
	s := &search{config: c, programs: p, most: switches, whole: whole}
	if e := s.all(); e != api.OK {
		return 0, e
	}
	return s.runs, api.OK
}

// all goes through all runs. One that is above the budget leaves by a panic, from however deep within the picks.
func (s *search) all() (e api.Errno) {
	defer func() {
		switch left := recover(); left {
		case nil:
		case api.ErrBudget:
			e = api.ErrBudget
		default:
			panic(left)
		}
	}()
	s.onward(begin(s.config, s.programs))
	return api.OK
}

// onward goes through all runs that begin as a walk does.
func (s *search) onward(w *walk) {
	options := w.options(s.most)
	if len(options) == 0 {
		s.end(w)
		return
	}
	made := len(w.picks)
	for i, thread := range options {
		if i > 0 {
			w = s.again(w.picks[:made]) // a machine has no way back
		}
		w.pick(thread)
		s.onward(w)
	}
}

// again is a new walk that has made the same picks.
func (s *search) again(picks []int) *walk {
	w := begin(s.config, s.programs)
	for _, thread := range picks {
		w.pick(thread)
	}
	return w
}

// end is come to by each whole run.
func (s *search) end(w *walk) {
	if s.runs == api.MaxRuns {
		panic(api.ErrBudget)
	}
	s.whole(s.runs, w)
	s.runs++
}
