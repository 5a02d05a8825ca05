package census

import (
	"slices"

	"reclaim/api"
)

// May tells whether a run's parts go together.
func May(c api.Config, used int, r api.Run) bool {
	_, e := read(c, used, r)
	return e == api.OK
}

// judge holds a run's events against one another.
type judge struct {
	moment
	story
	words  []uint64 // as the accesses have left them so far
	slots  *slots
	told   [kinds]int           // how many events of each kind there were
	thread int                  // whose the move is
	busy   [api.MaxThreads]bool // which threads are in a call
}

// goesTogether tells whether the run's parts go together, over a memory of these words.
func (s story) goesTogether(words []uint64) bool {
	for _, c := range s.run.Calls {
		if !within(c.Thread, s.c.Threads) || !timely(c) || !answered(c) {
			return false
		}
	}
	j := &judge{story: s, words: words, slots: slotsOf(s.c, s.used)}
	return j.table().watch(s.events) && slices.Equal(j.words, s.run.Words)
}

func (j *judge) table() table {
	return table{
		opens:    {j.start, j.open},
		begins:   {j.count, j.ofOne, j.inOrder, j.begin},
		accesses: {j.count, j.ofOne, j.inOrder, j.inCall, j.access},
		shifts:   {j.count, j.ofOne, j.inOrder, j.inCall, j.shift},
		ends:     {j.count, j.ofOne, j.end},
		closes:   {j.close},
	}
}

// timely tells whether a call's times may be, whatever others there are.
func timely(c api.Call) bool {
	if c.Begin < 0 || ended(c) && c.End <= c.Begin {
		return false
	}
	if c.Point == never {
		return true
	}
	return c.Point > c.Begin && (!ended(c) || c.Point <= c.End)
}

// answered tells whether a call's answer is such as calls have.
func answered(c api.Call) bool {
	kind := c.Answer.Kind
	if kind < api.AnswerNone || kind > api.AnswerNo {
		return false
	}
	if ended(c) == (kind == api.AnswerNone) {
		return false
	}
	return kind == api.AnswerValue || c.Answer.Value == 0
}

func (j *judge) open(e event) bool {
	j.thread = e.thread
	return true
}

// ofOne tells whether a move is still one thread's alone.
func (j *judge) ofOne(e event) bool { return e.thread == j.thread }

// inOrder tells whether an event stands in its list where its move puts it.
func (j *judge) inOrder(e event) bool {
	j.told[e.kind]++
	return e.number == j.told[e.kind]-1
}

// close tells whether a move has just what one move can have: a call that begins and nothing beside it, or one access
// at most.
func (j *judge) close(event) bool {
	all := 0
	for _, n := range j.counts {
		all += n
	}
	return j.counts[accesses] <= 1 && (j.counts[begins] == 0 || all == 1)
}

func (j *judge) begin(e event) bool {
	was := j.busy[e.thread]
	j.busy[e.thread] = true
	return !was
}

func (j *judge) end(e event) bool {
	j.busy[e.thread] = false
	return true
}

func (j *judge) inCall(e event) bool { return within(e.thread, j.c.Threads) && j.busy[e.thread] }

// access plays an access, if it may be.
func (j *judge) access(e event) bool {
	a := j.run.Trace[e.number]
	if !bare(a) || !within(a.Addr, len(j.words)) {
		return false
	}
	if a.Kind != api.AccessStore && a.Saw != j.words[a.Addr] {
		return false
	}
	if writes(a) {
		j.words[a.Addr] = a.New
	}
	return true
}

// bare tells whether an access is of a kind that there is, and has nothing that its kind doesn't use.
func bare(a api.Access) bool {
	switch a.Kind {
	case api.AccessLoad:
		return a.Old == 0 && a.New == 0
	case api.AccessStore:
		return a.Old == 0 && a.Saw == 0
	}
	return a.Kind == api.AccessSwap
}

func writes(a api.Access) bool {
	return a.Kind == api.AccessStore || a.Kind == api.AccessSwap && a.Saw == a.Old
}

// shift makes a shift, if it may be.
func (j *judge) shift(e event) bool {
	x := j.run.Shifts[e.number]
	if !within(x.Slot, j.c.Slots) || !within(int(x.To), states) || x.From != j.slots.states[x.Slot] {
		return false
	}
	j.slots.turn(x)
	return true
}
