package table_test

import (
	"slices"
	"testing"

	"reclaim/api"
	"reclaim/hazard"
	"reclaim/list"
	"reclaim/machine"
	"reclaim/word"
)

// rootAddr is the address of the list's first link.
const rootAddr = 5

// listOps are the list's calls for the table's.
var listOps = map[api.Op]api.Op{api.OpAdd: api.OpInsert, api.OpRemove: api.OpDelete, api.OpGet: api.OpContains}

// listMove is a move with the list's call for the table's.
func listMove(mv api.Move) api.Move {
	if op, of := listOps[mv.Op]; of {
		mv.Op = op
	}
	return mv
}

// listMachine is a machine of the list's calls.
func listMachine(t *testing.T, c api.Config) *machine.Machine {
	t.Helper()
	h := hazard.New(arenaOf(t, c))
	words, _ := word.First(c, 0)
	m, e := machine.New(c.Threads, words, machine.Join(h.Kit(), list.Kit(h)))
	if e != api.OK {
		t.Fatal(e)
	}
	return m
}

// ofData tells whether an access is one of a slot's data.
func ofData(c api.Config, a api.Access) bool {
	first := addrOf(c, api.RegionData, 0, 0)
	return a.Addr >= first && a.Addr < first+c.Slots
}

// asList is a table's run as the list would tell it: its calls are the list's, the bucket's word is Root, and
// no slot has data.
func asList(c api.Config, r api.Run) api.Run {
	for i, call := range r.Calls {
		if op, of := listOps[call.Op]; of {
			r.Calls[i].Op = op
		}
	}
	for i, a := range r.Trace {
		switch {
		case a.Addr == firstRoot:
			r.Trace[i].Addr = rootAddr
		case ofData(c, a):
			r.Trace[i].New = 0
		}
	}
	r.Words[rootAddr], r.Words[firstRoot] = r.Words[firstRoot], r.Words[rootAddr]
	first := addrOf(c, api.RegionData, 0, 0)
	clear(r.Words[first : first+c.Slots])
	return r
}

// loadsData tells whether a table's last access is a load of a slot's data.
func (y *yard) loadsData() bool {
	trace := y.m.Run().Trace
	last := len(trace) - 1
	return last >= 0 && trace[last].Move == y.m.Moves()-1 && trace[last].Kind == api.AccessLoad && ofData(y.c, trace[last])
}

// withoutData leaves those moves out of a script in which a slot's data is loaded, with all further ones of
// that thread: the others go on as long as they can.
func withoutData(t *testing.T, c api.Config, moves []api.Move) []api.Move {
	t.Helper()
	y := yardOf(t, c)
	var kept []api.Move
	waits := map[int]struct{}{}
	for _, mv := range moves {
		if _, waiting := waits[mv.Thread]; waiting {
			continue
		}
		if y.m.Move(mv); !y.loadsData() {
			kept = append(kept, mv)
			continue
		}
		waits[mv.Thread] = struct{}{}
		y = yardOf(t, c)
		for _, mv := range kept {
			y.m.Move(mv)
		}
	}
	return kept
}

// P9.4 (3): with one bucket a table's run, as long as no data is loaded, is the list's, behind every move.
func TestOneBucketIsAList(t *testing.T) {
	met := map[string]int{}
	eachChance(t, 400, func(c api.Config, moves []api.Move) {
		c.Buckets = 1
		y, m := yardOf(t, c), listMachine(t, c)
		for _, mv := range withoutData(t, c, moves) {
			y.m.Move(mv)
			m.Move(listMove(mv))
			wantRun(t, asList(c, y.m.Run()), m.Run())
		}
		noteList(m.Run(), met)
	})
	for _, what := range []string{"a mark", "a slot that is taken out", "a slot that is put in", "yes", "no", "full", "a get on its way"} {
		if met[what] == 0 {
			t.Errorf("no script comes to %s", what)
		}
	}
}

// noteList notes what a list's run has come to.
func noteList(r api.Run, met map[string]int) {
	for _, a := range r.Trace {
		if succeeds(a) && a.New&markBit != 0 && a.New>>33 == 0 && a.Addr > firstRoot {
			met["a mark"]++
		}
	}
	for _, s := range r.Shifts {
		switch s.To {
		case api.StateDetached:
			met["a slot that is taken out"]++
		case api.StateLinked:
			met["a slot that is put in"]++
		}
	}
	for _, call := range r.Calls {
		switch {
		case call.Answer == yes:
			met["yes"]++
		case call.Answer == no:
			met["no"]++
		case call.Answer == full && call.Op == api.OpInsert:
			met["full"]++
		case call.Op == api.OpContains && call.Point >= 0 && call.End < 0:
			met["a get on its way"]++
		}
	}
}

// Beyond: calls one behind the other make the list's accesses and, where they find their keys, the load of
// the slot's data.
func TestOneBucketBeyondTheFirstLoad(t *testing.T) {
	c := configOf(1, 1, 2, 1, 4, 1)
	y, m := yardOf(t, c), listMachine(t, c)
	d := dice(5)
	moves := []api.Move{register(0)}
	for range 300 {
		moves = append(moves, []api.Move{add(0, d.below(6), d.below(99)), remove(0, d.below(6)), get(0, d.below(6))}[d.below(3)])
	}
	loads := 0
	for _, mv := range moves {
		y.call(t, mv)
		for m.Move(listMove(mv)); m.Busy(0); m.Move(step(0)) {
		}
		if y.last(0).Answer.Kind == api.AnswerValue && mv.Op != api.OpRegister {
			loads++
		}
	}
	got, want := asList(c, y.m.Run()), m.Run()
	rest := slices.DeleteFunc(slices.Clone(got.Trace), func(a api.Access) bool { return a.Kind == api.AccessLoad && ofData(c, a) })
	if len(rest) != len(got.Trace)-loads || loads == 0 {
		t.Errorf("%d loads of data, not %d", len(got.Trace)-len(rest), loads)
	}
	for _, trace := range [][]api.Access{rest, want.Trace} {
		for i := range trace {
			trace[i].Move = 0
		}
	}
	if !slices.Equal(rest, want.Trace) || !slices.Equal(got.Words, want.Words) {
		t.Error("the accesses are not the list's")
	}
}
