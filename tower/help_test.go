package tower_test

import (
	"slices"
	"strings"
	"testing"

	"reclaim/api"
	"reclaim/pool"
	"reclaim/tower"
	"reclaim/word"
)

const (
	least    = -1 << 63
	greatest = 1<<63 - 1
)

// Configurations.

// machine is the line of the chapter's examples.
const machine = "machine threads 1 records 1 hazards 3 retire 1 cache 0 slots 2 buckets 1\n"

func configOf(threads, records, hazards, retire, cache, slots, buckets int) api.Config {
	return api.Config{Threads: threads, Records: records, Hazards: hazards, Retire: retire, Cache: cache, Slots: slots, Buckets: buckets}
}

// tiny is what machine tells.
func tiny() api.Config { return configOf(1, 1, 3, 1, 0, 2, 1) }

// small has two threads and a few slots.
func small() api.Config { return configOf(2, 2, 3, 1, 1, 6, 2) }

// badConfigs has, for each number, configurations in which just that one is out of its limits.
func badConfigs() []api.Config {
	out := []api.Config{{}}
	limits := [7][2]int{{1, 16}, {1, 16}, {3, 8}, {1, 1024}, {0, 64}, {1, 1024}, {1, 64}}
	for i, limit := range limits {
		for _, n := range []int{limit[0] - 1, limit[1] + 1, least, greatest, 1<<32 + limit[0]} {
			l := [7]int{2, 2, 3, 1, 1, 6, 2}
			l[i] = n
			out = append(out, configOf(l[0], l[1], l[2], l[3], l[4], l[5], l[6]))
		}
	}
	return out
}

func addrOf(c api.Config, r api.Region, i, k int) int {
	addr, _ := word.Addr(c, api.Place{Region: r, I: i, K: k})
	return addr
}

// link is the plain link to a slot.
func link(slot int) uint64 { return uint64(slot + 1) }

// Answers.

func value(v int) api.Answer { return api.Answer{Kind: api.AnswerValue, Value: v} }

var (
	done  = api.Answer{Kind: api.AnswerDone}
	empty = api.Answer{Kind: api.AnswerEmpty}
	full  = api.Answer{Kind: api.AnswerFull}
	yes   = api.Answer{Kind: api.AnswerYes}
	no    = api.Answer{Kind: api.AnswerNo}
)

// Calls.

// call is one that has ended; its point is -1, if it has none.
func call(thread int, op api.Op, arg, begin, end, point int, a api.Answer) api.Call {
	return api.Call{Thread: thread, Op: op, Arg: arg, Begin: begin, End: end, Point: point, Answer: a}
}

// open is one that has not ended and has no point.
func open(thread int, op api.Op, arg, begin int) api.Call {
	return api.Call{Thread: thread, Op: op, Arg: arg, Begin: begin, End: -1, Point: -1}
}

// Runs by hand.

// tale is a run that is written by hand; its parts go together if its moves and threads do.
type tale struct {
	c      api.Config
	r      api.Run
	states []api.State
}

func taleOf(c api.Config, calls ...api.Call) *tale {
	words, _ := word.First(c, 1)
	x := &tale{c: c, r: api.Run{Calls: calls, Words: words}, states: make([]api.State, c.Slots)}
	x.states[0] = api.StateLinked
	return x
}

// two is a tale of the small machine in which both threads are in a call from moves 0 and 1 on.
func two() *tale { return taleOf(small(), open(0, 77, 0, 0), open(1, 77, 0, 1)) }

func (x *tale) load(move, thread, addr int) *tale {
	x.r.Trace = append(x.r.Trace, api.Access{Move: move, Thread: thread, Kind: api.AccessLoad, Addr: addr, Saw: x.r.Words[addr]})
	return x
}

func (x *tale) store(move, thread, addr int, w uint64) *tale {
	x.r.Trace = append(x.r.Trace, api.Access{Move: move, Thread: thread, Kind: api.AccessStore, Addr: addr, New: w})
	x.r.Words[addr] = w
	return x
}

// shift lets a slot go, in one move, from the state that it is in to others.
func (x *tale) shift(move, thread, slot int, to ...api.State) *tale {
	for _, s := range to {
		x.r.Shifts = append(x.r.Shifts, api.Shift{Move: move, Thread: thread, Slot: slot, From: x.states[slot], To: s})
		x.states[slot] = s
	}
	return x
}

// Runs of scripts.

// played is the run of a script that may be, as a tale.
func played(t *testing.T, c api.Config, moves []api.Move) *tale {
	t.Helper()
	r, e := pool.Play(c, moves)
	if e != api.OK {
		t.Fatalf("pool.Play of %d moves: %d", len(moves), e)
	}
	return &tale{c: c, r: r}
}

// Asking.

// reported is the transcript of a run that has one.
func (x *tale) reported(t *testing.T) string {
	t.Helper()
	text, e := tower.Report(x.c, x.r)
	if e != api.OK || text == "" {
		t.Fatalf("Report of %+v: %q, %d", brief(x.r), short(text), e)
	}
	return text
}

// wantText asks for a transcript.
func (x *tale) wantText(t *testing.T, what string, want string) {
	t.Helper()
	if text, e := tower.Report(x.c, x.r); e != api.OK || text != want {
		t.Errorf("%s: %d\n%s, not\n%s", what, e, short(text), short(want))
	}
}

// wantLines asks for just these lines of those that begin with a word.
func (x *tale) wantLines(t *testing.T, what string, first string, want ...string) {
	t.Helper()
	if got := linesOf(x.reported(t), first); !slices.Equal(got, want) {
		t.Errorf("%s: %q, not %q", what, got, want)
	}
}

// wantRefused asks for an error, with nothing beside it.
func (x *tale) wantRefused(t *testing.T, what string, e api.Errno) {
	t.Helper()
	if text, got := tower.Report(x.c, x.r); got != e || text != "" {
		t.Errorf("%s: %q, %d, not %d", what, short(text), got, e)
	}
}

// linesOf are the lines of a text that begin with a word.
func linesOf(text string, first string) []string {
	var out []string
	for line := range strings.Lines(text) {
		if strings.HasPrefix(line, first+" ") {
			out = append(out, strings.TrimSuffix(line, "\n"))
		}
	}
	return out
}

// ran is the transcript of a text that has one.
func ran(t *testing.T, text string) string {
	t.Helper()
	got, line, e := tower.Run(text)
	if e != api.OK || line != 0 || got == "" {
		t.Fatalf("%q: %q, %d, %d", short(text), short(got), line, e)
	}
	return got
}

// wantRun asks for the transcript of a text.
func wantRun(t *testing.T, text string, want string) {
	t.Helper()
	if got, line, e := tower.Run(text); e != api.OK || line != 0 || got != want {
		t.Errorf("%q: %d, %d\n%s, not\n%s", short(text), line, e, short(got), short(want))
	}
}

// wantNoRun asks for an error with its line, and for no transcript.
func wantNoRun(t *testing.T, text string, line int, e api.Errno) {
	t.Helper()
	if got, at, err := tower.Run(text); got != "" || at != line || err != e {
		t.Errorf("%q: %q, line %d, %d, not line %d, %d", short(text), short(got), at, err, line, e)
	}
}

func short(text string) string {
	if len(text) > 2000 {
		return text[:1000] + " .. " + text[len(text)-1000:]
	}
	return text
}

// brief is a run that is short enough to be printed.
func brief(r api.Run) api.Run {
	return api.Run{Calls: r.Calls[:min(len(r.Calls), 9)], Trace: r.Trace[:min(len(r.Trace), 20)], Shifts: r.Shifts[:min(len(r.Shifts), 9)], Words: r.Words[:min(len(r.Words), 40)]}
}
