package tower_test

import (
	"fmt"
	"slices"
	"strings"
	"testing"

	"reclaim/api"
	"reclaim/census"
	"reclaim/pool"
	"reclaim/script"
	"reclaim/tower"
	"reclaim/witness"
	"reclaim/word"
)

// A second report, written part by part after the chapter's words, that has no call of the first one.

// plainErrno is the error of Report; OK: the run has a transcript, unless that is too long.
func plainErrno(c api.Config, r api.Run) api.Errno {
	if word.Check(c) != api.OK {
		return api.ErrConfig
	}
	if !census.May(c, 1, r) {
		return api.ErrRun
	}
	_, look := pool.Look(c, r.Words)
	_, list := pool.Free(c, r.Words)
	if look != api.OK || list != api.OK {
		return api.ErrShape
	}
	return api.OK
}

// plainReport is the transcript of a run that has one.
func plainReport(c api.Config, r api.Run) string {
	var b strings.Builder
	fmt.Fprintf(&b, "machine threads %d records %d hazards %d retire %d cache %d slots %d buckets %d\n", c.Threads, c.Records, c.Hazards, c.Retire, c.Cache, c.Slots, c.Buckets)
	for i, call := range r.Calls {
		fmt.Fprintf(&b, "call %d thread %d %s begin %s end %s point %s %s\n", i, call.Thread, plainWhat(call), plainTime(call.Begin), plainTime(call.End), plainTime(call.Point), plainAnswer(call.Answer))
	}
	order, explains := plainOrder(r.Calls)
	fmt.Fprintf(&b, "order %s %s\n", plainList(order), explains)
	held, _ := pool.Look(c, r.Words)
	fmt.Fprintf(&b, "cell %s\nstack %s\nqueue %s\nset %s\ntable %s\n", plainList(held.Cell), plainList(held.Stack), plainList(held.Queue), plainList(held.Set), plainPairs(held.Table))
	list, _ := pool.Free(c, r.Words)
	fmt.Fprintf(&b, "free %s\n", plainList(list))
	states, holders, _ := census.States(c, 1, r, greatest)
	for _, x := range r.Shifts {
		if x.Move == greatest { // ahead of no move
			states[x.Slot], holders[x.Slot] = x.To, x.Thread
		}
	}
	for slot, state := range states {
		if name := [...]string{"", "cached", "owned", "", "detached", "retired"}[state]; name != "" {
			fmt.Fprintf(&b, "slot %d %s thread %d\n", slot, name, holders[slot])
		}
	}
	faults, _ := census.Faults(c, 1, r)
	for _, f := range faults {
		fmt.Fprintf(&b, "fault %s move %d slot %d\n", [...]string{1: "free", 2: "foreign", 3: "shift", 4: "hazard"}[f.Kind], f.Move, f.Slot)
	}
	dishonest, _ := census.Dishonest(c, 1, r)
	fmt.Fprintf(&b, "dishonest %s\n", plainList(dishonest))
	p, _ := census.Peaks(c, 1, r)
	fmt.Fprintf(&b, "peaks cached %d owned %d linked %d detached %d retired %d gap %d steps %d\n", p.Cached, p.Owned, p.Linked, p.Detached, p.Retired, p.Gap, p.Steps)
	listed, _ := census.Listed(c)
	retired, _ := census.Retired(c)
	solo, _ := census.Solo(c)
	window, _ := census.Window(c)
	fmt.Fprintf(&b, "bounds listed %d retired %d solo %d window %d\n", listed, retired, solo, window)
	fmt.Fprintf(&b, "made %d calls, %d accesses, %d shifts\n", len(r.Calls), len(r.Trace), len(r.Shifts))
	return b.String()
}

// plainWhat asks for how many numbers stand behind a word by what scripts may have.
func plainWhat(c api.Call) string {
	name := script.Word(c.Op)
	if name == "" {
		return fmt.Sprintf("op %d %d %d", c.Op, c.Arg, c.Data)
	}
	for _, what := range []string{name, fmt.Sprintf("%s %d", name, c.Arg), fmt.Sprintf("%s %d %d", name, c.Arg, c.Data)} {
		if _, _, _, e := script.Parse(machine + "0 " + what); e == api.OK {
			return what
		}
	}
	return "none"
}

func plainTime(move int) string {
	if move < 0 {
		return "-"
	}
	return fmt.Sprint(move)
}

func plainAnswer(a api.Answer) string {
	if a.Kind == api.AnswerValue {
		return fmt.Sprintf("value %d", a.Value)
	}
	return [...]string{"-", "done", "", "empty", "full", "yes", "no"}[a.Kind]
}

// plainOrder is the order of the points, and what is said of it.
func plainOrder(calls []api.Call) ([]int, string) {
	if !witness.May(calls) {
		return nil, "does not explain"
	}
	var order []int
	for i, c := range calls {
		if c.Op >= api.OpPush && c.Op <= api.OpGet && script.Word(c.Op) != "" || c.Op == api.OpPost || c.Op == api.OpRead {
			if c.Point >= 0 {
				order = append(order, i)
			}
		}
	}
	slices.SortFunc(order, func(a, b int) int { return calls[a].Point - calls[b].Point })
	if witness.Check(calls, order) != api.OK {
		return order, "does not explain"
	}
	return order, "explains"
}

func plainList(list []int) string {
	if len(list) == 0 {
		return "-"
	}
	return strings.Trim(fmt.Sprint(list), "[]")
}

func plainPairs(pairs []api.Pair) string {
	var out []string
	for _, p := range pairs {
		out = append(out, fmt.Sprintf("%d=%d", p.Key, p.Value))
	}
	if len(out) == 0 {
		return "-"
	}
	return strings.Join(out, " ")
}

// wantPlain asks for what the second report tells, and answers its error.
func (x *tale) wantPlain(t *testing.T) api.Errno {
	t.Helper()
	want := plainErrno(x.c, x.r)
	if want != api.OK {
		x.wantRefused(t, "a run", want)
		return want
	}
	text := plainReport(x.c, x.r)
	if len(text) > api.MaxText {
		x.wantRefused(t, "a long run", api.ErrLong)
		return api.ErrLong
	}
	if got, e := tower.Report(x.c, x.r); e != api.OK || got != text {
		t.Errorf("%+v with %+v: %d\n%s, not\n%s", x.c, brief(x.r), e, short(got), short(text))
	}
	return api.OK
}

// P18.2: the runs of many scripts are told as the chapter's words say it.
func TestPlainRuns(t *testing.T) {
	d := dice(81)
	for range 600 {
		c := d.config()
		if e := played(t, c, d.script(c, d.below(900))).wantPlain(t); e != api.OK {
			t.Fatalf("a run of a script: %d", e)
		}
		if t.Failed() {
			t.FailNow()
		}
	}
}

// P18.2: likewise runs that no machine made; and that these have all that can be told.
func TestPlainSpoilt(t *testing.T) {
	d := dice(82)
	errors, told := map[api.Errno]int{}, map[string]int{}
	for range 300 {
		c := d.config()
		whole := played(t, c, d.script(c, d.below(400)))
		for range 20 {
			x := d.spoilt(whole)
			e := x.wantPlain(t)
			if errors[e]++; e == api.OK {
				countWords(told, x.reported(t))
			}
			if t.Failed() {
				t.FailNow()
			}
		}
	}
	for _, e := range []api.Errno{api.OK, api.ErrRun, api.ErrShape} {
		if errors[e] < 100 {
			t.Errorf("only %d runs with the error %d", errors[e], e)
		}
	}
	for _, words := range []string{
		"fault free", "fault foreign", "fault shift", "fault hazard", "dishonest -", "slot cached", "slot owned", "slot detached", "slot retired", "explains", "does not explain",
		"empty list does not explain", "lies", "cell", "stack", "queue", "set", "table", "free", "op",
	} {
		if told[words] < 20 {
			t.Errorf("only %d times %s", told[words], words)
		}
	}
}

// countWords counts what a transcript tells.
func countWords(told map[string]int, text string) {
	for line := range strings.Lines(text) {
		w := strings.Fields(line)
		switch {
		case w[0] == "fault":
			told["fault "+w[1]]++
		case w[0] == "slot":
			told["slot "+w[2]]++
		case w[0] == "order" && w[len(w)-1] == "explain":
			told["does not explain"]++
			if w[1] == "-" {
				told["empty list does not explain"]++
			}
		case w[0] == "order":
			told["explains"]++
		case w[0] == "call" && w[4] == "op":
			told["op"]++
		case w[0] == "dishonest" && w[1] == "-":
			told["dishonest -"]++
		case w[0] == "dishonest":
			told["lies"]++
		case w[1] != "-":
			told[w[0]]++
		}
	}
}
