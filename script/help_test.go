package script_test

import (
	"slices"
	"strconv"
	"strings"
	"testing"

	"reclaim/api"
	"reclaim/script"
)

const (
	least    = -1 << 63
	greatest = 1<<63 - 1
)

// Configurations.

// machine is the line of the chapter's example.
const machine = "machine threads 2 records 2 hazards 3 retire 1 cache 0 slots 4 buckets 1\n"

func configOf(threads, records, hazards, retire, cache, slots, buckets int) api.Config {
	return api.Config{Threads: threads, Records: records, Hazards: hazards, Retire: retire, Cache: cache, Slots: slots, Buckets: buckets}
}

// example is what machine tells.
func example() api.Config { return configOf(2, 2, 3, 1, 0, 4, 1) }

// threads is the machine's line with so many threads.
func threads(n int) string {
	return strings.Replace(machine, "threads 2", "threads "+strconv.Itoa(n), 1)
}

// limits are those of a configuration's numbers, in the order of the machine's line.
func limits() [7][2]int {
	return [7][2]int{{1, 16}, {1, 16}, {3, 8}, {1, 1024}, {0, 64}, {1, 1024}, {1, 64}}
}

// withNumber is the example with another number in one place.
func withNumber(place, n int) api.Config {
	l := [7]int{2, 2, 3, 1, 0, 4, 1}
	l[place] = n
	return configOf(l[0], l[1], l[2], l[3], l[4], l[5], l[6])
}

// machineOf is a machine's line with any numbers.
func machineOf(c api.Config) string {
	words := []string{
		"machine", "threads", strconv.Itoa(c.Threads), "records", strconv.Itoa(c.Records), "hazards", strconv.Itoa(c.Hazards),
		"retire", strconv.Itoa(c.Retire), "cache", strconv.Itoa(c.Cache), "slots", strconv.Itoa(c.Slots), "buckets", strconv.Itoa(c.Buckets),
	}
	return strings.Join(words, " ") + "\n"
}

// badConfigs has, for each number, configurations in which just that one is out of its limits.
func badConfigs() []api.Config {
	out := []api.Config{{}}
	for place, limit := range limits() {
		for _, n := range []int{limit[0] - 1, limit[1] + 1, least, greatest, 1<<32 + limit[0]} {
			out = append(out, withNumber(place, n))
		}
	}
	return out
}

// goodConfigs has, for each number, its limits and what lies just within.
func goodConfigs() []api.Config {
	var out []api.Config
	for place, limit := range limits() {
		for _, n := range []int{limit[0], limit[0] + 1, limit[1] - 1, limit[1]} {
			out = append(out, withNumber(place, n))
		}
	}
	return append(out, configOf(1, 1, 3, 1, 0, 1, 1), configOf(16, 16, 8, 1024, 64, 1024, 64))
}

// Moves.

func step(thread int) api.Move { return api.Move{Thread: thread, Op: api.OpStep} }

func push(thread, arg int) api.Move { return api.Move{Thread: thread, Op: api.OpPush, Arg: arg} }

func pop(thread int) api.Move { return api.Move{Thread: thread, Op: api.OpPop} }

// steps is so many steps of a thread.
func steps(thread, count int) []api.Move { return slices.Repeat([]api.Move{step(thread)}, count) }

// spelling is an op with its word, and how many of Arg and Data the word's line has.
type spelling struct {
	op   api.Op
	word string
	args int
}

// spellings is the chapter's table.
func spellings() []spelling {
	return []spelling{
		{10, "take", 0}, {30, "push", 1},
		{11, "give", 1}, {31, "pop", 0},
		{12, "flush", 0}, {40, "enqueue", 1},
		{20, "register", 0}, {41, "dequeue", 0},
		{21, "unregister", 0}, {50, "insert", 1},
		{22, "post", 1}, {51, "delete", 1},
		{23, "read", 1}, {52, "contains", 1},
		{24, "clear", 1}, {60, "add", 2},
		{25, "scan", 0}, {61, "remove", 1},
		{1, "look", 1}, {62, "get", 1},
		{2, "bump", 1},
	}
}

// Asking.

// read is what Parse answers.
type read struct {
	c     api.Config
	moves []api.Move
	line  int
	e     api.Errno
}

func parse(text string) read {
	var r read
	r.c, r.moves, r.line, r.e = script.Parse(text)
	return r
}

func (r read) same(s read) bool {
	return r.c == s.c && slices.Equal(r.moves, s.moves) && r.line == s.line && r.e == s.e
}

// brief is short enough to be printed.
func (r read) brief() read {
	r.moves = r.moves[:min(len(r.moves), 12)]
	return r
}

func short(text string) string {
	if len(text) > 400 {
		return text[:200] + " .. " + text[len(text)-200:]
	}
	return text
}

// wantRead asks for a configuration and a script.
func wantRead(t *testing.T, text string, c api.Config, moves ...api.Move) {
	t.Helper()
	if r := parse(text); !r.same(read{c: c, moves: moves}) {
		t.Errorf("%q: %d moves, %+v, not %+v with %d", short(text), len(r.moves), r.brief(), c, len(moves))
	}
}

// wantMoves asks for a script behind the example's line.
func wantMoves(t *testing.T, lines string, moves ...api.Move) {
	t.Helper()
	wantRead(t, machine+lines, example(), moves...)
}

// wantFault asks for an error with its line, and for nothing beside.
func wantFault(t *testing.T, text string, line int, e api.Errno) {
	t.Helper()
	if r := parse(text); !r.same(read{line: line, e: e}) {
		t.Errorf("%q: %d moves, %+v, not line %d, %d", short(text), len(r.moves), r.brief(), line, e)
	}
}

// wantPrint asks for a text.
func wantPrint(t *testing.T, c api.Config, text string, moves ...api.Move) {
	t.Helper()
	if got, e := script.Print(c, moves); e != api.OK || got != text {
		t.Errorf("%+v with %d moves: %q, %d, not %q", c, len(moves), short(got), e, short(text))
	}
}

// wantNoPrint asks for an error, with nothing beside it.
func wantNoPrint(t *testing.T, what string, c api.Config, moves []api.Move, e api.Errno) {
	t.Helper()
	if text, got := script.Print(c, moves); got != e || text != "" {
		t.Errorf("%s: %q, %d, not %d", what, short(text), got, e)
	}
}
