package tower_test

import (
	"sort"
	"strconv"
	"strings"
	"testing"

	"reclaim/api"
	"reclaim/script"
	"reclaim/word"
)

// P18.2: ErrConfig, whatever the run is: one that goes with the machine, or none at all.
func TestConfigsThatMayNotBe(t *testing.T) {
	for _, c := range badConfigs() {
		(&tale{c: c}).wantRefused(t, "no run", api.ErrConfig)
		x := two()
		x.c = c
		x.wantRefused(t, "a run of another machine", api.ErrConfig)
	}
	taleOf(configOf(16, 16, 8, 1024, 64, 1024, 64)).reported(t)
	taleOf(configOf(1, 1, 3, 1, 0, 1, 1)).reported(t)
}

// P18.2: ErrRun, if the run's parts don't go together, each by itself.
func TestRunsThatMayNotBe(t *testing.T) {
	(&tale{c: small()}).wantRefused(t, "no words", api.ErrRun)
	for what, x := range map[string]*tale{
		"a thread that there isn't":   taleOf(small(), open(2, api.OpPop, 0, 0)),
		"a beginning below 0":         taleOf(small(), open(0, api.OpPop, 0, -1)),
		"an answer without an end":    taleOf(small(), call(0, api.OpPop, 0, 0, -1, -1, empty)),
		"an end without an answer":    taleOf(small(), call(0, api.OpPop, 0, 0, 2, -1, api.Answer{})),
		"an answer that there isn't":  taleOf(small(), call(0, api.OpPop, 0, 0, 2, -1, api.Answer{Kind: 7})),
		"a value that none has":       taleOf(small(), call(0, api.OpPop, 0, 0, 2, -1, api.Answer{Kind: api.AnswerDone, Value: 1})),
		"a point behind the end":      taleOf(small(), call(0, api.OpPop, 0, 0, 2, 3, empty)),
		"two calls at once":           taleOf(small(), open(0, api.OpPop, 0, 0), open(0, api.OpPop, 0, 1)),
		"calls that don't rise":       taleOf(small(), open(0, api.OpPop, 0, 5), open(1, api.OpPop, 0, 4)),
		"an access of no call":        taleOf(small()).load(3, 0, 0),
		"a shift of no call":          taleOf(small()).shift(3, 0, 2, owned),
		"an access ahead of its call": two().load(0, 1, 0),
		"two accesses of a move":      two().load(3, 0, 0).load(3, 0, 0),
		"shifts that fall":            two().shift(4, 0, 2, owned).shift(3, 0, 2, linked),
	} {
		x.wantRefused(t, what, api.ErrRun)
	}
	x := two().load(3, 0, 0)
	x.r.Trace[0].Saw++
	x.wantRefused(t, "a load that saw another word", api.ErrRun)
	x = two().shift(3, 0, 2, owned)
	x.r.Shifts[0].From = cached
	x.wantRefused(t, "a shift from another state", api.ErrRun)
	x = two()
	x.r.Words[7]++
	x.wantRefused(t, "words that aren't what is left", api.ErrRun)
	x = two()
	x.r.Words = x.r.Words[1:]
	x.wantRefused(t, "too few words", api.ErrRun)
	x.r.Words, _ = word.First(small(), 0)
	x.wantRefused(t, "a machine with no slot in use", api.ErrRun)
}

// spoilWord lets a run of two calls write one word of the memory.
func spoilWord(r api.Region, i int, w uint64) *tale {
	x := two()
	return x.store(2, 0, addrOf(x.c, r, i, 0), w)
}

// P18.2: ErrShape, if the words are no pool's: of each object, and of the free list.
func TestWordsThatAreNoPools(t *testing.T) {
	for what, x := range map[string]*tale{
		"cell: no link":              spoilWord(api.RegionCell, 0, 1<<40),
		"cell: a slot of the queue":  spoilWord(api.RegionCell, 0, link(0)),
		"cell: no slot":              spoilWord(api.RegionCell, 0, link(6)),
		"stack: a mark":              spoilWord(api.RegionTop, 0, 1<<32),
		"stack: a slot of the queue": spoilWord(api.RegionTop, 0, link(0)),
		"queue: no slot":             spoilWord(api.RegionHead, 0, 0),
		"queue: another tail":        spoilWord(api.RegionTail, 0, link(1)),
		"queue: a link to itself":    spoilWord(api.RegionLink, 0, link(0)),
		"list: a mark":               spoilWord(api.RegionRoot, 0, 1<<32+link(2)),
		"table: a key of another":    spoilWord(api.RegionBucket, 1, link(2)),
		"free: a slot twice":         spoilWord(api.RegionSpare, 2, link(1)),
		"free: no slot":              spoilWord(api.RegionSpare, 2, link(6)),
		"free: no link":              spoilWord(api.RegionSpare, 5, 1<<32),
	} {
		x.wantRefused(t, what, api.ErrShape)
	}
	spoilWord(api.RegionTop, 0, 1<<32).store(3, 0, addrOf(small(), api.RegionSpare, 2, 0), link(1)).wantRefused(t, "both", api.ErrShape)
	spoilWord(api.RegionTop, 0, 1<<32).store(3, 0, addrOf(small(), api.RegionTop, 0, 0), 0).reported(t)
	spoilWord(api.RegionBucket, 0, link(2)).reported(t)
}

// long is a run whose transcript has just so many bytes, of about MaxText: many calls, whose numbers make up for what is
// missing.
func long(bytes int) *tale {
	x := taleOf(tiny())
	for i := range 16000 {
		x.r.Calls = append(x.r.Calls, call(0, 77, 1, 2*i, 2*i+1, -1, done))
	}
	missing := bytes - len(plainReport(x.c, x.r))
	for i := range x.r.Calls {
		for ; missing > 0 && x.r.Calls[i].Arg < greatest/10; missing-- {
			x.r.Calls[i].Arg *= 10
		}
	}
	return x
}

// P18.2: ErrLong, if the text would have more than MaxText bytes: whichever part it is in which it has them.
func TestLongTranscripts(t *testing.T) {
	for _, bytes := range []int{api.MaxText - 1, api.MaxText} {
		x := long(bytes)
		if text := x.reported(t); len(text) != bytes || text != plainReport(x.c, x.r) {
			t.Errorf("%d bytes, not %d: %q", len(text), bytes, short(text))
		}
	}
	for _, more := range []int{1, 2, 30, 60, 100, 150, 200, 220, 250, 300, 1000, 100000} {
		x := long(api.MaxText + more)
		if size := len(plainReport(x.c, x.r)); size != api.MaxText+more {
			t.Fatalf("%d bytes, not %d", size, api.MaxText+more)
		}
		x.wantRefused(t, strconv.Itoa(more)+" bytes more", api.ErrLong)
	}
}

// P18.2: a run much longer than a script can be.
func TestMuchLongerRuns(t *testing.T) {
	x := taleOf(tiny())
	for i := range 400000 {
		x.r.Calls = append(x.r.Calls, call(0, api.OpInsert, i, 3*i, 3*i+2, 3*i+1, yes))
	}
	x.wantRefused(t, "many calls", api.ErrLong)
	x = two()
	for i := range 400000 {
		x.load(2+i, i%2, addrOf(x.c, api.RegionValue, 3, 0))
	}
	x.wantRefused(t, "many faults", api.ErrLong)
	x.r.Trace = x.r.Trace[:0]
	for i := range 400000 {
		x.load(2+i, i%2, 0)
	}
	x.wantLines(t, "many accesses", "made", "made 2 calls, 400000 accesses, 0 shifts")
}

// P18.2: the errors come in their order, whatever else is wrong.
func TestOrderOfErrors(t *testing.T) {
	faults := []struct {
		what  string
		e     api.Errno
		spoil func(x *tale)
	}{
		{"a configuration that may not be", api.ErrConfig, func(x *tale) { x.c.Threads = 17 }},
		{"a run that may not be", api.ErrRun, func(x *tale) { x.r.Calls[0].Thread = -1 }},
		{"words that are no pool's", api.ErrShape, func(x *tale) { x.store(2, 0, addrOf(tiny(), api.RegionTop, 0, 0), 1<<32) }},
		{"a long text", api.ErrLong, func(x *tale) { x.r.Calls = append(x.r.Calls, long(api.MaxText).r.Calls...) }},
	}
	for set := range 1 << len(faults) {
		x, what, e := taleOf(tiny(), call(0, 77, 0, 0, 3, -1, done)), "", api.OK
		for i := len(faults) - 1; i >= 0; i-- { // the configuration last: what the others do is of the one that may be
			if set>>i&1 == 1 {
				faults[i].spoil(x)
				what, e = faults[i].what+"; "+what, faults[i].e
			}
		}
		for i := range x.r.Calls[1:] {
			x.r.Calls[1+i].Begin += 10
			x.r.Calls[1+i].End += 10
		}
		if e == api.OK {
			x.reported(t)
			continue
		}
		x.wantRefused(t, what, e)
	}
}

// P18.1: a text that is refused: its error with its line, and no transcript.
func TestTextsThatAreRefused(t *testing.T) {
	for _, x := range []struct {
		text string
		line int
		e    api.Errno
	}{
		{"", 0, api.ErrEarlyEnd}, {"\n \n# none\n", 0, api.ErrEarlyEnd}, {"0 pop", 1, api.ErrLine}, {"\n\n0 pop\n", 3, api.ErrLine}, {"machine threads 1", 1, api.ErrLine},
		{machine + "0 push", 2, api.ErrLine}, {machine + "0 push 1\n0 pap\n0 push 05", 3, api.ErrLine}, {machine + machine, 2, api.ErrLine},
		{machine + "0 push 05", 2, api.ErrDigit}, {machine + "\n# one\n0 push -0\n", 4, api.ErrDigit}, {machine + "0 push 9223372036854775808", 2, api.ErrDigit},
		{machine + "0 . 0", 2, api.ErrRange}, {machine + "* 65537", 2, api.ErrRange}, {machine + "0 pop\n0 . -1", 3, api.ErrRange},
		{strings.Replace(machine, "threads 1", "threads 17", 1), 1, api.ErrConfig}, {"\n" + strings.Replace(machine, "slots 2", "slots 0", 1) + "0 pop\n", 2, api.ErrConfig},
		{machine + "0 . 65536\n0 .", 3, api.ErrLong}, {machine + "* 40000\n\n* 40000", 4, api.ErrLong},
		{machine + strings.Repeat("\n", api.MaxText), 0, api.ErrLong}, {strings.Repeat("x", api.MaxText+1), 0, api.ErrLong}, {strings.Repeat("x", api.MaxText), 1, api.ErrLine},
	} {
		wantNoRun(t, x.text, x.line, x.e)
	}
}

// P18.1: texts of words by chance: what Parse refuses is refused with its error and line, all others have a transcript.
func TestTextsByChance(t *testing.T) {
	d := dice(83)
	met := map[api.Errno]int{}
	words := []string{"0", "1", "5", "-5", "05", "-", ".", "*", "op", "pop", "push", "add", "register", "x", "#", "\n", "\n0 .", "\n0 . 0", "\n* 2", "\n0 push 3", "\n0 pop\n", "\n0 push 05", "\n* 65536\n* 1", "\xff"}
	for range 6000 {
		text := d.one("", machine, machine, machine, machine+"0 register\n0 . 2\n", strings.Replace(machine, "cache 0", "cache 65", 1))
		for range d.below(8) {
			text += d.one(words...) + d.one(" ", " ", "", "\t")
		}
		_, _, line, e := script.Parse(text)
		if met[e]++; e == api.OK {
			ran(t, text)
			continue
		}
		wantNoRun(t, text, line, e)
	}
	for _, e := range []api.Errno{api.OK, api.ErrLine, api.ErrDigit, api.ErrRange, api.ErrLong, api.ErrConfig, api.ErrEarlyEnd} {
		if met[e] < 20 {
			t.Errorf("only %d of the error %d: %v", met[e], e, met)
		}
	}
}

// P18.1: a text whose transcript would be too long: ErrLong, with line 0; and the same text with fewer calls.
func TestTextsOfLongTranscripts(t *testing.T) {
	calls := func(n int) string { return machine + strings.Repeat("0 flush\n0 .\n", n) }
	n := sort.Search(32768, func(n int) bool { return len(plainReport(tiny(), taleOf(tiny(), flushes(n+1)...).r)) > api.MaxText })
	if text := ran(t, calls(n)); len(text) > api.MaxText || len(text) < api.MaxText-200 {
		t.Errorf("%d calls have %d bytes", n, len(text))
	}
	wantNoRun(t, calls(n+1), 0, api.ErrLong)
	wantNoRun(t, calls(32768), 0, api.ErrLong)
}

// flushes are so many calls that need one step each, one behind the other.
func flushes(n int) []api.Call {
	var calls []api.Call
	for i := range n {
		calls = append(calls, call(0, api.OpFlush, 0, 2*i, 2*i+1, -1, done))
	}
	return calls
}
