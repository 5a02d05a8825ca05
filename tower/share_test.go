package tower_test

import (
	"slices"
	"strings"
	"sync"
	"testing"

	"reclaim/api"
	"reclaim/script"
	"reclaim/tower"
)

// within is a list in the midst of a greater one, with edges around it.
func within[T any](values []T, edge T) []T {
	return append(append([]T{edge}, values...), edge, edge, edge, edge)
}

// inner is the list within, with all behind it as its spare room.
func inner[T any](around []T) []T { return around[1 : len(around)-4] }

// fill writes one thing into all of a list.
func fill[T any](values []T, with T) {
	for i := range values {
		values[i] = with
	}
}

// around is a run each of whose lists stands within a greater one.
func around(r api.Run) api.Run {
	return api.Run{Calls: within(r.Calls, open(7, api.OpPop, 0, 77)), Trace: within(r.Trace, api.Access{Move: 77}),
		Shifts: within(r.Shifts, api.Shift{Move: 77}), Words: within(r.Words, 77)}
}

func innerRun(r api.Run) api.Run {
	return api.Run{Calls: inner(r.Calls), Trace: inner(r.Trace), Shifts: inner(r.Shifts), Words: inner(r.Words)}
}

func sameRun(a, b api.Run) bool {
	return slices.Equal(a.Calls, b.Calls) && slices.Equal(a.Trace, b.Trace) && slices.Equal(a.Shifts, b.Shifts) && slices.Equal(a.Words, b.Words)
}

// answer is what Report or Run tells.
type answer struct {
	text string
	line int
	e    api.Errno
}

func report(c api.Config, r api.Run) answer {
	text, e := tower.Report(c, r)
	return answer{text, 0, e}
}

func run(text string) answer {
	got, line, e := tower.Run(text)
	return answer{got, line, e}
}

// P6: what is handed to Report stays as it was, its spare room too, and is not kept.
func TestReportChangesNothing(t *testing.T) {
	d := dice(101)
	met := map[api.Errno]int{}
	for range 1200 {
		c := d.config()
		x := played(t, c, d.script(c, d.below(300)))
		if d.often(7) {
			x = d.spoilt(x)
		}
		all := around(x.r)
		was := cloneRun(all)
		first := report(c, innerRun(all))
		met[first.e]++
		if !sameRun(all, was) {
			t.Fatalf("%+v has become %+v", brief(was), brief(all))
		}
		text := strings.Clone(first.text)
		fill(all.Calls, api.Call{Thread: 5})
		fill(all.Trace, api.Access{Move: 5})
		fill(all.Shifts, api.Shift{Move: 5})
		fill(all.Words, 5)
		if again := report(c, innerRun(was)); first.text != text || again != first {
			t.Fatalf("%+v, then %+v", first, again)
		}
	}
	if met[api.OK] < 100 || met[api.ErrRun] < 20 || met[api.ErrShape] < 5 {
		t.Errorf("only %v", met)
	}
}

// P6: the same is answered whatever was asked between.
func TestSameAgain(t *testing.T) {
	d := dice(102)
	for range 200 {
		c := d.config()
		moves := d.script(c, d.below(300))
		text, _ := script.Print(c, moves)
		if d.often(2) {
			text += d.one("x", "0 push 05", "0 . 0")
		}
		x := d.spoilt(played(t, c, moves))
		one, two := run(text), report(c, x.r)
		other := d.config()
		run(d.written(other, d.script(other, 60)))
		run(text + "\n0")
		report(api.Config{}, x.r)
		report(other, x.r)
		if run(strings.Clone(text)) != one || report(c, cloneRun(x.r)) != two {
			t.Fatalf("%q: %+v, then %+v", short(text), one, run(text))
		}
	}
}

// P6: calls that are made at the same time answer what each of them does alone.
func TestCallsAtTheSameTime(t *testing.T) {
	d := dice(103)
	c := small()
	moves := d.script(c, 500)
	text, _ := script.Print(c, moves)
	x := d.spoilt(played(t, c, moves))
	one, two, three := run(text), report(c, x.r), run(text+"0 pap")
	var all sync.WaitGroup
	for range 16 {
		all.Go(func() {
			for range 10 {
				if run(text) != one || report(c, x.r) != two || run(text+"0 pap") != three {
					t.Error("another answer")
				}
			}
		})
	}
	all.Wait()
}

// P7: nil and empty lists are the same.
func TestNilAndEmpty(t *testing.T) {
	words := taleOf(small()).r.Words
	one := report(small(), api.Run{Words: words})
	if other := report(small(), api.Run{Calls: []api.Call{}, Trace: []api.Access{}, Shifts: []api.Shift{}, Words: words}); one.e != api.OK || one != other {
		t.Errorf("%+v and %+v", one, other)
	}
	if one, other := report(small(), api.Run{}), report(small(), api.Run{Words: []uint64{}}); one.e != api.ErrRun || one != other {
		t.Errorf("%+v and %+v", one, other)
	}
}

// P5: runs of any numbers are answered, as the chapter's words tell it.
func TestAnyNumbers(t *testing.T) {
	d := dice(104)
	numbers := []int{least, least + 1, -1 << 32, -2, -1, 0, 1, 2, 3, 7, 15, 16, 1 << 32, greatest - 1, greatest}
	any := func() int { return numbers[d.below(len(numbers))] }
	some := func() int { return numbers[3+d.below(6)] }
	may := 0
	for range 30000 {
		x := taleOf(small())
		for range d.below(4) {
			x.r.Calls = append(x.r.Calls, api.Call{Thread: d.below(3), Op: api.Op(any()), Arg: any(), Data: any(), Begin: any(), End: any(), Point: any(), Answer: api.Answer{Kind: api.AnswerKind(d.below(8))}})
		}
		if d.often(5) {
			x.r.Calls = []api.Call{open(0, api.Op(any()), any(), some()), open(1, api.Op(any()), any(), any())}[:1+d.below(2)]
		}
		for range d.below(2) {
			x.r.Trace = append(x.r.Trace, api.Access{Move: any(), Thread: some(), Kind: api.AccessKind(some()), Addr: some(), Old: uint64(d.below(2)), New: uint64(any()), Saw: uint64(d.below(2))})
		}
		for range d.below(2) {
			x.r.Shifts = append(x.r.Shifts, api.Shift{Move: any(), Thread: some(), Slot: some(), From: api.State(some()), To: api.State(some())})
		}
		if x.wantPlain(t) == api.OK && len(x.r.Calls) > 0 {
			may++
		}
		report(configOf(any(), any(), any(), any(), any(), any(), any()), x.r)
		if t.Failed() {
			t.FailNow()
		}
	}
	if may < 1000 {
		t.Errorf("only %d that have a transcript", may)
	}
}

// P5: texts of any bytes are answered.
func TestAnyBytes(t *testing.T) {
	d := dice(105)
	for range 5000 {
		bytes := []byte(machine + "0 register\n0 . 2\n0 push 5\n0 . 7\n* 3\n")
		for range d.below(6) {
			bytes[d.below(len(bytes))] = byte(d.below(256))
		}
		text := string(bytes)
		if _, _, line, e := script.Parse(text); e != api.OK {
			wantNoRun(t, text, line, e)
			continue
		}
		wantRule(t, ran(t, text))
	}
}
