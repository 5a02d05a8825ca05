package schedule_test

import (
	"slices"
	"testing"

	"reclaim/api"
	"reclaim/pool"
)

// tally counts what the chances had in them, so that a test over them asks for something.
type tally struct {
	calls, idle, open, cut, fell int
}

func (n *tally) count(x *plain, steps int) {
	n.calls += len(x.run.Calls)
	for _, mv := range x.script {
		if mv.Op != api.OpStep {
			n.idle++
		}
	}
	n.idle -= len(x.run.Calls)
	if slices.ContainsFunc(x.run.Calls, func(c api.Call) bool { return c.End == -1 }) {
		n.open++
	}
	if x.picks == steps {
		n.cut++
	}
}

func (n *tally) wantMany(t *testing.T, least int) {
	t.Helper()
	if n.calls < least || n.idle < least/4 || n.open < least/16 || n.cut < least/16 {
		t.Errorf("only %+v", *n)
	}
}

// P14.4: picks of all kinds, as the chapter's words tell it.
func TestDriveChance(t *testing.T) {
	d := dice(41)
	var n tally
	for range 600 {
		c := d.config()
		p, picks := d.programs(c, 6), d.picks(c, d.below(100))
		x := plainOf(c, p).drive(picks)
		drive(c, p, picks...).wantPlain(t, x)
		n.count(x, len(picks))
		if t.Failed() {
			t.Fatalf("%+v, %v, %v", c, p, picks)
		}
	}
	n.wantMany(t, 1500)
}

// wantPlain asks for what a plain driver came to.
func (a answer) wantPlain(t *testing.T, x *plain) {
	t.Helper()
	if !a.same(x.answer()) {
		t.Errorf("%v, %d, with\n%+v, not\n%v, with\n%+v", a.script, a.e, a.run, x.script, x.run)
	}
}

// P14.5, P14.9: threads in turn, as the chapter's words tell it; where fewer picks are made than may be, every call
// has had its move, and each that began has ended.
func TestFairChance(t *testing.T) {
	d := dice(42)
	var n tally
	for range 600 {
		c := d.config()
		p, steps := d.programs(c, 6), d.below(90)
		x := plainOf(c, p).fair(steps)
		a := fair(c, p, steps)
		a.wantPlain(t, x)
		if n.count(x, steps); x.picks < steps {
			a.wantEnded(t, p)
		}
		if t.Failed() {
			t.Fatalf("%+v, %v, %d", c, p, steps)
		}
	}
	n.wantMany(t, 1500)
}

// wantEnded asks that all calls of programs have had their moves, and those that began have ended.
func (a answer) wantEnded(t *testing.T, p api.Programs) {
	t.Helper()
	for thread, calls := range p {
		var made []api.Move
		for _, mv := range a.script {
			if mv.Thread == thread && mv.Op != api.OpStep {
				made = append(made, mv)
			}
		}
		calls = slices.DeleteFunc(by(thread, calls), func(mv api.Move) bool { return mv.Op == api.OpStep })
		if !slices.Equal(made, calls) {
			t.Errorf("thread %d made %v of %v", thread, made, calls)
		}
	}
	for _, call := range a.run.Calls {
		if call.End == -1 || call.Answer.Kind == api.AnswerNone {
			t.Errorf("%+v has not ended", call)
		}
	}
}

// P14.6, P14.9: threads by their ranks, as the chapter's words tell it.
func TestPriorityChance(t *testing.T) {
	d := dice(43)
	var n tally
	for range 800 {
		c := d.config()
		p, order, steps := d.programs(c, 6), d.order(c), d.below(90)
		falls := d.falls(1 + d.below(steps+1))
		x := plainOf(c, p).priority(order, falls, steps)
		a := priority(c, p, order, falls, steps)
		a.wantPlain(t, x)
		if n.count(x, steps); x.picks < steps {
			a.wantEnded(t, p)
		}
		if !slices.Equal(x.script, plainOf(c, p).priority(order, nil, steps).script) {
			n.fell++
		}
		if t.Failed() {
			t.Fatalf("%+v, %v, %v, %v, %d", c, p, order, falls, steps)
		}
	}
	if n.wantMany(t, 1500); n.fell < 200 {
		t.Errorf("only %d scripts are others by their falls", n.fell)
	}
}

// P14.9: with as many steps as may be, and fewer moves, all come to their ends, however long the programs are.
func TestAllEnd(t *testing.T) {
	d := dice(44)
	for range 150 {
		c := d.config()
		c.Threads = 1 + d.below(api.MaxThreads)
		p := d.programs(c, 60)
		falls := d.falls(2000)
		for _, a := range []answer{fair(c, p, api.MaxMoves), priority(c, p, d.order(c), falls, api.MaxMoves), priority(c, p, d.order(c), nil, api.MaxMoves)} {
			if len(a.script) >= api.MaxMoves {
				t.Fatalf("%d moves", len(a.script))
			}
			a.wantEnded(t, p)
		}
		if t.Failed() {
			t.Fatalf("%+v, %v", c, p)
		}
	}
}

// P14.8: what is told as run is what pool.Play tells of the script, whatever the programs and picks are.
func TestScriptSaysAll(t *testing.T) {
	d := dice(45)
	moves := 0
	for range 300 {
		c := d.config()
		c.Threads = 1 + d.below(api.MaxThreads)
		p, steps := d.programs(c, 40), d.below(1500)
		for _, a := range []answer{drive(c, p, d.picks(c, steps)...), fair(c, p, steps), priority(c, p, d.order(c), d.falls(steps), steps)} {
			r, e := pool.Play(c, a.script)
			if a.e != api.OK || e != api.OK || !sameRun(a.run, r) {
				t.Fatalf("of %v: %+v, %d, not %+v, %d", a.script, a.run, a.e, r, e)
			}
			moves += len(a.script)
		}
	}
	if moves < 200000 {
		t.Errorf("only %d moves", moves)
	}
}

// P14.10: without falls no two calls of unlike threads are on their way at one time, wherever the picks end; the
// threads' calls come in the order of the threads.
func TestTurns(t *testing.T) {
	d := dice(46)
	calls := 0
	for i := range 400 {
		c := d.config()
		p, order, steps := d.programs(c, 20), d.order(c), d.below(600)
		a := priority(c, p, order, [][]int{nil, {}}[i%2], steps)
		for k, call := range a.run.Calls[:max(0, len(a.run.Calls)-1)] {
			next := a.run.Calls[k+1]
			if call.End == -1 || call.End >= next.Begin {
				t.Errorf("%+v and %+v are on their way at one time", call, next)
			}
			if slices.Index(order, call.Thread) > slices.Index(order, next.Thread) {
				t.Errorf("%+v ahead of %+v in the order %v", call, next, order)
			}
		}
		if calls += len(a.run.Calls); t.Failed() {
			t.FailNow()
		}
	}
	if calls < 3000 {
		t.Errorf("only %d calls", calls)
	}
}

// P14.4, P14.5: the picks of Fair, handed to Drive, make the same script; a round of all threads does too.
func TestRoundsAreFair(t *testing.T) {
	d := dice(47)
	for range 200 {
		c := d.config()
		p := d.programs(c, 10)
		whole := fair(c, p, api.MaxMoves)
		var round []int
		for i := range 4000 * c.Threads {
			round = append(round, i%c.Threads)
		}
		if got := drive(c, p, round...); !got.same(whole) {
			t.Fatalf("%v, not %v", got.script, whole.script)
		}
	}
}
