package course_test

import (
	"slices"
	"testing"

	"reclaim/api"
	"reclaim/course"
	"reclaim/machine"
)

// Ops of the tests.
const (
	opTwice api.Op = 901
	opQuick api.Op = 902
)

// twice stores a word, and stores it again; ahead of that it may have an end already.
type twice struct {
	course.Course
	begun int
	quick bool
}

func (c *twice) begin(d *machine.Desk) {
	c.begun++
	if c.quick {
		c.EndHere(d, api.AnswerFull)
	}
}

func (c *twice) one(d *machine.Desk) {
	d.Store(0, 5)
	c.Next = c.two
}

func (c *twice) two(d *machine.Desk) {
	d.Store(0, 6)
	c.EndHere(d, api.AnswerEmpty)
}

func twiceOf(quick bool) *twice {
	c := &twice{quick: quick}
	c.Ahead, c.Next = c.begin, c.one
	return c
}

// A call goes on from method to method, one a step, to the move that EndHere makes its point and its end.
func TestCourse(t *testing.T) {
	kit := machine.Kit{
		opTwice: func(int, api.Move) machine.Task { return twiceOf(false) },
		opQuick: func(int, api.Move) machine.Task { return twiceOf(true) },
	}
	m, _ := machine.New(1, make([]uint64, 1), kit)
	for _, op := range []api.Op{opTwice, api.OpStep, api.OpStep, opQuick, api.OpStep} {
		if !m.Move(api.Move{Op: op}) {
			t.Fatalf("move %d does nothing", m.Moves()-1)
		}
	}
	r := m.Run()
	want := []api.Call{
		{Op: opTwice, Begin: 0, End: 2, Point: 2, Answer: api.Answer{Kind: api.AnswerEmpty}},
		{Op: opQuick, Begin: 3, End: 4, Point: 4, Answer: api.Answer{Kind: api.AnswerFull}},
	}
	if len(r.Calls) != 2 || r.Calls[0] != want[0] || r.Calls[1] != want[1] {
		t.Errorf("%+v, not %+v", r.Calls, want)
	}
	if len(r.Trace) != 2 || r.Trace[0].New != 5 || r.Trace[1].New != 6 {
		t.Errorf("%+v", r.Trace)
	}
}

// What has ended does nothing more; the work ahead of the first access is done once.
func TestCourseThatHasEnded(t *testing.T) {
	c := twiceOf(false)
	if c.Ready(nil) || c.Ready(nil) || c.begun != 1 {
		t.Errorf("begun %d times", c.begun)
	}
	if c.Step(nil) || !c.Step(nil) || !c.Step(nil) || !c.Ready(nil) {
		t.Error("it has not ended behind two steps")
	}
	if zero := (&course.Course{}); !zero.Ready(nil) || !zero.Step(nil) {
		t.Error("one without anything to do has not ended")
	}
}

// part makes so many accesses, and tells of each that it has made it.
type part struct {
	left int
	told *[]string
}

func (p *part) Ready(*machine.Desk) bool {
	*p.told = append(*p.told, "ready")
	return p.left == 0
}

func (p *part) Step(*machine.Desk) bool {
	*p.told = append(*p.told, "step")
	p.left--
	return p.left == 0
}

// A part begins as soon as one comes to it, is stepped till it has ended, and what comes then comes in that step:
// at once, where the part needs no access.
func TestThrough(t *testing.T) {
	var told []string
	c := &course.Course{}
	end := func(*machine.Desk) {
		told = append(told, "end")
		c.Next = nil
	}
	second := func(d *machine.Desk) {
		told = append(told, "second")
		c.Through(d, &part{0, &told}, func(d *machine.Desk) { c.Through(d, &part{1, &told}, end) })
	}
	c.Next = func(d *machine.Desk) {
		told = append(told, "first")
		c.Through(d, &part{2, &told}, second)
	}
	for step, want := range [][]string{{"first", "ready"}, {"step"}, {"step", "second", "ready", "ready"}, {"step", "end"}} {
		told = nil
		if ended := c.Step(nil); ended != (step == 3) || !slices.Equal(told, want) {
			t.Errorf("step %d: %v, ended: %v, not %v", step, told, ended, want)
		}
	}
	told = nil
	c.Ahead = func(d *machine.Desk) { c.Through(d, &part{0, &told}, end) }
	if !c.Ready(nil) || !slices.Equal(told, []string{"ready", "end"}) {
		t.Errorf("%v", told)
	}
}
