package witness_test

import (
	"slices"
	"testing"

	"reclaim/api"
	"reclaim/model"
	"reclaim/pool"
	"reclaim/witness"
)

// explained tells whether some order explains the calls; Count and Find are to tell alike.
func explained(t *testing.T, l []api.Call) bool {
	t.Helper()
	order, e := witness.Find(l)
	count, e2 := witness.Count(l)
	switch {
	case e == api.OK && e2 == api.OK && count > 0:
		wantCheck(t, l, order, api.OK)
		return true
	case e == api.ErrNone && e2 == api.OK && count == 0:
		return false
	}
	t.Fatalf("of %+v: Find = %v, %d; Count = %d, %d", l, order, e, count, e2)
	return false
}

// P12.9: points are enough; where they are no order, or do not explain, some order may or may not.
func TestPointsAreEnough(t *testing.T) {
	d := dice(41)
	enough, other, not := 0, 0, 0
	for range 4000 {
		l := d.history(8)
		points, _ := witness.Points(l)
		wantCheck(t, l, points, api.OK)
		l = d.hidden(d.turned(8))
		points, _ = witness.Points(l)
		is, so := witness.Check(l, points) == api.OK, explained(t, l)
		switch {
		case is && !so:
			t.Fatalf("the points explain %+v, and nothing is found", l)
		case is:
			enough++
		case so:
			other++
		default:
			not++
		}
		if t.Failed() {
			t.FailNow()
		}
	}
	if enough < 300 || other < 300 || not < 300 {
		t.Errorf("only %d by points, %d otherwise, %d not explained", enough, other, not)
	}
}

// P12.10: calls are explained just if those of each object alone are.
func TestLocality(t *testing.T) {
	d := dice(42)
	whole, parted := 0, 0
	for mixed := 0; mixed < 3000; {
		l := d.hidden(d.turned(8))
		each, objects := true, 0
		for object := 1; object <= 5; object++ {
			alone := slices.Clone(l)
			alone = slices.DeleteFunc(alone, func(c api.Call) bool { return model.Object(c.Op) != object })
			if len(alone) > 0 {
				objects++
				each = explained(t, alone) && each
			}
		}
		if objects < 2 {
			continue
		}
		mixed++
		if got := explained(t, l); got != each {
			t.Fatalf("%+v: explained %v, object by object %v", l, got, each)
		}
		if each {
			whole++
		} else {
			parted++
		}
	}
	if whole < 300 || parted < 300 {
		t.Errorf("only %d explained, %d not", whole, parted)
	}
}

// until is the calls that began below a move, as they stood then.
func until(l []api.Call, move int) []api.Call {
	var out []api.Call
	for _, c := range l {
		if c.Begin >= move {
			break
		}
		if c.End >= move {
			c.End, c.Answer = -1, none
		}
		if c.Point >= move {
			c.Point = -1
		}
		out = append(out, c)
	}
	return out
}

// P12.11: every beginning of calls that are explained is; of others some are.
func TestBeginnings(t *testing.T) {
	d := dice(43)
	beginnings, others := 0, 0
	for range 600 {
		l := d.hidden(d.turned(7))
		so := explained(t, l)
		for move := range 80 {
			part := until(l, move)
			wantMay(t, "a beginning", part, true)
			is := explained(t, part)
			if so && !is {
				t.Fatalf("%+v are explained, and below move %d not", l, move)
			}
			if so {
				beginnings++
			} else if is {
				others++
			}
		}
	}
	if beginnings < 5000 || others < 500 {
		t.Errorf("only %d beginnings of explained calls, %d of others", beginnings, others)
	}
}

// longer is calls of which one ends later or begins earlier, by a few moves.
func (d *dice) longer(l []api.Call) []api.Call {
	out := slices.Clone(l)
	c := &out[d.below(len(out))]
	by := 1 + d.below(20)
	if c.End >= 0 && d.often(5) {
		c.End += by
	} else {
		c.Begin -= by
	}
	return out
}

// P12.12: with more time for a call every order that explained does so still.
func TestMoreTime(t *testing.T) {
	d := dice(44)
	stretched, more, orders := 0, 0, 0
	for stretched < 1500 {
		l := d.hidden(d.turned(5))
		if len(l) == 0 {
			continue
		}
		longer := d.longer(l)
		if !plainMay(longer) {
			continue
		}
		stretched++
		for _, order := range plainOrders(l) {
			orders++
			wantCheck(t, longer, order, api.OK)
		}
		ahead, _ := witness.Count(l)
		now, _ := witness.Count(longer)
		if now < ahead {
			t.Fatalf("%d orders of %+v, %d of %+v", ahead, l, now, longer)
		}
		if now > ahead {
			more++
		}
		if t.Failed() {
			t.FailNow()
		}
	}
	if more < 100 || orders < 1500 {
		t.Errorf("only %d times more orders; %d orders in all", more, orders)
	}
}

// script is moves of threads that hold records: mostly steps.
func (d *dice) script(threads, count int) []api.Move {
	var moves []api.Move
	for thread := range threads {
		moves = append(moves, api.Move{Thread: thread, Op: api.OpRegister})
		moves = append(moves, slices.Repeat([]api.Move{{Thread: thread}}, 8)...)
	}
	of := slices.Concat(ops...)
	for range count {
		move := api.Move{Thread: d.below(threads)}
		if d.often(3) {
			move.Op, move.Arg, move.Data = of[d.below(len(of))], d.below(3), d.below(9)
		}
		moves = append(moves, move)
	}
	return moves
}

// G1: the calls of a pool's run may be, and are explained by their points, which leave what its memory has; and so
// is what of a longer run was made until a move.
func TestRunsOfPool(t *testing.T) {
	d := dice(45)
	found, ordered := 0, 0
	for range 150 {
		c := api.Config{Threads: 1 + d.below(3), Records: 3, Hazards: 3, Retire: 1 + d.below(3), Cache: d.below(2), Slots: 2 + d.below(8), Buckets: 1 + d.below(3)}
		script := d.script(c.Threads, 300)
		all, _ := pool.Play(c, script)
		for _, count := range []int{len(script), 90, 60, 40} {
			run, _ := pool.Play(c, script[:count])
			wantMay(t, "a run", run.Calls, true)
			points, _ := witness.Points(run.Calls)
			held, _ := pool.Look(c, run.Words)
			wantLeft(t, run.Calls, points, held)
			ordered += len(points)
			part := until(all.Calls, count)
			if counted(part) > 8 {
				continue
			}
			found++
			if !explained(t, run.Calls) || !explained(t, part) {
				t.Fatalf("%+v or %+v is not explained", run.Calls, part)
			}
		}
		if t.Failed() {
			t.FailNow()
		}
	}
	if found < 150 || ordered < 3000 {
		t.Errorf("only %d runs whose order was found; %d calls", found, ordered)
	}
}
