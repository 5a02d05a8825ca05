package witness_test

import (
	"slices"

	"reclaim/api"
	"reclaim/model"
)

// dice are the same numbers each time.
type dice uint64

func (d *dice) below(n int) int {
	*d = *d*6364136223846793005 + 1442695040888963407
	return int(uint64(*d) >> 33 % uint64(n))
}

// often tells so in so many of ten cases.
func (d *dice) often(of10 int) bool { return d.below(10) < of10 }

// mix is of which objects the calls are: a few of them, so that they meet.
func (d *dice) mix() []api.Op {
	var out []api.Op
	for range 1 + d.below(2) {
		out = append(out, ops[1+d.below(5)]...)
	}
	return out
}

// making is calls that are being made by threads: at each one's point it is made at once.
type making struct {
	calls   []api.Call
	answers []api.Answer // to be told at the End; none: the call has not been made
	on      map[int]int  // by thread: the number of its call that is on its way
	left    api.Contents
}

// history is at most so many calls that count, with others between them, as threads may make them: each takes effect
// at a move of its own, which is its Point, so the points explain them. Some have not ended.
func (d *dice) history(most int) []api.Call {
	m := &making{on: map[int]int{}}
	of, threads := d.mix(), 1+d.below(4)
	now, counted := d.below(3), 0
	for range 4 + d.below(6*most) {
		thread := d.below(threads)
		if n, busy := m.on[thread]; busy {
			m.goOn(d, n, now)
		} else if counted < most {
			c := api.Call{Thread: thread, Op: of[d.below(len(of))], Arg: d.below(3), Data: d.below(3), Begin: now, End: -1, Point: -1}
			if d.often(1) {
				c.Op = foreign[d.below(len(foreign))]
			} else {
				counted++
			}
			m.on[thread] = len(m.calls)
			m.calls, m.answers = append(m.calls, c), append(m.answers, none)
		}
		now += 1 + d.below(4)
	}
	for _, n := range m.on { // one that has not answered Full yet might still do something
		if m.answers[n] == full {
			m.calls[n].Point = -1
		}
	}
	return m.calls
}

// goOn makes a call that is on its way, ends it, or both.
func (m *making) goOn(d *dice, n, now int) {
	c := &m.calls[n]
	if m.answers[n] == none {
		m.answers[n], c.Point = m.make(d, *c), now
		if !d.often(3) {
			return
		}
	}
	c.End, c.Answer = now, m.answers[n]
	delete(m.on, c.Thread)
}

func (m *making) make(d *dice, c api.Call) api.Answer {
	switch {
	case model.Object(c.Op) == 0:
		return api.Answer{Kind: api.AnswerKind(1 + d.below(6))}
	case d.often(1):
		if _, may, _ := model.Allows(m.left, api.Call{Op: c.Op, Answer: full}); may {
			return full
		}
	}
	left, a, _ := model.Do(m.left, c.Op, c.Arg, c.Data)
	m.left = left
	return a
}

// turned is a history in which, now and then, an answer is another.
func (d *dice) turned(most int) []api.Call {
	l := d.history(most)
	for range d.below(3) {
		if len(l) == 0 {
			break
		}
		if c := &l[d.below(len(l))]; c.End >= 0 {
			c.Answer = d.answer(*c)
		}
	}
	return l
}

// answer is one that the call's op may have, mostly.
func (d *dice) answer(c api.Call) api.Answer {
	a := api.Answer{Kind: api.AnswerKind(1 + d.below(6))}
	if d.often(8) && model.Object(c.Op) > 0 {
		_, a, _ = model.Do(api.Contents{}, c.Op, c.Arg, c.Data)
	}
	if a.Kind == api.AnswerEmpty && d.often(5) {
		a.Kind = api.AnswerValue
	}
	if a.Kind == api.AnswerValue {
		a.Value = d.below(3)
	}
	return a
}

// hidden is calls of which some have lost their points.
func (d *dice) hidden(l []api.Call) []api.Call {
	out := slices.Clone(l)
	for i := range out {
		if d.often(3) {
			out[i].Point = -1
		}
	}
	return out
}

// spoilt is calls of which a number or two are others.
func (d *dice) spoilt(l []api.Call) []api.Call {
	out := slices.Clone(l)
	for range d.below(3) {
		if len(out) == 0 {
			break
		}
		c := &out[d.below(len(out))]
		other := out[d.below(len(out))]
		near := []int{other.Begin, other.End, other.Point}[d.below(3)] + d.below(3) - 1
		switch d.below(6) {
		case 0:
			c.Begin = near
		case 1:
			c.End = near
		case 2:
			c.Point = near
		case 3:
			c.Answer = api.Answer{Kind: api.AnswerKind(d.below(9) - 1), Value: d.below(2)}
		case 4:
			c.Thread = d.below(18) - 1
		case 5:
			*c = other
		}
	}
	return out
}

// order is a list of numbers, mostly an order of the calls: mixed, or by their points.
func (d *dice) order(l []api.Call) []int {
	var out []int
	for i, c := range l {
		if model.Object(c.Op) > 0 && (c.End >= 0 || d.often(5)) {
			out = append(out, i)
		}
	}
	if d.often(5) {
		slices.SortStableFunc(out, func(a, b int) int { return l[a].Point - l[b].Point })
	}
	for range d.below(3) {
		if len(out) > 1 {
			i := d.below(len(out) - 1)
			out[i], out[i+1] = out[i+1], out[i]
		}
	}
	switch {
	case len(out) == 0 || d.often(8):
	case d.often(5):
		out = slices.Delete(out, 0, 1)
	default:
		out = append(out, d.below(len(l)+2)-1)
	}
	return out
}
