package model

import "reclaim/api"

// world is all objects, by their numbers less one, with lists of their own: what calls do to them is seen
// nowhere else.
type world [objects]object

func worldOf(s api.Contents) world {
	return world{newCell(s.Cell), newStack(s.Stack), newQueue(s.Queue), newSet(s.Set), newTable(s.Table)}
}

// of is the object that an op belongs to.
func (w world) of(op api.Op) object { return w[Object(op)-1] }

// admit makes a call that may have answered so; one that may not leaves all as it was.
func (w world) admit(c api.Call) bool {
	o := w.of(c.Op)
	switch c.Answer.Kind {
	case api.AnswerNone:
	case api.AnswerFull:
		return puts(c.Op)
	default:
		if c.Answer != o.answers(c) {
			return false
		}
	}
	o.leave(c)
	return true
}

// contents is what the objects hold. Their lists are handed out, so no call is made behind it.
func (w world) contents() api.Contents {
	var s api.Contents
	for _, o := range w {
		put(o, &s)
	}
	return s
}

// put lays what an object holds into contents, where each object has a list of its own.
func put(o object, s *api.Contents) {
	switch x := o.(type) {
	case *cell:
		s.Cell = x.values
	case *stack:
		s.Stack = turned(x.values)
	case *queue:
		s.Queue = x.values
	case *set:
		s.Set = x.keys
	case *table:
		s.Table = x.pairs
	}
}
