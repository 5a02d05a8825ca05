package script

import (
	"strings"

	"reclaim/api"
	"reclaim/word"
)

// reader is what was read of a text so far.
type reader struct {
	config api.Config // zero, which none may be, as long as the machine's line is to come
	moves  []api.Move
}

// text reads a text, up to the first thing that is wrong.
func (r *reader) text(text string) error {
	if len(text) > api.MaxText {
		return fault(api.ErrLong)
	}
	for number := 1; text != ""; number++ {
		line, rest, _ := strings.Cut(text, lineEnd)
		if err := r.line(wordsOf(line)); err != nil {
			return lineFault{line: number, err: err}
		}
		text = rest
	}
	if r.config == (api.Config{}) {
		return fault(api.ErrEarlyEnd)
	}
	return nil
}

// wordsOf are a line's words, up to a comment.
func wordsOf(line string) []string {
	var words []string
	begin := -1 // of the word that is gone over; -1: none is
	for i, r := range line {
		inside := begin >= 0
		switch {
		case inside && isBlank(r):
			words = append(words, line[begin:i])
			begin = -1
		case !inside && r == '#':
			return words
		case !inside && !isBlank(r):
			begin = i
		}
	}
	if begin >= 0 {
		words = append(words, line[begin:])
	}
	return words
}

func isBlank(r rune) bool { return r == ' ' || r == '\t' || r == '\r' }

func (r *reader) line(words []string) error {
	switch {
	case len(words) == 0:
		return nil
	case r.config == (api.Config{}):
		return r.machine(words)
	}
	return r.entry(words)
}

// machine reads the first line that means something.
func (r *reader) machine(words []string) error {
	if formOf(words) != formMachine {
		return fault(api.ErrLine)
	}
	n, whole := numbersOf(words)
	if !whole {
		return fault(api.ErrDigit)
	}
	c := api.Config{Threads: n[0], Records: n[1], Hazards: n[2], Retire: n[3], Cache: n[4], Slots: n[5], Buckets: n[6]}
	if e := word.Check(c); e != api.OK {
		return fault(e)
	}
	r.config = c
	return nil
}

// entry reads one of the lines behind the machine's.
func (r *reader) entry(words []string) error {
	n, whole := numbersOf(words)
	moves, times := r.meaning(words, n)
	switch {
	case len(moves) == 0:
		return fault(api.ErrLine)
	case !whole:
		return fault(api.ErrDigit)
	case times < 1 || times > api.MaxMoves:
		return fault(api.ErrRange)
	case len(r.moves)+times*len(moves) > api.MaxMoves:
		return fault(api.ErrLong)
	}
	for range times {
		r.moves = append(r.moves, moves...)
	}
	return nil
}

// meaning is which moves a line with these numbers has, and how often; no moves: it is of no form.
func (r *reader) meaning(words []string, n []int) ([]api.Move, int) {
	form := formOf(words)
	switch form {
	case formStep:
		return []api.Move{stepOf(n[0])}, 1
	case formSteps:
		return []api.Move{stepOf(n[0])}, n[1]
	case formRounds:
		return r.round(), n[0]
	case formOp:
		return []api.Move{{Thread: n[0], Op: api.Op(n[1]), Arg: n[2], Data: n[3]}}, 1
	}
	return call(words, form, n), 1
}

func stepOf(thread int) api.Move { return api.Move{Thread: thread, Op: api.OpStep} }

// round is a step of each thread.
func (r *reader) round() []api.Move {
	var steps []api.Move
	for thread := range r.config.Threads {
		steps = append(steps, stepOf(thread))
	}
	return steps
}

// call is the one move of a line with a call's word; none: it is no such line.
func call(words []string, form string, n []int) []api.Move {
	if len(words) < 2 {
		return nil
	}
	c, ok := callNamed(words[1])
	if !ok || form != c.form() {
		return nil
	}
	var given [3]int // what the line doesn't have stays 0
	copy(given[:], n)
	return []api.Move{{Thread: given[0], Op: c.op, Arg: given[1], Data: given[2]}}
}
