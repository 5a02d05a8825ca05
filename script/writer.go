package script

import (
	"strings"

	"reclaim/api"
)

// written is the text of a configuration and a script.
func written(c api.Config, moves []api.Move) string {
	var text strings.Builder
	text.WriteString(filled(formMachine, c.Threads, c.Records, c.Hazards, c.Retire, c.Cache, c.Slots, c.Buckets))
	for len(moves) > 0 {
		line, rest := nextLine(moves)
		text.WriteString(line)
		moves = rest
	}
	return text.String()
}

// nextLine is the line that moves begin with, and the moves behind it.
func nextLine(moves []api.Move) (string, []api.Move) {
	thread, steps := moves[0].Thread, stepsAhead(moves)
	switch steps {
	case 0:
		return callLine(moves[0]), moves[1:]
	case 1:
		return filled(formStep, thread), moves[1:]
	}
	return filled(formSteps, thread, steps), moves[steps:]
}

// stepsAhead is how many steps of one thread moves begin with.
func stepsAhead(moves []api.Move) int {
	step := stepOf(moves[0].Thread)
	for i, mv := range moves {
		if mv != step {
			return i
		}
	}
	return len(moves)
}

// callLine is the line of a move that is no step of a line of steps.
func callLine(mv api.Move) string {
	if c, ok := callOf(mv.Op); ok && c.tells(mv) {
		return filled(c.form(), mv.Thread, mv.Arg, mv.Data)
	}
	return filled(formOp, mv.Thread, int(mv.Op), mv.Arg, mv.Data)
}
