package tower

import (
	"iter"
	"strconv"

	"reclaim/api"
	"reclaim/script"
	"reclaim/witness"
)

// calls is a line for each call.
func (a *account) calls() iter.Seq[string] { return linesOf(a.run.Calls, callLine) }

func callLine(number int, c api.Call) string {
	answer, _ := script.Answer(c.Answer)
	return filled("call _ thread _ _ begin _ end _ point _ _",
		strconv.Itoa(number), strconv.Itoa(c.Thread), whatText(c), timeText(c.Begin), timeText(c.End), timeText(c.Point), answer)
}

// whatText is what a call is of, as a line of a script has it behind the thread.
func whatText(c api.Call) string {
	given := []int{c.Arg, c.Data}
	word := script.Word(c.Op)
	if word == "" {
		word = "op " + strconv.Itoa(int(c.Op))
	} else {
		given = given[:takes(c.Op)]
	}
	return listText(append([]string{word}, numberTexts(given)...))
}

// takes is how many of Arg and Data a script's line has behind the op's word.
func takes(op api.Op) int {
	switch op {
	case api.OpTake, api.OpFlush, api.OpRegister, api.OpUnregister, api.OpScan, api.OpPop, api.OpDequeue:
		return 0
	case api.OpAdd:
		return 2
	}
	return 1
}

// order is that of the calls' points, and whether it explains the calls.
func (a *account) order() iter.Seq[string] {
	order, _ := witness.Points(a.run.Calls) // calls that it refuses are refused by Check as well
	verdict := "does not explain"
	if witness.Check(a.run.Calls, order) == api.OK {
		verdict = "explains"
	}
	return lines(filled("order _ _", listOf(order), verdict))
}
