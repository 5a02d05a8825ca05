package witness_test

import (
	"testing"

	"reclaim/api"
	"reclaim/witness"
)

// late is the first example: a push that takes effect behind a pop that began later.
func late() []api.Call {
	return calls(
		at(8, call(0, api.OpPush, 1, 0, 9, done)),
		at(2, call(1, api.OpPop, 0, 1, 3, empty)),
		at(12, call(1, api.OpPop, 0, 10, 14, value(1))),
	)
}

func TestExample1(t *testing.T) {
	l := late()
	wantMay(t, "the first example", l, true)
	wantBefore(t, l, 1, 2, true)
	wantBefore(t, l, 0, 1, false)
	wantWidth(t, l, 2)
	wantPoints(t, l, 1, 0, 2)
	wantLeft(t, l, list(1, 0, 2), api.Contents{})
	wantCheck(t, l, list(0, 1, 2), api.ErrAnswer)
	wantCheck(t, l, list(2, 0, 1), api.ErrEarly)
	wantCheck(t, l, list(0, 1), api.ErrOrder)
	wantFound(t, l, 1, 1, 0, 2)
}

func TestExample2(t *testing.T) {
	two := calls(call(0, api.OpPush, 1, 0, 5, done), call(1, api.OpPush, 2, 1, 6, done))
	wantFound(t, two, 2, 0, 1)
	wantFound(t, append(two, call(0, api.OpPop, 0, 7, 9, value(1))), 1, 1, 0, 2)
	wantNone(t, append(two, call(0, api.OpPop, 0, 7, 9, value(3))))
}

func TestExample3(t *testing.T) {
	push := open(0, api.OpPush, 1, 0)
	wantFound(t, calls(push, call(1, api.OpPop, 0, 1, 3, value(1))), 1, 0, 1)
	none := calls(push, call(1, api.OpPop, 0, 1, 3, empty))
	wantFound(t, none, 2, 1)
	wantCheck(t, none, list(0, 1), api.ErrAnswer)
	wantLeft(t, none, list(1, 0), api.Contents{Stack: list(1)})
}

func TestExample4(t *testing.T) {
	wantFound(t, calls(call(0, api.OpRegister, 0, 0, 2, value(0))), 1)
}

func TestExample5(t *testing.T) {
	var nine []api.Call
	for i := range 9 {
		nine = append(nine, call(0, api.OpPush, i, 2*i, 2*i+1, done))
	}
	wantLong(t, nine)
	wantLeft(t, nine, upTo(9), api.Contents{Stack: list(8, 7, 6, 5, 4, 3, 2, 1, 0)})
	if e := witness.Check(nine, list(0, 1, 2)); e != api.ErrOrder {
		t.Errorf("Check of three of nine = %d", e)
	}
}
