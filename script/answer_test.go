package script_test

import (
	"strconv"
	"testing"

	"reclaim/api"
	"reclaim/script"
)

func wantAnswer(t *testing.T, a api.Answer, want string, e api.Errno) {
	t.Helper()
	if text, got := script.Answer(a); text != want || got != e {
		t.Errorf("%+v: %q, %d, not %q, %d", a, text, got, want, e)
	}
}

// P17.5: the seven kinds; a value where there may be none.
func TestAnswers(t *testing.T) {
	texts := [7]string{"-", "done", "", "empty", "full", "yes", "no"}
	for i, text := range texts {
		kind := api.AnswerKind(i)
		if kind == api.AnswerValue {
			continue
		}
		wantAnswer(t, api.Answer{Kind: kind}, text, api.OK)
		for _, v := range []int{1, -1, 2, i, 1 << 32, greatest, least} {
			if v != 0 {
				wantAnswer(t, api.Answer{Kind: kind, Value: v}, "", api.ErrRange)
			}
		}
	}
}

// P17.5: values.
func TestAnswersWithValues(t *testing.T) {
	for _, v := range []int{0, 1, -1, -3, 9, 10, 1 << 32, greatest, least} {
		wantAnswer(t, api.Answer{Kind: api.AnswerValue, Value: v}, "value "+strconv.Itoa(v), api.OK)
	}
	wantAnswer(t, api.Answer{Kind: api.AnswerValue, Value: least}, "value -9223372036854775808", api.OK)
}

// P17.5: kinds that there aren't.
func TestAnswersOfNoKind(t *testing.T) {
	for _, kind := range []api.AnswerKind{-1, -2, 7, 8, 9, 100, 1 << 32, 1<<32 + 1, 1<<32 + 2, -1 << 32, -1<<32 + 2, greatest, least} {
		for _, v := range []int{0, 1, -1, greatest, least} {
			wantAnswer(t, api.Answer{Kind: kind, Value: v}, "", api.ErrRange)
		}
	}
}
