package model_test

import (
	"testing"

	"reclaim/api"
	"reclaim/model"
)

// told is an answer that has contents, of a call that can be made again.
type told struct {
	what string
	call func(s api.Contents) api.Contents
}

// tellers are calls of all kinds, over all ops.
func tellers() []told {
	var out []told
	for _, op := range ops() {
		for _, arg := range []int{2, 3, 1, 8, -9, 99} {
			c := api.Call{Op: op, Arg: arg, Data: 5}
			out = append(out,
				told{"Do", func(s api.Contents) api.Contents { left, _, _ := model.Do(s, op, arg, 5); return left }},
				told{"Allows", func(s api.Contents) api.Contents { left, _, _ := model.Allows(s, c); return left }},
				told{"Play", func(s api.Contents) api.Contents { left, _, _ := model.Play(s, []api.Call{c, c, c}); return left }},
			)
		}
		stopped := []api.Call{{Op: op, Arg: 4, Answer: api.Answer{Kind: 9}}}
		full := api.Call{Op: op, Arg: 4, Answer: full}
		out = append(out,
			told{"Play that stops", func(s api.Contents) api.Contents { left, _, _ := model.Play(s, stopped); return left }},
			told{"Allows of Full", func(s api.Contents) api.Contents { left, _, _ := model.Allows(s, full); return left }},
		)
	}
	for object := 1; object <= 5; object++ {
		out = append(out, told{"Part", func(s api.Contents) api.Contents { p, _ := model.Part(s, object); return p }})
	}
	return append(out, told{"Play of nothing", func(s api.Contents) api.Contents { left, _, _ := model.Play(s, nil); return left }})
}

// roomy is filled contents whose lists lie in the middle of greater ones, with numbers around them.
func roomy() (s, around api.Contents) {
	f := filled()
	around = api.Contents{Cell: within(f.Cell, -77), Stack: within(f.Stack, -77), Queue: within(f.Queue, -77), Set: within(f.Set, -77), Table: within(f.Table, api.Pair{Key: -77, Value: 77})}
	s = api.Contents{Cell: inner(around.Cell), Stack: inner(around.Stack), Queue: inner(around.Queue), Set: inner(around.Set), Table: inner(around.Table)}
	return s, around
}

func within[T any](values []T, edge T) []T {
	return append(append([]T{edge}, values...), edge, edge, edge, edge)
}

// inner is the list within, with all behind it as its spare room.
func inner[T any](around []T) []T { return around[1 : len(around)-4] }

// fill writes one number into all of a list.
func fill[T any](values []T, with T) {
	for i := range values {
		values[i] = with
	}
}

// scribble writes into all lists, their spare room too.
func scribble(s api.Contents) {
	for _, l := range [][]int{s.Cell, s.Stack, s.Queue, s.Set} {
		fill(l[:cap(l)], 55)
	}
	fill(s.Table[:cap(s.Table)], api.Pair{Key: 55, Value: 55})
}

// P6: what is handed in stays as it was, its spare room too.
func TestKeepsWhatIsHandedIn(t *testing.T) {
	for _, x := range tellers() {
		s, around := roomy()
		_, want := roomy()
		x.call(s)
		model.May(s)
		model.Same(s, s)
		if !alike(around, want) {
			t.Fatalf("%s changes what is handed in: %+v", x.what, around)
		}
	}
	calls := story()
	model.Play(api.Contents{}, calls[:10])
	for i, c := range story() {
		if calls[i] != c {
			t.Fatalf("Play changes call %d: %+v", i, calls[i])
		}
	}
}

// P6: what is written into an answer, its spare room too, is seen neither in what was handed in nor in an answer
// to the same call.
func TestAnswersAreNew(t *testing.T) {
	for _, x := range tellers() {
		s, around := roomy()
		_, want := roomy()
		first, second := x.call(s), x.call(s)
		scribble(first)
		if !alike(around, want) {
			t.Fatalf("%s: the answer is part of what was handed in", x.what)
		}
		if third := x.call(s); !alike(second, third) {
			t.Fatalf("%s: two answers share: %+v, not %+v", x.what, second, third)
		}
		scribble(s)
		fresh, _ := roomy()
		if third := x.call(fresh); !alike(second, third) {
			t.Fatalf("%s: what was handed in is kept: %+v, not %+v", x.what, second, third)
		}
	}
}

// P6: no two lists of one answer share any, also where one list was handed in as several.
func TestListsShareNothing(t *testing.T) {
	one := make([]int, 1, 9)
	for _, x := range tellers() {
		for _, s := range []api.Contents{filled(), {Cell: one, Stack: one, Queue: one, Set: one}, {}} {
			answer := x.call(s)
			lists := [][]int{answer.Cell, answer.Stack, answer.Queue, answer.Set}
			for i, l := range lists {
				fill(l[:cap(l)], i+100)
			}
			for i, l := range lists {
				for _, v := range l[:cap(l)] {
					if v != i+100 {
						t.Fatalf("%s: list %d has %d", x.what, i, v)
					}
				}
			}
		}
	}
}

// P5: each int as an argument is answered, over odd contents too.
func TestAnyNumbers(t *testing.T) {
	numbers := []int{least, least + 1, -1 << 32, -1, 0, 1, 1 << 32, greatest - 1, greatest}
	for _, s := range append(odd(), api.Contents{}, filled(), setOf(least, greatest), tableOf(least, least, greatest, greatest)) {
		for _, op := range append(ops(), foreign()...) {
			for _, n := range numbers {
				wantPlainDo(t, s, op, n, -n)
				c := api.Call{Op: op, Arg: n, Data: n, Answer: api.Answer{Kind: api.AnswerKind(n), Value: n}}
				wantPlainAllows(t, s, c)
			}
		}
	}
}
