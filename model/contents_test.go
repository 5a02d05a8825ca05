package model_test

import (
	"testing"

	"reclaim/api"
	"reclaim/model"
)

// P11.1: what May tells.
func TestMay(t *testing.T) {
	for _, s := range []api.Contents{
		{}, filled(), {Cell: list(0)}, {Cell: list(-1 << 63)}, setOf(0), setOf(-2, -1, 0, 1), setOf(-1<<63, 1<<63-1), setOf(-1<<63, 0, 1<<63-1),
		tableOf(0, 0), tableOf(-2, 5, -1, 5, 0, 5), tableOf(-1<<63, 9, 1<<63-1, -9), tableOf(1, 3, 2, 2, 3, 1),
		{Stack: list(2, 2, 1), Queue: list(3, 3, 1)},
		{Cell: []int{}, Stack: []int{}, Queue: []int{}, Set: []int{}, Table: []api.Pair{}},
	} {
		if !model.May(s) {
			t.Errorf("%+v may not be", s)
		}
	}
}

// P11.1: one list that is odd is enough, whatever the others have.
func TestMayNot(t *testing.T) {
	for _, s := range odd() {
		if model.May(s) || model.May(over(s, filled())) {
			t.Errorf("%+v may be, alone or among others", s)
		}
	}
}

// P11.1, P7: contents are the same as themselves, whether they may be or not; nil and empty lists are.
func TestSame(t *testing.T) {
	bare := api.Contents{Cell: []int{}, Stack: make([]int, 0, 3), Queue: []int{}, Set: []int{}, Table: []api.Pair{}}
	for _, pair := range [][2]api.Contents{
		{{}, {}}, {{}, bare}, {bare, {}}, {bare, bare}, {filled(), filled()},
		{{Stack: list(1)}, {Stack: list(1), Cell: []int{}, Table: []api.Pair{}}},
	} {
		if !model.Same(pair[0], pair[1]) {
			t.Errorf("%+v and %+v are not the same", pair[0], pair[1])
		}
	}
	for i, a := range odd() {
		for j, b := range odd() {
			if got := model.Same(a, b); got != (i == j) {
				t.Errorf("Same(%+v, %+v) = %v", a, b, got)
			}
		}
	}
}

// P11.1: one entry of one list alone that is another, that is there or that is in another place.
func TestNotSame(t *testing.T) {
	for what, change := range map[string]func(s *api.Contents){
		"the cell's value":         func(s *api.Contents) { s.Cell[0]++ },
		"no cell":                  func(s *api.Contents) { s.Cell = nil },
		"a second value":           func(s *api.Contents) { s.Cell = append(s.Cell, s.Cell[0]) },
		"the stack's top":          func(s *api.Contents) { s.Stack[0]-- },
		"the stack's bottom":       func(s *api.Contents) { s.Stack[2] = -s.Stack[2] },
		"the stack's order":        func(s *api.Contents) { s.Stack[0], s.Stack[1] = s.Stack[1], s.Stack[0] },
		"a stack cut":              func(s *api.Contents) { s.Stack = s.Stack[:2] },
		"the queue's first":        func(s *api.Contents) { s.Queue[0]++ },
		"the queue's middle":       func(s *api.Contents) { s.Queue[1] = 1 },
		"the queue's last":         func(s *api.Contents) { s.Queue[2] = 3 },
		"a longer queue":           func(s *api.Contents) { s.Queue = append(s.Queue, 0) },
		"the set's first":          func(s *api.Contents) { s.Set[0]++ },
		"the set's last":           func(s *api.Contents) { s.Set[2]++ },
		"a set cut":                func(s *api.Contents) { s.Set = s.Set[1:] },
		"the first key":            func(s *api.Contents) { s.Table[0].Key++ },
		"the last key":             func(s *api.Contents) { s.Table[2].Key++ },
		"a key's value":            func(s *api.Contents) { s.Table[1].Value = 10 },
		"the last key's value":     func(s *api.Contents) { s.Table[2].Value++ },
		"a table cut":              func(s *api.Contents) { s.Table = s.Table[:2] },
		"a table without its keys": func(s *api.Contents) { s.Table = nil },
		"a list in another's place": func(s *api.Contents) {
			s.Stack, s.Queue = s.Queue, s.Stack
		},
	} {
		s := filled()
		change(&s)
		if model.Same(s, filled()) || model.Same(filled(), s) {
			t.Errorf("%s: the same", what)
		}
	}
	for k, s := range map[string]api.Contents{"a cell": {Cell: list(1)}, "a stack": {Stack: list(1)}, "a queue": {Queue: list(1)}, "a set": setOf(1), "a table": tableOf(1, 1)} {
		if model.Same(s, api.Contents{}) || model.Same(api.Contents{}, s) {
			t.Errorf("%s is as nothing", k)
		}
		for l, other := range map[string]api.Contents{"a cell": {Cell: list(1)}, "a stack": {Stack: list(1)}, "a queue": {Queue: list(1)}, "a set": setOf(1), "a table": tableOf(1, 1)} {
			if k != l && model.Same(s, other) {
				t.Errorf("%s is as %s", k, l)
			}
		}
	}
}

// P11.6: the object's list as it is, and nothing else.
func TestPart(t *testing.T) {
	f := filled()
	for object, want := range []api.Contents{1: {Cell: f.Cell}, 2: {Stack: f.Stack}, 3: {Queue: f.Queue}, 4: {Set: f.Set}, 5: {Table: f.Table}} {
		if object == 0 {
			continue
		}
		if got, e := model.Part(filled(), object); e != api.OK || !alike(got, want) {
			t.Errorf("Part of %d = %+v, %d, not %+v", object, got, e, want)
		}
		for _, s := range []api.Contents{{}, without(f, object)} {
			if got, e := model.Part(s, object); e != api.OK || !alike(got, api.Contents{}) {
				t.Errorf("Part of %+v and %d = %+v, %d", s, object, got, e)
			}
		}
	}
}

// P11.6: numbers of no object; contents that may not be come first.
func TestPartRefuses(t *testing.T) {
	for _, object := range []int{0, 6, -1, 7, 1 << 32, 1<<32 + 1, -1 << 63, 1<<63 - 1} {
		for _, s := range []api.Contents{{}, filled()} {
			if got, e := model.Part(s, object); e != api.ErrRange || !alike(got, api.Contents{}) {
				t.Errorf("Part of %d = %+v, %d", object, got, e)
			}
		}
	}
	for _, s := range odd() {
		for object := -1; object <= 7; object++ {
			if got, e := model.Part(s, object); e != api.ErrState || !alike(got, api.Contents{}) {
				t.Errorf("Part of %+v and %d = %+v, %d", s, object, got, e)
			}
		}
	}
}
