package model_test

import (
	"testing"

	"reclaim/api"
	"reclaim/model"
)

// P11.2: each op's object.
func TestObject(t *testing.T) {
	for object, ops := range objects {
		for _, op := range ops {
			if got := model.Object(op); got != object {
				t.Errorf("Object(%d) = %d, not %d", op, got, object)
			}
		}
	}
}

// P11.2: ops of no object, and numbers that are no op's.
func TestNoObject(t *testing.T) {
	for _, op := range foreign() {
		if got := model.Object(op); got != 0 {
			t.Errorf("Object(%d) = %d", op, got)
		}
	}
}

// Do, Allows and Play refuse such ops, but contents that may not be ahead of them.
func TestRefused(t *testing.T) {
	for _, op := range foreign() {
		wantRefused(t, api.Contents{}, op, api.ErrIllegal)
		wantRefused(t, filled(), op, api.ErrIllegal)
		wantRefused(t, setOf(2, 2), op, api.ErrState)
	}
	for _, s := range odd() {
		for _, op := range ops() {
			wantRefused(t, s, op, api.ErrState)
		}
	}
}
